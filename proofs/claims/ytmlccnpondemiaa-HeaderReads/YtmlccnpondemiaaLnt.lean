/- Picked out of earlier texts. -/
import Derived.Test.YtmlccnpondemiaaKb
import Derived.Test.YtmlccnpondemiaaStr
import Derived.Deep.RegionHeld3
import Derived.Deep.QuietTactic
import Derived.BigQuiet
import Derived.WalkSpells
namespace Go.Proofs.Ytmlccnpondemiaa
open Go.ChangeShapes Go.WideShapes Go.ChangeAt Go.RowKit
set_option linter.unusedVariables false
set_option linter.unusedSimpArgs false

set_option maxRecDepth 100000 in
set_option maxHeartbeats 800000 in
theorem lent_any (a : Option Addr) (cap : Nat) (zs : List Int) (w : World) (hr : Rd w a zs) (hd : a = none → cap = 0) (hm : zs.length ≤ 140737488355328) :
    Calls Try.prog 17 #[.slice a zs.length cap] w fun e w' => e = .returned (.slice (some ⟨w.heap.size, 0, none⟩) zs.length (zs.length + 3)) ∧ Blk w' w.heap.size (lent zs 3) ∧ w'.heap.size = w.heap.size + 1 ∧ Below w.heap.size w w' := by
  have HR : Hid (Rd w a zs) := hr
  have HD : Hid (a = none → cap = 0) := hd
  clear hr hd
  obtain ⟨len, hlen⟩ : ∃ len, len = zs.length := ⟨_, rfl⟩
  rw [← hlen] at hm ⊢
  have HL : Hid (len = zs.length) := hlen
  clear hlen
  have hW1 : Blk (w.alloc (.cells (Array.replicate (len + 3) (Value.int .u8 0)) 5)) w.heap.size (List.replicate (len + 3) 0) := by
    refine ⟨?_, fun z hz => ?_⟩
    · rw [heap_alloc_new]; simp
    · rw [(List.mem_replicate.1 hz).2]; omega
  have hb1 : Below w.heap.size w (w.alloc (.cells (Array.replicate (len + 3) (Value.int .u8 0)) 5)) := (Below.refl _ _).alloc (Nat.le_refl _) _
  obtain ⟨W2, hcp, hblk, hsz, hbel⟩ : ∃ W2, (Builtin.copy_ #[30, 30] 3 #[.slice (some ⟨w.heap.size, 0, none⟩) (len + 3) (len + 3), .slice a len cap]).run Try.prog (w.alloc (.cells (Array.replicate (len + 3) (Value.int .u8 0)) 5)) = .ok (.int .i64 len) W2 ∧ Hid (Blk W2 w.heap.size (lent zs 0)) ∧ W2.heap.size = w.heap.size + 1 ∧ Below w.heap.size w W2 := by
    refine ⟨_, run_copy_blk _ 3 w.heap.size (len + 3) (len + 3) _ hW1 a len cap zs (HR.out.below hb1) HL.out.symm (by omega) (by simp) HD.out, ?_, ?_, ?_⟩
    · have e : zs ++ (List.replicate (len + 3) (0 : Int)).drop len = lent zs 0 := by
        rw [lent_zero, List.drop_replicate, Nat.add_sub_cancel_left]; rfl
      refine ⟨by rw [setRow_heap _ _ _ _ 5 _ hW1.1, e], fun z hz => ?_⟩
      rw [lent_zero] at hz
      simp only [List.mem_append, List.mem_cons, List.not_mem_nil, or_false, or_self] at hz
      rcases hz with hz | rfl
      · exact HR.out.2 z hz
      · omega
    · simp [World.setRow]
    · exact below_setRow hb1 (Nat.le_refl _) _
  clear hW1 hb1
  go_enter Try.func17, Try.ntmps17
  go_wp2_with (at_make; refine wpList_make_blk _ rfl _ _ rfl (len + 3) (len + 3) _ _ rfl rfl (by omega) (by omega) (by omega) (by omega) ?_)
  clear hcp
  go_loopw [4] (fun i wr => ∃ k : Nat, k ≤ 3 ∧ i = .int .i64 (len + k : Nat) ∧ Hid (Blk wr w.heap.size (lent zs k)) ∧ wr.heap.size = w.heap.size + 1 ∧ Below w.heap.size w wr) (fun i _ => (len + 3 - (intOf i).toNat))
  case atStart => exact ⟨0, by omega, rfl, hblk, hsz, hbel⟩
  case round =>
    obtain ⟨k, hk, rfl, hB, hz, hbl⟩ := hrel
    by_cases hlt : k < 3
    · have hc := hB.out.cell (len + k) (by rw [lent_len _ _ hk, ← HL.out]; omega)
      have hf := hB.out.frozen (len + k)
      have h1 : ((len + k : Nat) : Int) < (len : Int) + 3 := by omega
      clear hblk hsz hbel
      go_wp2
      refine ⟨⟨k + 1, by omega, by go_num, ?_, ?_, ?_⟩, by simp [intOf]; omega⟩
      · have hst := hB.out.stored (len + k) (160 + ((len : Int) + (k : Int)) % 90) (by omega)
        have e := lent_step zs k hlt
        rw [← HL.out] at e
        rw [e] at hst
        exact hst
      · rw [← hz]; simp [World.setCell]
      · exact hbl.setCell (Nat.le_refl _) _
    · obtain rfl : k = 3 := by omega
      go_wp2
      go_ret
      exact ⟨rfl, hB.out, hz, hbl⟩

set_option maxRecDepth 100000 in
set_option maxHeartbeats 400000 in
theorem kept_at (g : Nat) (a : Option Addr) (cap len c : Nat) (zs : List Int) (w : World) (hl : zs.length = len) (hb : Blk w g (lent zs 3)) (hr : Rd w a zs) (hd : a = none → cap = 0) (hm : len ≤ 140737488355328) (hc : len ≤ cap) (he : c = len + 3) :
    Calls Try.prog 20 #[.slice (some ⟨g, 0, none⟩) len c, .slice a len cap] w fun e w' => e = .returned (.bool true) ∧ Below w.heap.size w w' := by
  have HL : Hid (zs.length = len) := hl
  have HB : Hid (Blk w g (lent zs 3)) := hb
  have HR : Hid (Rd w a zs) := hr
  have HD : Hid (a = none → cap = 0) := hd
  have HE : Hid (c = len + 3) := he
  have hle : (len : Int) + 3 ≤ (c : Int) := by omega
  have hcm : c ≤ 140737488355331 := by omega
  have HX : Hid (∀ W : World, Rd W a zs → Calls Try.prog 17 #[.slice a len cap] W fun e w' => e = .returned (.slice (some ⟨W.heap.size, 0, none⟩) len c) ∧ Blk w' W.heap.size (lent zs 3) ∧ w'.heap.size = W.heap.size + 1 ∧ Below W.heap.size W w') := by
    intro W hW
    have := lent_any a cap zs W hW hd (by rw [hl]; exact hm)
    rw [hl, ← he] at this
    exact this
  have HY : Hid (∀ (W : World) (g' m : Nat), m = len + 3 → Blk W g (lent zs 3) → Blk W g' (lent zs 3) → Calls Try.prog 12 #[.slice (some ⟨g, 0, none⟩) c c, .slice (some ⟨g', 0, none⟩) m c] W fun e w' => e = .returned (.bool true) ∧ w' = W) := by
    intro W g' m h0 h1 h2
    subst h0
    have hlen : (lent zs 3).length = len + 3 := by rw [lent_len _ _ (Nat.le_refl _), hl]
    have t1 := h1.rd (len + 3)
    have t2 := h2.rd (len + 3)
    rw [List.take_of_length_le (by rw [hlen]; exact Nat.le_refl _)] at t1 t2
    have := same_yes _ _ _ c c _ W t1 t2 hlen
    rw [← he] at this ⊢
    exact this
  have hw : IntKind.i64.wrap ((len : Int) + 3) = (len : Int) + 3 := by rw [IntKind.wrap_i64]; omega
  have hnn : (0 : Int) ≤ (len : Int) + 3 := by omega
  clear hl hb hr hd he
  go_enter Try.func20, Try.ntmps20
  go_wp2
  go_region_held3 (fun _ => True) (trivial) (first
    | (go_at_call 17; refine (HX.out _ ?_).mono ?_; exact HR.out.drew; rintro e w1 ⟨rfl, hb1, hs1, hbel1⟩)
    | (go_at_call 12; refine (HY.out _ _ _ ?_ ?_ ?_).mono ?_; omega; exact HB.out.drew.below hbel1; exact hb1; rintro e w2 ⟨rfl, rfl⟩))
  go_wp2
  go_ret
  exact ⟨rfl, (Below.refl _ _).drew.trans hbel1⟩
theorem kept_yes (g : Nat) (a : Option Addr) (cap len : Nat) (zs : List Int) (w : World) (hl : zs.length = len) (hb : Blk w g (lent zs 3)) (hr : Rd w a zs) (hd : a = none → cap = 0) (hm : len ≤ 140737488355328) (hc : len ≤ cap) :
    Calls Try.prog 20 #[.slice (some ⟨g, 0, none⟩) len (len + 3), .slice a len cap] w fun e w' => e = .returned (.bool true) ∧ Below w.heap.size w w' :=
  kept_at g a cap len (len + 3) zs w hl hb hr hd hm hc rfl
end Go.Proofs.Ytmlccnpondemiaa
