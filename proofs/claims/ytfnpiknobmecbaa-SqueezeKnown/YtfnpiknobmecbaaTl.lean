/- Lists of texts: read, compared, lent, kept, written over, copied. -/
import Derived.Test.YtfnpiknobmecbaaRow
import Derived.Test.YtfnpiknobmecbaaRows
import Derived.WalkSpells
import Derived.Deep.QuietTactic
import Derived.BigQuiet
import Derived.Deep.RegionHeld3
namespace Go.Proofs.Ytfnpiknobmecbaa
open Go.ChangeShapes Go.WideShapes Go.ChangeAt Go.RowKit
set_option linter.unusedVariables false
set_option linter.unusedSimpArgs false


theorem tyT : ElemTy Try.prog 32 9 (.string ⟨#[]⟩) 16 := ⟨Try.underlying32, by kernel_rfl, rfl⟩
theorem tyN : ElemTy Try.prog 33 9 (.string ⟨#[]⟩) 16 := ⟨Try.underlying33, by kernel_rfl, rfl⟩
/-- Texts as values. -/
def tv (ss : List ByteArray) : List Value := ss.map Value.string
theorem tv_len (ss : List ByteArray) : (tv ss).length = ss.length := by simp [tv]
theorem tv_at (ss : List ByteArray) (i : Nat) (h : i < (tv ss).length) : (tv ss)[i] = .string (ss[i]'(by rw [← tv_len]; exact h)) := by simp [tv]
theorem tv_one (ss : List ByteArray) : ∀ u ∈ tv ss, u.oneCell' = true := by
  intro u hu
  simp only [tv, List.mem_map] at hu
  obtain ⟨s, _, rfl⟩ := hu
  rfl
theorem tv_append (a b : List ByteArray) : tv (a ++ b) = tv a ++ tv b := by simp [tv]
theorem tv_take (a : List ByteArray) (n : Nat) : (tv a).take n = tv (a.take n) := by simp [tv, List.map_take]
theorem tv_drop (a : List ByteArray) (n : Nat) : (tv a).drop n = tv (a.drop n) := by simp [tv, List.map_drop]
/-- Texts that can be read at an address. -/
def RdT (w : World) (a : Option Addr) (ss : List ByteArray) : Prop := RdV w a (tv ss)
theorem RdT.below {w w' : World} {a : Option Addr} {ss : List ByteArray} (h : RdT w a ss) (hb : Below w.heap.size w w') : RdT w' a ss := RdV.below h hb
theorem RdT.at {w : World} {a : Option Addr} {ss : List ByteArray} (h : RdT w a ss) (i : Nat) (hi : i < ss.length) : ∃ b o, a = some ⟨b, o, none⟩ ∧ b < w.heap.size ∧ w.cell? ⟨b, o + i, none⟩ = some (.string ss[i]) := by
  rcases h with h | ⟨b, o, rfl, h1, h2⟩
  · have := congrArg List.length h
    rw [tv_len] at this
    simp at this
    subst this
    simp at hi
  · refine ⟨b, o, rfl, h1, ?_⟩
    rw [h2 i (by rw [tv_len]; exact hi), tv_at]
set_option maxRecDepth 100000 in
set_option maxHeartbeats 1000000 in
theorem sameT_yes (a b : Option Addr) (n c d : Nat) (ss : List ByteArray) (w : World) (hr : RdT w a ss) (hr' : RdT w b ss) (hl : ss.length = n) (hn : n ≤ 9223372036854775807) :
    Calls Try.prog 41 #[.slice a n c, .slice b n d] w fun e w' => e = .returned (.bool true) ∧ Hid (Below w.heap.size w w') := by
  have HR : Hid (RdT w a ss ∧ RdT w b ss) := ⟨hr, hr'⟩
  have HL : Hid (ss.length = n) := hl
  clear hr hr' hl
  go_enter Try.func41, Try.ntmps41
  go_wp2_with fail
  go_loopw [5] (fun x wr => ∃ k : Nat, k ≤ n ∧ x = .int .i64 k ∧ Hid (Below w.heap.size w wr)) (fun x _ => n - (intOf x).toNat)
  case atStart => exact ⟨0, Nat.zero_le _, rfl, Below.refl _ _⟩
  case round =>
    obtain ⟨k, hk, rfl, HB⟩ := hrel
    by_cases hlt : k < n
    · have hlt' : (k : Int) < (n : Int) := by omega
      have hks : k < ss.length := by rw [HL.out]; exact hlt
      obtain ⟨b1, o1, rfl, l1, c1⟩ := (HR.out.1.below HB.out).at k hks
      obtain ⟨b2, o2, rfl, l2, c2⟩ := (HR.out.2.below HB.out).at k hks
      generalize ss[k] = s at *
      go_wp2_with fail
      go_quiet (fail)
      have HB2 : Hid (Below w.heap.size w (wr.drewN nq)) := HB.out.trans ⟨rfl, rfl, rfl, Nat.le_refl _, fun _ _ => rfl⟩
      clear c1 c2
      generalize wr.drewN nq = W2 at *
      go_wp2
      exact ⟨⟨k + 1, by omega, by go_num, HB2⟩, by simp [intOf]; omega⟩
    · have hge : (n : Int) ≤ (k : Int) := by omega
      go_wp2
      go_ret
      exact ⟨rfl, HB.out⟩
/-- The mark behind a list of texts that is lent. -/
def mk : ByteArray := ⟨#[108, 101, 110, 116]⟩
def lentT (ss : List ByteArray) (k : Nat) : List ByteArray := ss ++ List.replicate k mk ++ List.replicate (3 - k) ⟨#[]⟩
theorem lentT_len (ss : List ByteArray) (k : Nat) (h : k ≤ 3) : (lentT ss k).length = ss.length + 3 := by simp [lentT]; omega
theorem lentT_zero (ss : List ByteArray) : lentT ss 0 = ss ++ List.replicate 3 ⟨#[]⟩ := by simp [lentT]
theorem lentT_step (ss : List ByteArray) (k : Nat) (h : k < 3) : (tv (lentT ss k)).set (ss.length + k) (.string mk) = tv (lentT ss (k + 1)) := by
  have : k = 0 ∨ k = 1 ∨ k = 2 := by omega
  rcases this with rfl | rfl | rfl <;> simp [lentT, tv, List.replicate]
theorem lentT_take (ss : List ByteArray) (k : Nat) : (lentT ss k).take ss.length = ss := by simp [lentT]
set_option maxRecDepth 100000 in
set_option maxHeartbeats 1000000 in
theorem lentT_any (a : Option Addr) (cap len : Nat) (ss : List ByteArray) (w : World) (hr : RdT w a ss) (hl : ss.length = len) (hm : len ≤ 8796093022000) :
    Calls Try.prog 49 #[.slice a len cap] w fun e w' => e = .returned (.slice (some ⟨w.heap.size, 0, none⟩) len (len + 3)) ∧ Hid (BlkV w' w.heap.size 9 (tv (lentT ss 3)) ∧ Below w.heap.size w w') := by
  have HR : Hid (RdT w a ss) := hr
  have HL : Hid (ss.length = len) := hl
  clear hr hl
  have hW1 : BlkV (w.alloc (.cells (Array.replicate (len + 3) (Value.string ⟨#[]⟩)) 9)) w.heap.size 9 (List.replicate (len + 3) (.string ⟨#[]⟩)) := by
    unfold BlkV; rw [heap_alloc_new]; simp
  have hb1 : Below w.heap.size w (w.alloc (.cells (Array.replicate (len + 3) (Value.string ⟨#[]⟩)) 9)) := (Below.refl _ _).alloc (Nat.le_refl _) _
  obtain ⟨W2, hcp, hblk⟩ : ∃ W2, (Builtin.copy_ #[32, 32] 3 #[.slice (some ⟨w.heap.size, 0, none⟩) (len + 3) (len + 3), .slice a len cap]).run Try.prog (w.alloc (.cells (Array.replicate (len + 3) (Value.string ⟨#[]⟩)) 9)) = .ok (.int .i64 len) W2 ∧ Hid (BlkV W2 w.heap.size 9 (tv (lentT ss 0)) ∧ Below w.heap.size w W2) := by
    refine ⟨_, run_copy_V tyT _ 32 3 w.heap.size (len + 3) (len + 3) _ hW1 a len cap (tv ss) (HR.out.below hb1) (tv_one ss) (by rw [tv_len, HL.out]) (by omega) (by simp), ?_, below_setRow hb1 (Nat.le_refl _) _⟩
    have e : tv ss ++ (List.replicate (len + 3) (Value.string ⟨#[]⟩)).drop len = tv (lentT ss 0) := by
      rw [lentT_zero, tv_append, List.drop_replicate, Nat.add_sub_cancel_left]; rfl
    rw [e]
    exact hW1.row _
  clear hW1 hb1
  go_enter Try.func49, Try.ntmps49
  go_wp2_with (at_make; refine wpList_make_row tyT _ rfl _ _ rfl (len + 3) (len + 3) _ _ rfl rfl (by omega) (by omega) (by omega) (by omega) (by omega) ?_)
  clear hcp
  go_loopw [4] (fun i wr => ∃ k : Nat, k ≤ 3 ∧ i = .int .i64 (len + k : Nat) ∧ Hid (BlkV wr w.heap.size 9 (tv (lentT ss k)) ∧ Below w.heap.size w wr)) (fun i _ => (len + 3 - (intOf i).toNat))
  case atStart => exact ⟨0, by omega, rfl, hblk⟩
  case round =>
    obtain ⟨k, hk, rfl, HB⟩ := hrel
    clear hblk
    by_cases hlt : k < 3
    · have hc := HB.out.1.cell (len + k) (by rw [tv_len, lentT_len _ _ hk, HL.out]; omega)
      have hf := HB.out.1.frozen (len + k)
      have h1 : ((len + k : Nat) : Int) < (len : Int) + 3 := by omega
      generalize (tv (lentT ss k))[len + k]'(by rw [tv_len, lentT_len _ _ hk, HL.out]; omega) = q at *
      go_wp2
      refine ⟨⟨k + 1, by omega, by go_num, ?_, HB.out.2.setCell (Nat.le_refl _) _⟩, by simp [intOf]; omega⟩
      have hst := HB.out.1.stored (len + k) (.string mk)
      have e := lentT_step ss k hlt
      rw [HL.out] at e
      rw [e] at hst
      exact hst
    · obtain rfl : k = 3 := by omega
      go_wp2
      go_ret
      exact ⟨rfl, HB.out⟩
set_option maxRecDepth 100000 in
set_option maxHeartbeats 1000000 in
theorem keptT_at (g : Nat) (a : Option Addr) (cap len c : Nat) (ss : List ByteArray) (w : World) (hl : ss.length = len) (hb : BlkV w g 9 (tv (lentT ss 3))) (hr : RdT w a ss) (hm : len ≤ 8796093022000) (he : c = len + 3) :
    Calls Try.prog 52 #[.slice (some ⟨g, 0, none⟩) len c, .slice a len cap] w fun e w' => e = .returned (.bool true) ∧ Hid (Below w.heap.size w w') := by
  have HB : Hid (BlkV w g 9 (tv (lentT ss 3))) := hb
  have HR : Hid (RdT w a ss) := hr
  have hle : (len : Int) + 3 ≤ (c : Int) := by omega
  have hcm : c ≤ 8796093022003 := by omega
  have HX : Hid (∀ W : World, RdT W a ss → Calls Try.prog 49 #[.slice a len cap] W fun e w' => e = .returned (.slice (some ⟨W.heap.size, 0, none⟩) len c) ∧ Hid (BlkV w' W.heap.size 9 (tv (lentT ss 3)) ∧ Below W.heap.size W w')) := by
    intro W hW
    have := lentT_any a cap len ss W hW hl hm
    rw [← he] at this
    exact this
  have HY : Hid (∀ (W : World) (g' m : Nat), m = len + 3 → BlkV W g 9 (tv (lentT ss 3)) → BlkV W g' 9 (tv (lentT ss 3)) → Calls Try.prog 41 #[.slice (some ⟨g, 0, none⟩) c c, .slice (some ⟨g', 0, none⟩) m c] W fun e w' => e = .returned (.bool true) ∧ Hid (Below W.heap.size W w')) := by
    intro W g' m h0 h1 h2
    subst h0
    have hlen : (lentT ss 3).length = len + 3 := by rw [lentT_len _ _ (Nat.le_refl _), hl]
    have t1 := h1.rd (len + 3)
    have t2 := h2.rd (len + 3)
    rw [List.take_of_length_le (by rw [tv_len, hlen]; exact Nat.le_refl _)] at t1 t2
    have := sameT_yes _ _ _ c c _ W t1 t2 hlen (by omega)
    rw [← he] at this ⊢
    exact this
  have hw : IntKind.i64.wrap ((len : Int) + 3) = (len : Int) + 3 := by rw [IntKind.wrap_i64]; omega
  have hnn : (0 : Int) ≤ (len : Int) + 3 := by omega
  clear hl hb hr he
  go_enter Try.func52, Try.ntmps52
  go_wp2
  go_region_held3 (fun _ => True) (trivial) (first
    | (go_at_call 49; refine (HX.out _ ?_).mono ?_; exact HR.out.below (Below.refl _ _).drew; rintro e w1 ⟨rfl, H1⟩)
    | (go_at_call 41; refine (HY.out _ _ _ ?_ ?_ ?_).mono ?_; omega; exact HB.out.below ((Below.refl _ _).drew.trans H1.out.2); exact H1.out.1; rintro e w2 ⟨rfl, H2⟩))
  go_wp2
  go_ret
  exact ⟨rfl, ((Below.refl _ _).drew.trans H1.out.2).trans (H2.out.mono ((Below.refl _ _).drew.trans H1.out.2).size)⟩
/-- What writing over a text makes of it. -/
def bang (s : ByteArray) : ByteArray := s ++ ⟨#[33]⟩
def overT (ss : List ByteArray) (k : Nat) : List ByteArray := (ss.take k).map bang ++ ss.drop k
theorem overT_len (ss : List ByteArray) (k : Nat) : (overT ss k).length = ss.length := by simp [overT]; omega
theorem overT_at (ss : List ByteArray) (k : Nat) (h : k < ss.length) : (tv (overT ss k))[k]? = some (.string ss[k]) := by
  have e : ((ss.take k).map bang).length = k := by simp; omega
  simp [tv, overT]
  rw [List.getElem?_append_right (by simp; omega)]
  simp [show min k ss.length = k by omega]
theorem overT_step (ss : List ByteArray) (k : Nat) (h : k < ss.length) : (tv (overT ss k)).set k (.string (bang ss[k])) = tv (overT ss (k + 1)) := by
  have e : ((ss.take k).map bang).length = k := by simp; omega
  unfold overT
  rw [List.take_succ_eq_append_getElem h, List.map_append, List.drop_eq_getElem_cons h]
  simp only [tv_append]
  rw [List.set_append_right _ _ (by rw [tv_len, e]; exact Nat.le_refl _), tv_len, e, Nat.sub_self, List.append_assoc]
  rfl
set_option maxRecDepth 100000 in
set_option maxHeartbeats 1000000 in
theorem overT_blk (g n c : Nat) (ss : List ByteArray) (w : World) (hb : BlkV w g 9 (tv ss)) (hl : ss.length = c) (hn : n ≤ c) (hm : c ≤ maxLen) (hz : ∀ s ∈ ss, s.size ≤ 1000000000000) :
    Calls Try.prog 21 #[.slice (some ⟨g, 0, none⟩) n c] w fun e w' => e = .returned (.tuple #[]) ∧ Hid (BlkV w' g 9 (tv (ss.map bang)) ∧ w.grownBy w' (some g) ∧ w'.heap.size = w.heap.size) := by
  have HB : Hid (BlkV w g 9 (tv ss)) := hb
  have HL : Hid (ss.length = c) := hl
  clear hb hl
  unfold maxLen at hm
  go_enter Try.func21, Try.ntmps21
  go_wp2
  go_loopw [3] (fun i wr => ∃ k : Nat, k ≤ c ∧ i = .int .i64 k ∧ Hid (BlkV wr g 9 (tv (overT ss k)) ∧ w.grownBy wr (some g) ∧ wr.heap.size = w.heap.size)) (fun i _ => c - (intOf i).toNat)
  case atStart => exact ⟨0, by omega, rfl, by simpa [overT] using HB.out, World.grownBy.refl _ _, rfl⟩
  case round =>
    obtain ⟨k, hk, rfl, HW⟩ := hrel
    by_cases hlt : k < c
    · have hks : k < ss.length := by rw [HL.out]; exact hlt
      have hc := HW.out.1.cell k (by rw [tv_len, overT_len]; exact hks)
      have hat := overT_at ss k hks
      rw [List.getElem?_eq_getElem (by rw [tv_len, overT_len]; exact hks)] at hat
      rw [Option.some.inj hat] at hc
      have hf := HW.out.1.frozen k
      have h1 : (k : Int) < (c : Int) := by omega
      have HS : Hid (BlkV (wr.setCell ⟨g, k, none⟩ (.string (bang ss[k]))) g 9 (tv (overT ss (k + 1)))) := by
        have := HW.out.1.stored k (.string (bang ss[k]))
        rw [overT_step ss k hks] at this
        exact this
      clear hat
      have hsk : ss[k].size ≤ 1000000000000 := hz _ (List.getElem_mem hks)
      generalize ss[k] = s at *
      go_wp2
      refine ⟨⟨k + 1, by omega, by go_num, HS.out, ?_, ?_⟩, by simp [intOf]; omega⟩
      · obtain ⟨_, hG, hz⟩ := HW.out
        exact ⟨hG.os, hG.tape, hG.output, by rw [← hz]; simp [World.setCell], fun j hj hne => (Below.heap_setCell _ _ _ j (fun e => hne (by rw [e]))).trans (hG.block j hj hne)⟩
      · rw [← HW.out.2.2]; simp [World.setCell]
    · obtain rfl : k = c := by omega
      go_wp2
      go_end0
      have h := HW.out
      have e : overT ss k = ss.map bang := by
        unfold overT
        rw [List.take_of_length_le (by rw [HL.out]; exact Nat.le_refl _), List.drop_eq_nil_of_le (by rw [HL.out]; exact Nat.le_refl _), List.append_nil]
      rw [e] at h
      exact ⟨rfl, h⟩
end Go.Proofs.Ytfnpiknobmecbaa
