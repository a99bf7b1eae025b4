/- Texts laid together: Kb Dm Lg Ha Hb Hc Nxa. -/
import Derived.Test.YtdeoembjfdbbkaaPrb
import Derived.Deep.QuietTactic
import Derived.BigQuiet
import Derived.Deep.RegionHeld3
import Derived.WalkSpells
import Derived.WalkKit
import Derived.ProofKit
import Derived.OpenShut
import Derived.ShutString
import Derived.ChangeOld
import Derived.Below
import Derived.JoinedCond
import Derived.Deep.Strs
import Derived.Deep.Slices
import Derived.Lib.SmallJoins
import Derived.Deep.CutBlock
import Derived.Lib.Bytealg
/- What the statements' helpers do with lists of bytes. -/
namespace Go.Proofs.Ytdeoembjfdbbkaa
open Go.ChangeShapes Go.WideShapes Go.ChangeAt Go.RowKit
set_option linter.unusedVariables false
set_option linter.unusedSimpArgs false




set_option maxRecDepth 100000 in
set_option maxHeartbeats 400000 in
theorem same_yes (a b : Option Addr) (n c d : Nat) (zs : List Int) (w : World) (hr : Rd w a zs) (hr' : Rd w b zs) (hl : zs.length = n) :
    Calls Try.prog 12 #[.slice a n c, .slice b n d] w fun e w' => e = .returned (.bool true) ∧ w' = w := by
  have h1 := conv_rd a n c zs w hr hl
  have h2 := conv_rd b n d zs w hr' hl
  clear hr hr'
  generalize txt zs = t at *
  go_enter Try.func12, Try.ntmps12
  go_wp2
  go_ret
  exact ⟨rfl, rfl⟩
/-- The marks behind a list that is lent. -/
def marks (n : Nat) : List Int := [160 + (n : Int) % 90, 160 + ((n : Int) + 1) % 90, 160 + ((n : Int) + 2) % 90]
def lent (zs : List Int) (k : Nat) : List Int := zs ++ (marks zs.length).take k ++ List.replicate (3 - k) 0
theorem lent_len (zs : List Int) (k : Nat) (h : k ≤ 3) : (lent zs k).length = zs.length + 3 := by
  simp [lent, marks]; omega
theorem lent_step (zs : List Int) (k : Nat) (h : k < 3) : (lent zs k).set (zs.length + k) (160 + ((zs.length : Int) + k) % 90) = lent zs (k + 1) := by
  have : k = 0 ∨ k = 1 ∨ k = 2 := by omega
  rcases this with rfl | rfl | rfl <;> simp [lent, marks, List.replicate]
theorem lent_zero (zs : List Int) : lent zs 0 = zs ++ [0, 0, 0] := by simp [lent, List.replicate]
theorem lent_take (zs : List Int) (k : Nat) : (lent zs k).take zs.length = zs := by simp [lent]
set_option maxRecDepth 100000 in
set_option maxHeartbeats 800000 in
theorem lent_any (a : Option Addr) (cap : Nat) (zs : List Int) (w : World) (hr : Rd w a zs) (hd : a = none → cap = 0) (hm : zs.length ≤ 140737488355328) :
    Calls Try.prog 26 #[.slice a zs.length cap] w fun e w' => e = .returned (.slice (some ⟨w.heap.size, 0, none⟩) zs.length (zs.length + 3)) ∧ Blk w' w.heap.size (lent zs 3) ∧ w'.heap.size = w.heap.size + 1 ∧ Below w.heap.size w w' := by
  have HR : Hid (Rd w a zs) := hr
  have HD : Hid (a = none → cap = 0) := hd
  clear hr hd
  obtain ⟨len, hlen⟩ : ∃ len, len = zs.length := ⟨_, rfl⟩
  rw [← hlen] at hm ⊢
  have HL : Hid (len = zs.length) := hlen
  clear hlen
  have hW1 : Blk (w.alloc (.cells (Array.replicate (len + 3) (Value.int .u8 0)) 5)) w.heap.size (List.replicate (len + 3) 0) := by
    refine ⟨?_, fun z hz => ?_⟩
    · rw [heap_alloc_new]; simp
    · rw [(List.mem_replicate.1 hz).2]; omega
  have hb1 : Below w.heap.size w (w.alloc (.cells (Array.replicate (len + 3) (Value.int .u8 0)) 5)) := (Below.refl _ _).alloc (Nat.le_refl _) _
  obtain ⟨W2, hcp, hblk, hsz, hbel⟩ : ∃ W2, (Builtin.copy_ #[27, 27] 3 #[.slice (some ⟨w.heap.size, 0, none⟩) (len + 3) (len + 3), .slice a len cap]).run Try.prog (w.alloc (.cells (Array.replicate (len + 3) (Value.int .u8 0)) 5)) = .ok (.int .i64 len) W2 ∧ Hid (Blk W2 w.heap.size (lent zs 0)) ∧ W2.heap.size = w.heap.size + 1 ∧ Below w.heap.size w W2 := by
    refine ⟨_, run_copy_blk _ 3 w.heap.size (len + 3) (len + 3) _ hW1 a len cap zs (HR.out.below hb1) HL.out.symm (by omega) (by simp) HD.out, ?_, ?_, ?_⟩
    · have e : zs ++ (List.replicate (len + 3) (0 : Int)).drop len = lent zs 0 := by
        rw [lent_zero, List.drop_replicate, Nat.add_sub_cancel_left]; rfl
      refine ⟨by rw [setRow_heap _ _ _ _ 5 _ hW1.1, e], fun z hz => ?_⟩
      rw [lent_zero] at hz
      simp only [List.mem_append, List.mem_cons, List.not_mem_nil, or_false, or_self] at hz
      rcases hz with hz | rfl
      · exact HR.out.2 z hz
      · omega
    · simp [World.setRow]
    · exact below_setRow hb1 (Nat.le_refl _) _
  clear hW1 hb1
  go_enter Try.func26, Try.ntmps26
  go_wp2_with (at_make; refine wpList_make_blk _ rfl _ _ rfl (len + 3) (len + 3) _ _ rfl rfl (by omega) (by omega) (by omega) (by omega) ?_)
  clear hcp
  go_loopw [4] (fun i wr => ∃ k : Nat, k ≤ 3 ∧ i = .int .i64 (len + k : Nat) ∧ Hid (Blk wr w.heap.size (lent zs k)) ∧ wr.heap.size = w.heap.size + 1 ∧ Below w.heap.size w wr) (fun i _ => (len + 3 - (intOf i).toNat))
  case atStart => exact ⟨0, by omega, rfl, hblk, hsz, hbel⟩
  case round =>
    obtain ⟨k, hk, rfl, hB, hz, hbl⟩ := hrel
    by_cases hlt : k < 3
    · have hc := hB.out.cell (len + k) (by rw [lent_len _ _ hk, ← HL.out]; omega)
      have hf := hB.out.frozen (len + k)
      have h1 : ((len + k : Nat) : Int) < (len : Int) + 3 := by omega
      clear hblk hsz hbel
      go_wp2
      refine ⟨⟨k + 1, by omega, by go_num, ?_, ?_, ?_⟩, by simp [intOf]; omega⟩
      · have hst := hB.out.stored (len + k) (160 + ((len : Int) + (k : Int)) % 90) (by omega)
        have e := lent_step zs k hlt
        rw [← HL.out] at e
        rw [e] at hst
        exact hst
      · rw [← hz]; simp [World.setCell]
      · exact hbl.setCell (Nat.le_refl _) _
    · obtain rfl : k = 3 := by omega
      go_wp2
      go_ret
      exact ⟨rfl, hB.out, hz, hbl⟩
/-- A new list of bytes out of 'append([]byte{}, b...)'. -/
theorem empty_own (w : World) : Own w.heap.size (w.alloc (.cells #[] 5)) (.slice (some ⟨w.heap.size, 0, none⟩) 0 0) 0 [] :=
  .inr ⟨w.heap.size, rfl, Nat.le_refl _, ⟨by rw [heap_alloc_new]; rfl, by simp⟩, Nat.le_refl _, Nat.zero_le _⟩
set_option maxRecDepth 100000 in
set_option maxHeartbeats 800000 in
theorem copy_any (a : Option Addr) (cap : Nat) (zs : List Int) (w : World) (hr : Rd w a zs) (hd : a = none → cap = 0) (hm : zs.length ≤ 140737488355328) :
    Calls Try.prog 33 #[.slice a zs.length cap] w fun e w' => ∃ v ys, e = .returned v ∧ Own w.heap.size w' v zs.length ys ∧ ys.take zs.length = zs ∧ Below w.heap.size w w' := by
  have HR : Hid (Rd w a zs) := hr
  have HD : Hid (a = none → cap = 0) := hd
  clear hr hd
  obtain ⟨len, hlen⟩ : ∃ len, len = zs.length := ⟨_, rfl⟩
  rw [← hlen] at hm ⊢
  have HL : Hid (len = zs.length) := hlen
  clear hlen
  have hb1 : Below w.heap.size w (w.alloc (.cells #[] 5)) := (Below.refl _ _).alloc (Nat.le_refl _) _
  go_enter Try.func33, Try.ntmps33
  go_wp2_with (at_builtin; refine wpList_append_blk _ rfl _ _ rfl w.heap.size _ 0 [] rfl (empty_own w) a len cap zs rfl (HR.out.below hb1) HL.out.symm HD.out (by omega) (by simp) ?_; intro v' w' zs' hO hT hG)
  go_ret
  refine ⟨v', zs', rfl, ?_, ?_, ?_⟩
  · have h := hO.out
    rw [Nat.zero_add] at h
    exact h
  · have h := hT.out
    rw [Nat.zero_add] at h
    simpa using h
  · refine hb1.grown hG (by simp) ?_
    intro k hk
    have e : w.heap.size = k := Option.some.inj hk
    omega
set_option maxRecDepth 100000 in
set_option maxHeartbeats 800000 in
theorem clone_any (x : Addr) (cap : Nat) (zs : List Int) (w : World) (hr : Rd w (some x) zs) (hm : zs.length ≤ 140737488355328) :
    Calls Try.prog 89 #[.slice (some x) zs.length cap] w fun e w' => ∃ v ys, e = .returned v ∧ Own w.heap.size w' v zs.length ys ∧ ys.take zs.length = zs ∧ Below w.heap.size w w' := by
  have HR : Hid (Rd w (some x) zs) := hr
  clear hr
  obtain ⟨len, hlen⟩ : ∃ len, len = zs.length := ⟨_, rfl⟩
  rw [← hlen] at hm ⊢
  have HL : Hid (len = zs.length) := hlen
  clear hlen
  have hb1 : Below w.heap.size w (w.alloc (.cells #[] 5)) := (Below.refl _ _).alloc (Nat.le_refl _) _
  have hnil : ∀ W : World, (binOp .eql 27 (.slice (some x) len cap) (.slice none 0 0)).run Try.prog W = .ok (.bool false) W := fun W => Lib.run_eql_slice_nil W _ _ _ _ _ _ _ Try.underlying27
  go_enter Try.func89, Try.ntmps89
  go_wp2_with (at_builtin; refine wpList_append_blk _ rfl _ _ rfl w.heap.size _ 0 [] rfl (empty_own w) (some x) len cap zs rfl (HR.out.below hb1) HL.out.symm (by simp) (by omega) (by simp) ?_; intro v' w' zs' hO hT hG)
  go_ret
  refine ⟨v', zs', rfl, ?_, ?_, ?_⟩
  · have h := hO.out
    rw [Nat.zero_add] at h
    exact h
  · have h := hT.out
    rw [Nat.zero_add] at h
    simpa using h
  · refine hb1.grown hG (by simp) ?_
    intro k hk
    have e : w.heap.size = k := Option.some.inj hk
    omega
theorem clone_none (w : World) :
    Calls Try.prog 89 #[.slice none 0 0] w fun e w' => e = .returned (.slice none 0 0) ∧ w' = w := by
  have hnil : ∀ W : World, (binOp .eql 27 (.slice none 0 0) (.slice none 0 0)).run Try.prog W = .ok (.bool true) W := fun W => Lib.run_eql_slice_nil W _ _ _ _ _ _ _ Try.underlying27
  go_enter Try.func89, Try.ntmps89
  go_wp2
  go_ret
  exact ⟨rfl, rfl⟩
/-- What writing over a byte makes of it. -/
def x90 (z : Int) : Int := bits .xor .u8 z 90
theorem x90_eq (z : Int) (h : 0 ≤ z ∧ z ≤ 255) : x90 z = ((z.toNat ^^^ 90 : Nat) : Int) := u8_xor z 90 h.1 (by omega) (by omega) (by omega)
theorem x90_bd (z : Int) (h : 0 ≤ z ∧ z ≤ 255) : 0 ≤ x90 z ∧ x90 z ≤ 255 := by
  rw [x90_eq z h]
  have : z.toNat ^^^ 90 < 2 ^ 8 := Nat.xor_lt_two_pow (by omega) (by omega)
  omega
theorem x90_x90 (z : Int) (h : 0 ≤ z ∧ z ≤ 255) : x90 (x90 z) = z := by
  rw [x90_eq _ (x90_bd z h), x90_eq z h]
  simp [Nat.xor_assoc]
  omega
def over (zs : List Int) (k : Nat) : List Int := (zs.take k).map x90 ++ zs.drop k
theorem over_len (zs : List Int) (k : Nat) : (over zs k).length = zs.length := by simp [over]; omega
theorem over_at (zs : List Int) (k : Nat) (h : k < zs.length) : (over zs k).getD k 0 = zs.getD k 0 := by
  simp [over, List.getD_eq_getElem?_getD, List.getElem?_append, Nat.min_eq_left (Nat.le_of_lt h)]
theorem over_step (zs : List Int) (k : Nat) (h : k < zs.length) : (over zs k).set k (x90 (zs.getD k 0)) = over zs (k + 1) := by
  have e : zs.drop k = zs.getD k 0 :: zs.drop (k + 1) := by
    rw [List.drop_eq_getElem_cons h]; simp [List.getD_eq_getElem?_getD, h]
  have l : ((zs.take k).map x90).length = k := by simp; omega
  unfold over
  rw [e, List.set_append_right _ _ (by omega), l, Nat.sub_self, List.set_cons_zero, take_snoc zs k h]
  simp
theorem over_all (zs : List Int) : over zs zs.length = zs.map x90 := by simp [over]
theorem over_zero (zs : List Int) : over zs 0 = zs := by simp [over]
set_option maxRecDepth 100000 in
set_option maxHeartbeats 800000 in
theorem over_blk (g n : Nat) (zs : List Int) (w : World) (hb : Blk w g zs) (hn : n ≤ zs.length) (hm : zs.length ≤ maxLen) :
    Calls Try.prog 30 #[.slice (some ⟨g, 0, none⟩) n zs.length] w fun e w' => e = .returned (.tuple #[]) ∧ Blk w' g (zs.map x90) ∧ w.grownBy w' (some g) ∧ w'.heap.size = w.heap.size := by
  have HB : Hid (Blk w g zs) := hb
  clear hb
  obtain ⟨len, hlen⟩ : ∃ len, len = zs.length := ⟨_, rfl⟩
  rw [← hlen] at hn hm ⊢
  have HL : Hid (len = zs.length) := hlen
  clear hlen
  unfold maxLen at hm
  go_enter Try.func30, Try.ntmps30
  go_wp2
  go_loopw [3] (fun i wr => ∃ k : Nat, k ≤ len ∧ i = .int .i64 k ∧ Hid (Blk wr g (over zs k)) ∧ w.grownBy wr (some g) ∧ wr.heap.size = w.heap.size) (fun i _ => len - (intOf i).toNat)
  case atStart => exact ⟨0, by omega, rfl, by rw [over_zero]; exact HB, World.grownBy.refl _ _, rfl⟩
  case round =>
    obtain ⟨k, hk, rfl, hB, hG, hz⟩ := hrel
    by_cases hlt : k < len
    · have hc := hB.out.cell k (by rw [over_len, ← HL.out]; omega)
      rw [over_at _ _ (by rw [← HL.out]; omega)] at hc
      have hf := hB.out.frozen k
      have h1 : (k : Int) < (len : Int) := by omega
      go_wp2
      have hzb : 0 ≤ zs.getD k 0 ∧ zs.getD k 0 ≤ 255 := by
        rcases Nat.lt_or_ge k zs.length with h | h
        · have := HB.out.2 (zs[k]) (List.getElem_mem h)
          simpa [List.getD_eq_getElem?_getD, h] using this
        · have := HL.out; omega
      have hst := hB.out.stored k (x90 (zs.getD k 0)) (x90_bd _ hzb)
      rw [over_step _ _ (by rw [← HL.out]; omega)] at hst
      refine ⟨⟨k + 1, by omega, by go_num, ?_, ?_, ?_⟩, by simp [intOf]; omega⟩
      · rw [← List.getD_eq_getElem?_getD]; exact hst
      · exact ⟨hG.os, hG.tape, hG.output, by rw [← hz]; simp [World.setCell], fun j hj hne => (Below.heap_setCell _ _ _ j (fun e => hne (by rw [e]))).trans (hG.block j hj hne)⟩
      · rw [← hz]; simp [World.setCell]
    · obtain rfl : k = len := by omega
      go_wp2
      go_end0
      have h := hB.out
      rw [HL.out, over_all] at h
      exact ⟨rfl, h, hG, hz⟩
theorem over_nil (w : World) :
    Calls Try.prog 30 #[.slice none 0 0] w fun e w' => e = .returned (.tuple #[]) ∧ w' = w := by
  go_enter Try.func30, Try.ntmps30
  go_wp2
  go_loop [3] (fun i => i = .int .i64 0) (fun _ => 0)
  case atStart => rfl
  case round =>
    subst hrel
    go_wp2
    go_end0
    exact ⟨rfl, rfl⟩
theorem over_any (B : Nat) (ao : Option Addr) (n : Nat) (zs : List Int) (w : World) (h : OwnA B w ao n zs) :
    Calls Try.prog 30 #[.slice ao n zs.length] w fun e w' => e = .returned (.tuple #[]) ∧ OwnA B w' ao n (zs.map x90) ∧ w.grownBy w' (blk ao) ∧ w'.heap.size = w.heap.size := by
  rcases h with ⟨rfl, rfl, rfl⟩ | ⟨g, rfl, hB, hb, hn, hm⟩
  · refine (over_nil w).mono ?_
    rintro e w' ⟨rfl, rfl⟩
    exact ⟨rfl, .inl ⟨rfl, rfl, rfl⟩, World.grownBy.refl _ _, rfl⟩
  · refine (over_blk g n zs w hb hn hm).mono ?_
    rintro e w' ⟨rfl, h1, h2, h3⟩
    exact ⟨rfl, .inr ⟨g, rfl, hB, h1, by simpa using hn, by simpa using hm⟩, h2, h3⟩
theorem map_x90_x90 (zs : List Int) (h : ∀ z ∈ zs, 0 ≤ z ∧ z ≤ 255) : (zs.map x90).map x90 = zs := by
  rw [List.map_map]
  conv => rhs; rw [← List.map_id zs]
  exact List.map_congr_left fun z hz => x90_x90 z (h z hz)
/-- A list's address, its length, what its block holds. -/
abbrev Elem := Option Addr × Nat × List Int
/-- The lists lie one behind the other in the block L, each in a block of its own from B on. -/
def Lie (B : Nat) (w : World) (L : Nat) (es : List Elem) : Prop :=
  L < w.heap.size ∧ ∀ k (h : k < es.length), w.cell? ⟨L, k, none⟩ = some (.slice es[k].1 es[k].2.1 es[k].2.2.length) ∧ OwnA B w es[k].1 es[k].2.1 es[k].2.2
/-- No two of them share a block, and none lies in the block L. -/
def Apart (L : Nat) (es : List Elem) : Prop :=
  (∀ k (h : k < es.length), blk es[k].1 ≠ some L) ∧ ∀ j k (hj : j < es.length) (hk : k < es.length), j ≠ k → ∀ g, blk es[j].1 = some g → blk es[k].1 ≠ some g
theorem Lie.below {B : Nat} {w w' : World} {L : Nat} {es : List Elem} (h : Lie B w L es) (hb : Below w.heap.size w w') : Lie B w' L es :=
  ⟨Nat.lt_of_lt_of_le h.1 hb.size, fun k hk => ⟨(hb.cell (p := ⟨L, k, none⟩) h.1).trans (h.2 k hk).1, (h.2 k hk).2.below hb⟩⟩
/-- One of them was written over. -/
theorem Lie.wrote {B : Nat} {w w' : World} {L : Nat} {es : List Elem} (h : Lie B w L es) (ha : Apart L es) (i : Nat) (hi : i < es.length) (zs : List Int) (hl : zs.length = es[i].2.2.length)
    (hg : w.grownBy w' (blk es[i].1)) (hs : w'.heap.size = w.heap.size) (ho : OwnA B w' es[i].1 es[i].2.1 zs) : Lie B w' L (es.set i (es[i].1, es[i].2.1, zs)) := by
  refine ⟨by rw [hs]; exact h.1, fun k hk => ?_⟩
  have hk' : k < es.length := by simpa using hk
  have hcell : w'.cell? ⟨L, k, none⟩ = w.cell? ⟨L, k, none⟩ := World.cell?_of_block (w := w) (hg.block L h.1 (fun e => (ha.1 i hi) e.symm))
  by_cases e : i = k
  · subst e
    rw [List.getElem_set_self, hcell, (h.2 i hi).1]
    exact ⟨by simp [hl], ho⟩
  · rw [List.getElem_set_ne e, hcell]
    refine ⟨(h.2 k hk').1, (h.2 k hk').2.keep fun g hg' hgl => ?_⟩
    exact hg.block g hgl (fun e' => (ha.2 i k hi hk' e g e'.symm) hg')
theorem Apart.set {L : Nat} {es : List Elem} (ha : Apart L es) (i : Nat) (hi : i < es.length) (zs : List Int) : Apart L (es.set i (es[i].1, es[i].2.1, zs)) := by
  have key : ∀ k (h : k < (es.set i (es[i].1, es[i].2.1, zs)).length), (es.set i (es[i].1, es[i].2.1, zs))[k].1 = (es[k]'(by simpa using h)).1 := by
    intro k h
    by_cases e : i = k
    · subst e; simp
    · rw [List.getElem_set_ne e]
  refine ⟨fun k hk => by rw [key]; exact ha.1 k (by simpa using hk), fun j k hj hk hne g => ?_⟩
  rw [key, key]; exact ha.2 j k (by simpa using hj) (by simpa using hk) hne g
/-- Copies of the lists' whole blocks, the first m of them, in blocks from S + 1 on, one behind the other in the block S. -/
def Copies (S : Nat) (w : World) (es : List Elem) (m : Nat) : Prop :=
  S < w.heap.size ∧ (∀ k, k < es.length → (∃ u, w.cell? ⟨S, k, none⟩ = some u) ∧ w.frozen? ⟨S, k, none⟩ = false) ∧
  ∀ k (h : k < es.length), k < m → ∃ ao c, w.cell? ⟨S, k, none⟩ = some (.slice ao es[k].2.2.length c) ∧ Rd w ao es[k].2.2 ∧ ∀ b o, ao = some ⟨b, o, none⟩ → S < b
theorem Copies.below {S : Nat} {w w' : World} {es : List Elem} {m : Nat} (h : Copies S w es m) (hb : Below w.heap.size w w') : Copies S w' es m := by
  refine ⟨Nat.lt_of_lt_of_le h.1 hb.size, fun k hk => ?_, fun k hk hm => ?_⟩
  · rw [hb.cell (p := ⟨S, k, none⟩) h.1, hb.frozen (p := ⟨S, k, none⟩) h.1]; exact h.2.1 k hk
  · obtain ⟨ao, c, h1, h2, h3⟩ := h.2.2 k hk hm
    exact ⟨ao, c, (hb.cell (p := ⟨S, k, none⟩) h.1).trans h1, h2.below hb, h3⟩
/-- A block below S is written: the copies stay. -/
theorem Copies.wrote {S : Nat} {w w' : World} {es : List Elem} {m : Nat} (h : Copies S w es m) {row : Option Nat} (hg : w.grownBy w' row) (hr : ∀ g, row = some g → g < S) : Copies S w' es m := by
  have hS : w'.heap[S]? = w.heap[S]? := hg.block S h.1 (fun e => by have := hr S e.symm; omega)
  refine ⟨Nat.lt_of_lt_of_le h.1 hg.size, fun k hk => ?_, fun k hk hm => ?_⟩
  · rw [World.cell?_of_block (w := w) (a := ⟨S, k, none⟩) hS, World.frozen?_of_block (w := w) (a := ⟨S, k, none⟩) hS]; exact h.2.1 k hk
  · obtain ⟨ao, c, h1, h2, h3⟩ := h.2.2 k hk hm
    refine ⟨ao, c, (World.cell?_of_block (w := w) (a := ⟨S, k, none⟩) hS).trans h1, ?_, h3⟩
    refine ⟨?_, h2.2⟩
    rcases h2.1 with e | ⟨b, o, rfl, e1, e2⟩
    · exact .inl e
    · refine .inr ⟨b, o, rfl, Nat.lt_of_lt_of_le e1 hg.size, fun i hi => ?_⟩
      rw [← e2 i hi]
      refine World.cell?_of_block (w := w) (a := ⟨b, o + i, none⟩) (hg.block b e1 (fun e => ?_))
      have := hr b e.symm
      have := h3 b o rfl
      omega
theorem Apart.of {L : Nat} {es : List Elem} (h1 : ∀ e ∈ es, blk e.1 ≠ some L) (h2 : es.Pairwise fun e f => ∀ g, blk e.1 = some g → blk f.1 ≠ some g) : Apart L es := by
  refine ⟨fun k hk => h1 _ (List.getElem_mem hk), fun j k hj hk hne g h3 h4 => ?_⟩
  rcases Nat.lt_or_gt_of_ne hne with h | h
  · exact List.pairwise_iff_getElem.1 h2 j k hj hk h g h3 h4
  · exact List.pairwise_iff_getElem.1 h2 k j hk hj h g h4 h3
/-- Two lists, the second made when the first was there, share no block. -/
theorem OwnA.apart {B B' : Nat} {w w' : World} {ao bo : Option Addr} {n m : Nat} {zs ys : List Int} (h1 : OwnA B w ao n zs) (h2 : OwnA B' w' bo m ys) (hw : w.heap.size ≤ B') : ∀ g, blk ao = some g → blk bo ≠ some g := by
  intro g e1 e2
  have := (h1.lt g e1).2
  have := (h2.lt g e2).1
  omega
theorem Lie.of {B L : Nat} {w : World} {es : List Elem} (hL : L < w.heap.size) (hc : ∀ k (h : k < es.length), w.cell? ⟨L, k, none⟩ = some (.slice es[k].1 es[k].2.1 es[k].2.2.length)) (ho : ∀ e ∈ es, OwnA B w e.1 e.2.1 e.2.2) : Lie B w L es :=
  ⟨hL, fun k hk => ⟨hc k hk, ho _ (List.getElem_mem hk)⟩⟩
set_option maxRecDepth 100000 in
set_option maxHeartbeats 400000 in
theorem kept_at (g : Nat) (a : Option Addr) (cap len c : Nat) (zs : List Int) (w : World) (hl : zs.length = len) (hb : Blk w g (lent zs 3)) (hr : Rd w a zs) (hd : a = none → cap = 0) (hm : len ≤ 140737488355328) (hc : len ≤ cap) (he : c = len + 3) :
    Calls Try.prog 29 #[.slice (some ⟨g, 0, none⟩) len c, .slice a len cap] w fun e w' => e = .returned (.bool true) ∧ Below w.heap.size w w' := by
  have HL : Hid (zs.length = len) := hl
  have HB : Hid (Blk w g (lent zs 3)) := hb
  have HR : Hid (Rd w a zs) := hr
  have HD : Hid (a = none → cap = 0) := hd
  have HE : Hid (c = len + 3) := he
  have hle : (len : Int) + 3 ≤ (c : Int) := by omega
  have hcm : c ≤ 140737488355331 := by omega
  have HX : Hid (∀ W : World, Rd W a zs → Calls Try.prog 26 #[.slice a len cap] W fun e w' => e = .returned (.slice (some ⟨W.heap.size, 0, none⟩) len c) ∧ Blk w' W.heap.size (lent zs 3) ∧ w'.heap.size = W.heap.size + 1 ∧ Below W.heap.size W w') := by
    intro W hW
    have := lent_any a cap zs W hW hd (by rw [hl]; exact hm)
    rw [hl, ← he] at this
    exact this
  have HY : Hid (∀ (W : World) (g' m : Nat), m = len + 3 → Blk W g (lent zs 3) → Blk W g' (lent zs 3) → Calls Try.prog 12 #[.slice (some ⟨g, 0, none⟩) c c, .slice (some ⟨g', 0, none⟩) m c] W fun e w' => e = .returned (.bool true) ∧ w' = W) := by
    intro W g' m h0 h1 h2
    subst h0
    have hlen : (lent zs 3).length = len + 3 := by rw [lent_len _ _ (Nat.le_refl _), hl]
    have t1 := h1.rd (len + 3)
    have t2 := h2.rd (len + 3)
    rw [List.take_of_length_le (by rw [hlen]; exact Nat.le_refl _)] at t1 t2
    have := same_yes _ _ _ c c _ W t1 t2 hlen
    rw [← he] at this ⊢
    exact this
  have hw : IntKind.i64.wrap ((len : Int) + 3) = (len : Int) + 3 := by rw [IntKind.wrap_i64]; omega
  have hnn : (0 : Int) ≤ (len : Int) + 3 := by omega
  clear hl hb hr hd he
  go_enter Try.func29, Try.ntmps29
  go_wp2
  go_region_held3 (fun _ => True) (trivial) (first
    | (go_at_call 26; refine (HX.out _ ?_).mono ?_; exact HR.out.drew; rintro e w1 ⟨rfl, hb1, hs1, hbel1⟩)
    | (go_at_call 12; refine (HY.out _ _ _ ?_ ?_ ?_).mono ?_; omega; exact HB.out.drew.below hbel1; exact hb1; rintro e w2 ⟨rfl, rfl⟩))
  go_wp2
  go_ret
  exact ⟨rfl, (Below.refl _ _).drew.trans hbel1⟩
theorem kept_yes (g : Nat) (a : Option Addr) (cap len : Nat) (zs : List Int) (w : World) (hl : zs.length = len) (hb : Blk w g (lent zs 3)) (hr : Rd w a zs) (hd : a = none → cap = 0) (hm : len ≤ 140737488355328) (hc : len ≤ cap) :
    Calls Try.prog 29 #[.slice (some ⟨g, 0, none⟩) len (len + 3), .slice a len cap] w fun e w' => e = .returned (.bool true) ∧ Below w.heap.size w w' :=
  kept_at g a cap len (len + 3) zs w hl hb hr hd hm hc rfl
theorem Try.info27 : (Try.prog.info? 27).map (fun i => (i.zero, i.size, i.bytes)) = some (some (.slice none 0 0), 1, 24) := by kernel_rfl
theorem copies_zero {B : Nat} {w : World} {S n : Nat} {xs : List Value} (es : List Elem) (hn : es.length = n) (h : w.ownsRow B 27 1 (.slice (some ⟨S, 0, none⟩) n n) n xs) : Copies S w es 0 := by
  rcases h.2 with ⟨e, _⟩ | ⟨g, cap, cur, e, _, hg, hc, _, hs, _⟩
  · cases e
  · have e1 : S = g := by injection e with e1 _ _; injection e1 with e1; injection e1
    have e2 : n = cap := by injection e
    subst e1; subst e2
    have hlt : S < w.heap.size := (Array.getElem?_eq_some_iff.1 hg).1
    refine ⟨hlt, fun k hk => ⟨?_, ?_⟩, fun k _ hk => absurd hk (by omega)⟩
    · refine ⟨cur[k]'(by omega), ?_⟩
      have hk' : k < cur.size := by omega
      simp [World.cell?, hg, hk']
    · simp [World.frozen?, hg]
theorem Copies.stored {S : Nat} {w : World} {es : List Elem} {m : Nat} (h : Copies S w es m) (hm : m < es.length) (ao : Option Addr) (c : Nat) (hr : Rd w ao es[m].2.2) (hb : ∀ b o, ao = some ⟨b, o, none⟩ → S < b) :
    Copies S (w.setCell ⟨S, m, none⟩ (.slice ao es[m].2.2.length c)) es (m + 1) := by
  have hsz : (w.setCell ⟨S, m, none⟩ (.slice ao es[m].2.2.length c)).heap.size = w.heap.size := by simp [World.setCell]
  have hoth : ∀ b, S < b → (w.setCell ⟨S, m, none⟩ (.slice ao es[m].2.2.length c)).heap[b]? = w.heap[b]? := fun b hb => Below.heap_setCell _ _ _ b (by show b ≠ S; omega)
  have rdk : ∀ (a' : Option Addr) (zs : List Int), Rd w a' zs → (∀ b o, a' = some ⟨b, o, none⟩ → S < b) → Rd (w.setCell ⟨S, m, none⟩ (.slice ao es[m].2.2.length c)) a' zs :=
    fun a' zs h1 h2 => h1.of_blocks (by rw [hsz]; exact Nat.le_refl _) fun b o e => hoth b (h2 b o e)
  obtain ⟨⟨u, hu⟩, hf⟩ := h.2.1 m hm
  have hat : ∀ k, (w.setCell ⟨S, m, none⟩ (.slice ao es[m].2.2.length c)).cell? ⟨S, k, none⟩ = if k = m then some (.slice ao es[m].2.2.length c) else w.cell? ⟨S, k, none⟩ := by
    intro k
    by_cases e : k = m
    · subst e; rw [if_pos rfl]; exact World.cell?_setCell_same _ _ _ hu
    · rw [if_neg e]; exact World.cell?_setCell_other _ _ _ _ (by intro e'; injection e' with _ e' _; exact e e'.symm)
  refine ⟨by rw [hsz]; exact h.1, fun k hk => ⟨?_, ?_⟩, fun k hk hkm => ?_⟩
  · rw [hat]
    by_cases e : k = m
    · exact ⟨_, if_pos e⟩
    · rw [if_neg e]; exact (h.2.1 k hk).1
  · rw [World.frozen?_setCell]; exact (h.2.1 k hk).2
  · by_cases e : k = m
    · subst e
      exact ⟨ao, c, by rw [hat, if_pos rfl], rdk _ _ hr hb, hb⟩
    · obtain ⟨a', c', h1, h2, h3⟩ := h.2.2 k hk (by omega)
      exact ⟨a', c', by rw [hat, if_neg e]; exact h1, rdk _ _ h2 h3, h3⟩
theorem Lie.stored {B : Nat} {w : World} {L S : Nat} {es : List Elem} (h : Lie B w L es) (hL : L < S) (hS : ∀ k (h : k < es.length) g, blk es[k].1 = some g → g < S) (m : Nat) (u : Value) : Lie B (w.setCell ⟨S, m, none⟩ u) L es := by
  have hoth : ∀ b, b ≠ S → (w.setCell ⟨S, m, none⟩ u).heap[b]? = w.heap[b]? := fun b hb => Below.heap_setCell _ _ _ b hb
  refine ⟨by rw [show (w.setCell ⟨S, m, none⟩ u).heap.size = w.heap.size by simp [World.setCell]]; exact h.1, fun k hk => ⟨?_, ?_⟩⟩
  · rw [World.cell?_of_block (w := w) (a := ⟨L, k, none⟩) (hoth L (by omega))]; exact (h.2 k hk).1
  · exact (h.2 k hk).2.keep fun g hg _ => hoth g (by have := hS k hk g hg; omega)
set_option maxRecDepth 100000 in
set_option maxHeartbeats 2000000 in
theorem apart_wide (B L N C : Nat) (es : List Elem) (w : World) (hN : es.length = N) (hNC : N ≤ C) (hNb : N ≤ 1000) (hB : B ≤ w.heap.size) (hBL : B ≤ L) (hlie : Lie B w L es) (hap : Apart L es) (hsm : ∀ k (h : k < es.length), es[k].2.2.length ≤ 140737488355328) :
    Calls Try.prog 14 #[.slice (some ⟨L, 0, none⟩) N C] w fun e w' => e = .returned (.bool true) ∧ Below B w w' := by
  have HN : Hid (es.length = N) := hN
  have HL : Hid (Lie B w L es) := hlie
  have HA : Hid (Apart L es) := hap
  have HS : Hid (∀ k (h : k < es.length), es[k].2.2.length ≤ 140737488355328) := hsm
  clear hN hlie hap hsm
  obtain ⟨i23, hi, hz0, hz1, hz2⟩ := info_parts Try.info27
  have HI : Hid (Try.prog.info? 27 = some i23 ∧ i23.zero = some (.slice none 0 0) ∧ i23.size = 1 ∧ i23.bytes = 24) := ⟨hi, hz0, hz1, hz2⟩
  clear hi hz0 hz1 hz2
  go_enter Try.func14, Try.ntmps14
  go_wp2_with fail
  go_loopw [3] (fun i wr => ∃ k : Nat, k ≤ N ∧ i = .int .i64 k ∧ Hid (Lie B wr L es) ∧ Below B w wr) (fun i _ => N - (intOf i).toNat)
  case atStart => exact ⟨0, by omega, rfl, HL, Below.refl _ _⟩
  case round =>
    obtain ⟨i, hi, rfl, HD, hbel⟩ := hrel
    by_cases hlt : i < N
    · have hlt' : (i : Int) < (N : Int) := by omega
      have hBr : B ≤ wr.heap.size := Nat.le_trans hB hbel.size
      go_wp2_with (at_make; refine wpList_make_full _ rfl _ _ _ rfl wr.heap.size 27 i23 (.slice none 0 0) 1 Try.underlying38 HI.out.1 HI.out.2.1 HI.out.2.2.1 _ _ _ _ N rfl rfl rfl rfl (by rw [HI.out.2.2.2]; omega) (by simp only [maxLen]; omega) (Nat.le_refl _) ?_; intro w1 hown hgr)
      have hbel1 : Below wr.heap.size wr w1 := ⟨hgr.os, hgr.tape, hgr.output, hgr.size, fun k hk => hgr.block k hk (by simp)⟩
      obtain ⟨S, hS⟩ : ∃ S, S = wr.heap.size := ⟨_, rfl⟩
      have HLS : Hid (∀ k (h : k < es.length) g, blk es[k].1 = some g → g < S) := fun k h g hg => by rw [hS]; exact ((HD.out.2 k h).2.lt g hg).2
      have hLS : L < S := by rw [hS]; exact HD.out.1
      have hBS : B ≤ S := by rw [hS]; exact hBr
      have HC0 : Hid (Copies S w1 es 0) := by rw [hS]; exact copies_zero es HN.out hown
      have HD1 : Hid (Lie B w1 L es) := HD.out.below hbel1
      have hb1 : Below B w w1 := hbel.trans (hbel1.mono hBr)
      rw [← hS]
      clear hown hgr hbel1 HD hbel hBr hS
      go_loopw [5] (fun x w2 => ∃ k : Nat, k ≤ N ∧ x = .int .i64 k ∧ Hid (Lie B w2 L es) ∧ Hid (Copies S w2 es k) ∧ Below B w w2) (fun x _ => N - (intOf x).toNat)
      case atStart => exact ⟨0, by omega, rfl, HD1, HC0, hb1⟩
      case round =>
        obtain ⟨k, hk, rfl, HD2, HC2, hb2⟩ := hrel
        clear HD1 HC0 hb1
        by_cases hkl : k < N
        · have hkl' : (k : Int) < (N : Int) := by omega
          have hke : k < es.length := by rw [HN.out]; exact hkl
          obtain ⟨ao, hao⟩ : ∃ ao, es[k].1 = ao := ⟨_, rfl⟩
          obtain ⟨n, hn⟩ : ∃ n, es[k].2.1 = n := ⟨_, rfl⟩
          obtain ⟨c, hc⟩ : ∃ c, es[k].2.2.length = c := ⟨_, rfl⟩
          have hcL := (HD2.out.2 k hke).1
          rw [hao, hn, hc] at hcL
          have hle := (HD2.out.2 k hke).2.le
          rw [hn, hc] at hle
          obtain ⟨hnc, hcm⟩ := hle
          unfold maxLen at hcm
          have HX : Hid (∀ W : World, Below B w W → Lie B W L es → Copies S W es k → Calls Try.prog 33 #[.slice ao c c] W fun e w' => ∃ a' c', e = .returned (.slice a' c c') ∧ w'.cell? ⟨L, k, none⟩ = some (.slice ao n c) ∧ (∃ u, w'.cell? ⟨S, k, none⟩ = some u) ∧ w'.frozen? ⟨S, k, none⟩ = false ∧ Hid (Below B w w' ∧ Lie B w' L es ∧ Copies S w' es k ∧ Rd w' a' es[k].2.2 ∧ ∀ b o, a' = some ⟨b, o, none⟩ → S < b)) := by
            intro W h0 h1 h2
            have hx := copy_any ao c es[k].2.2 W (by rw [← hao]; exact (h1.2 k hke).2.rd) (by rw [← hao, ← hc]; exact (h1.2 k hke).2.nil) (HS.out k hke)
            rw [hc] at hx
            refine hx.mono ?_
            rintro e w' ⟨v, ys, rfl, hO, hT, hbl⟩
            obtain ⟨a', rfl, hOA⟩ := hO.addr
            have l1 := h1.below hbl
            have c1 := h2.below hbl
            refine ⟨a', _, rfl, ?_, (c1.2.1 k hke).1, (c1.2.1 k hke).2, h0.trans (hbl.mono (Nat.le_trans hB h0.size)), l1, c1, ?_, ?_⟩
            · have := (l1.2 k hke).1
              rw [hao, hn, hc] at this
              exact this
            · have := hOA.rdTake c
              rw [hT] at this
              exact this
            · rintro b o rfl
              have := (hOA.lt b rfl).1
              have := h2.1
              omega
          clear hao hn
          have HC : Hid (es[k].2.2.length = c) := hc
          clear hc
          have hne : ¬ S = L := by omega
          go_wp2_with fail
          go_region_held3 (fun W => W.cell? ⟨L, k, none⟩ = some (.slice ao n c)) (go_keep) (first
            | (go_at_call 33; refine (HX.out _ ?_ ?_ ?_).mono ?_; exact hb2.drew; exact HD2.out.below (Below.refl _ _).drew; exact HC2.out.below (Below.refl _ _).drew; rintro e w3 ⟨a', c', rfl, hcl, ⟨u, hcu⟩, hfr, HH⟩))
          obtain ⟨q1, q2, q3, q4, q5⟩ := HH.out
          have hst : Copies S (w3.setCell ⟨S, k, none⟩ (.slice a' c c')) es (k + 1) := by
            have := q3.stored hke a' c' q4 q5
            rw [HC.out] at this
            exact this
          have hli : Lie B (w3.setCell ⟨S, k, none⟩ (.slice a' c c')) L es := q2.stored hLS HLS.out k _
          have hbb : Below B w (w3.setCell ⟨S, k, none⟩ (.slice a' c c')) := q1.setCell hBS _
          clear q1 q2 q3 q4 q5 hcl hcu hfr
          go_wp2
          exact ⟨⟨k + 1, by omega, by go_num, hli, hst, hbb⟩, by simp [intOf]; omega⟩
        · have HC3 : Hid (Copies S wr es N) := by
            have e : k = N := by omega
            rw [← e]; exact HC2
          clear HC2
          have hie : i < es.length := by rw [HN.out]; exact hlt
          obtain ⟨ao, hao⟩ : ∃ ao, es[i].1 = ao := ⟨_, rfl⟩
          obtain ⟨n, hn⟩ : ∃ n, es[i].2.1 = n := ⟨_, rfl⟩
          obtain ⟨c, hc⟩ : ∃ c, es[i].2.2.length = c := ⟨_, rfl⟩
          have hcL := (HD2.out.2 i hie).1
          rw [hao, hn, hc] at hcL
          have HO : Hid (OwnA B wr ao n es[i].2.2) := by
            have := (HD2.out.2 i hie).2
            rw [hao, hn] at this; exact this
          have HV : Hid (es[i].1 = ao ∧ es[i].2.1 = n ∧ es[i].2.2.length = c) := ⟨hao, hn, hc⟩
          clear hao hn hc
          have HY : Hid (∀ (W : World) (zs : List Int), OwnA B W ao n zs → zs.length = c → Calls Try.prog 30 #[.slice ao n c] W fun e w' => e = .returned (.tuple #[]) ∧ Hid (OwnA B w' ao n (zs.map x90) ∧ W.grownBy w' (blk ao) ∧ w'.heap.size = W.heap.size)) := by
            intro W zs h1 h2
            have := over_any B ao n zs W h1
            rw [h2] at this
            exact this
          go_wp2_with fail
          refine (HY.out _ _ HO.out HV.out.2.2).mono ?_
          rintro e w4 ⟨rfl, HW⟩
          obtain ⟨q1, q2, q3⟩ := HW.out
          obtain ⟨v1, v2, v3⟩ := HV.out
          obtain ⟨es', hes'⟩ : ∃ es', es' = es.set i (es[i].1, es[i].2.1, es[i].2.2.map x90) := ⟨_, rfl⟩
          have HD4 : Hid (Lie B w4 L es') := by
            rw [hes']
            exact HD2.out.wrote HA.out i hie _ (by simp) (by rw [v1]; exact q2) q3 (by rw [v1, v2]; exact q1)
          have hrow : ∀ g, blk ao = some g → g < S ∧ B ≤ g := by
            intro g hg
            rw [← v1] at hg
            exact ⟨HLS.out i hie g hg, ((HD2.out.2 i hie).2.lt g hg).1⟩
          have HC4 : Hid (Copies S w4 es N) := HC3.out.wrote q2 (fun g hg => (hrow g hg).1)
          have hb4 : Below B w w4 := hb2.grown q2 (Nat.le_trans hB hb2.size) (fun g hg => (hrow g hg).2)
          have HE : Hid (es' = es.set i (es[i].1, es[i].2.1, es[i].2.2.map x90)) := hes'
          have HRW : Hid (∀ g, blk ao = some g → g < S ∧ B ≤ g) := hrow
          clear q1 q2 q3 v1 v2 v3 hes' hrow HD2 HC3 hb2 HO hcL HW
          go_wp2_with fail
          go_loopw [2, 6] (fun _ x w5 => ∃ k : Nat, k ≤ N ∧ x = .int .i64 k ∧ Hid (Lie B w5 L es') ∧ Hid (Copies S w5 es N) ∧ Below B w w5) (fun _ x _ => N - (intOf x).toNat)
          case atStart => exact ⟨0, by omega, rfl, HD4, HC4, hb4⟩
          case round =>
            obtain ⟨m, hm, rfl, HD5, HC5, hb5⟩ := hrel
            clear HD4 HC4 hb4
            by_cases hml : m < N
            · have hml' : (m : Int) < (N : Int) := by omega
              have hme : m < es.length := by rw [HN.out]; exact hml
              by_cases hmi : m = i
              · have hg1 : ((m : Int) != (i : Int)) = false := by simp [hmi]
                clear hmi
                go_wp2_with fail
                go_quiet (fail)
                have hdn : Below wr.heap.size wr (wr.drewN nq) := ⟨rfl, rfl, rfl, Nat.le_refl _, fun _ _ => rfl⟩
                have hli := HD5.out.below hdn
                have hco := HC5.out.below hdn
                have hbb := hb5.trans (hdn.mono (Nat.le_trans hB hb5.size))
                clear hdn
                go_wp2
                exact ⟨⟨m + 1, by omega, by go_num, hli, hco, hbb⟩, by simp [intOf]; omega⟩
              · have hg1 : ((m : Int) != (i : Int)) = true := by simp; omega
                have hm' : m < es'.length := by rw [HE.out]; simpa using hme
                have hsame : es'[m] = es[m] := by
                  have e := HE.out
                  subst e
                  exact List.getElem_set_ne (fun e => hmi e.symm) _
                obtain ⟨am, ham⟩ : ∃ x, es[m].1 = x := ⟨_, rfl⟩
                obtain ⟨nm, hnm⟩ : ∃ x, es[m].2.1 = x := ⟨_, rfl⟩
                obtain ⟨cm, hcm⟩ : ∃ x, es[m].2.2.length = x := ⟨_, rfl⟩
                have hL5 := HD5.out.2 m hm'
                rw [hsame] at hL5
                obtain ⟨hcl, ho5⟩ := hL5
                obtain ⟨a', c', hcs, hrd, _⟩ := HC5.out.2.2 m hme hml
                rw [ham, hnm, hcm] at hcl
                rw [hcm] at hcs
                have hle := ho5.le
                rw [hnm, hcm] at hle
                obtain ⟨hnc, hcmx⟩ := hle
                unfold maxLen at hcmx
                have hrd1 := ho5.rd
                rw [ham] at hrd1
                have HZ : Hid (∀ W : World, Below wr.heap.size wr W → Calls Try.prog 12 #[.slice am cm cm, .slice a' cm c'] W fun e w' => e = .returned (.bool true) ∧ w' = W) := by
                  intro W hW
                  exact same_yes am a' cm cm c' _ W (hrd1.below hW) (hrd.below hW) hcm
                clear hsame ham hnm hcm ho5 hrd hrd1 hmi hm'
                go_wp2_with fail
                go_region_held3 (fun W => W.cell? ⟨L, m, none⟩ = some (.slice am nm cm) ∧ W.cell? ⟨S, m, none⟩ = some (.slice a' cm c')) (go_keep) (first
                  | (go_at_call 12; refine (HZ.out _ ?_).mono ?_; exact (Below.refl _ _).drew; rintro e w6 ⟨rfl, rfl⟩))
                have hdn : Below wr.heap.size wr wr.drew := (Below.refl _ _).drew
                have hli := HD5.out.below hdn
                have hco := HC5.out.below hdn
                have hbb := hb5.trans (hdn.mono (Nat.le_trans hB hb5.size))
                clear hdn hcl hcs
                go_wp2
                exact ⟨⟨m + 1, by omega, by go_num, hli, hco, hbb⟩, by simp [intOf]; omega⟩
            · have HO : Hid (OwnA B wr ao n (es[i].2.2.map x90)) := by
                have e := HE.out
                subst e
                have := (HD5.out.2 i (by simpa using hie)).2
                rw [List.getElem_set_self] at this
                rw [HV.out.1, HV.out.2.1] at this
                exact this
              have hcL : wr.cell? ⟨L, i, none⟩ = some (.slice ao n c) := by
                have e := HE.out
                subst e
                have := (HD5.out.2 i (by simpa using hie)).1
                rw [List.getElem_set_self] at this
                simp only [List.length_map] at this
                rw [HV.out.1, HV.out.2.1, HV.out.2.2] at this
                exact this
              go_wp2_with fail
              refine (HY.out _ _ HO.out (by rw [List.length_map]; exact HV.out.2.2)).mono ?_
              rintro e w7 ⟨rfl, HW⟩
              obtain ⟨q1, q2, q3⟩ := HW.out
              obtain ⟨v1, v2, v3⟩ := HV.out
              have hli : Lie B w7 L es := by
                have e := HE.out
                have hes : es = es'.set i (es[i].1, es[i].2.1, (es[i].2.2.map x90).map x90) := by
                  rw [e, List.set_set, map_x90_x90 _ (HL.out.2 i hie).2.rd.2]
                  exact (List.set_getElem_self hie).symm
                have hi' : i < es'.length := by rw [e]; simpa using hie
                have e1 : es'[i] = (es[i].1, es[i].2.1, es[i].2.2.map x90) := by subst e; exact List.getElem_set_self _
                have hw := HD5.out.wrote (by rw [e]; exact HA.out.set i hie _) i hi' ((es[i].2.2.map x90).map x90) (by rw [e1]; simp) (by rw [e1]; show World.grownBy _ _ (blk es[i].1); rw [v1]; exact q2) q3 (by rw [e1]; show OwnA B w7 es[i].1 es[i].2.1 _; rw [v1, v2]; exact q1)
                rw [e1] at hw
                rw [hes]
                exact hw
              have hbb : Below B w w7 := hb5.grown q2 (Nat.le_trans hB hb5.size) (fun g hg => (HRW.out g hg).2)
              clear q1 q2 q3 v1 v2 v3 hcL
              go_wp2
              exact ⟨⟨i + 1, by omega, by go_num, hli, hbb⟩, by simp [intOf]; omega⟩
    · obtain rfl : i = N := by omega
      go_wp2
      go_ret
      exact ⟨rfl, hbel⟩
end Go.Proofs.Ytdeoembjfdbbkaa
/- Data in memory: what can be read of them; data that came in. -/
namespace Go.Proofs.Ytdeoembjfdbbkaa
open Go.ChangeShapes Go.WideShapes Go.ChangeAt Go.RowKit Go.Deep
set_option linter.unusedVariables false
set_option linter.unusedSimpArgs false

/-- A slice's value: address, length, room. -/
structure Sl where
  a : Option Addr
  n : Nat
  c : Nat
def Sl.v (s : Sl) : Value := .slice s.a s.n s.c
/-- Numbers of four bytes. -/
def uv (us : List Nat) : List Value := us.map fun (n : Nat) => Value.int .u32 (n : Int)
theorem uv_len (us : List Nat) : (uv us).length = us.length := by simp [uv]
/-- A list of texts that can be read. -/
structure TRd (w : World) (s : Sl) (ss : List ByteArray) : Prop where
  rd : RdT w s.a ss
  len : ss.length = s.n
  cap : s.n ≤ s.c ∧ s.c ≤ 9223372036854775807
  nil : s.a = none → s.c = 0
  z63 : ∀ x ∈ ss, x.size ≤ 9223372036854775807
theorem TRd.below {w w' : World} {s : Sl} {ss : List ByteArray} (h : TRd w s ss) (hb : Below w.heap.size w w') : TRd w' s ss := ⟨h.rd.below hb, h.len, h.cap, h.nil, h.z63⟩
/-- A list of names that can be read: at each place a list of texts. -/
structure NRd (w : World) (s : Sl) (nss : List (List ByteArray)) : Prop where
  rd : nss = [] ∨ ∃ b o, s.a = some ⟨b, o, none⟩ ∧ b < w.heap.size ∧ ∀ i (h : i < nss.length), ∃ x : Sl, w.cell? ⟨b, o + i, none⟩ = some (.slice x.a x.n x.c) ∧ TRd w x nss[i]
  len : nss.length = s.n
  cap : s.n ≤ s.c ∧ s.c ≤ 9223372036854775807
  nil : s.a = none → s.c = 0
theorem NRd.below {w w' : World} {s : Sl} {nss : List (List ByteArray)} (h : NRd w s nss) (hb : Below w.heap.size w w') : NRd w' s nss := by
  refine ⟨?_, h.len, h.cap, h.nil⟩
  rcases h.rd with h1 | ⟨b, o, h1, h2, h3⟩
  · exact .inl h1
  · refine .inr ⟨b, o, h1, Nat.lt_of_lt_of_le h2 hb.size, fun i hi => ?_⟩
    obtain ⟨x, h4, h5⟩ := h3 i hi
    exact ⟨x, (hb.cell (p := ⟨b, o + i, none⟩) h2).trans h4, h5.below hb⟩
theorem NRd.at {w : World} {s : Sl} {nss : List (List ByteArray)} (h : NRd w s nss) (i : Nat) (hi : i < nss.length) : ∃ b o, s.a = some ⟨b, o, none⟩ ∧ b < w.heap.size ∧ ∃ x : Sl, w.cell? ⟨b, o + i, none⟩ = some (.slice x.a x.n x.c) ∧ TRd w x nss[i] := by
  rcases h.rd with h1 | ⟨b, o, h1, h2, h3⟩
  · subst h1; simp at hi
  · exact ⟨b, o, h1, h2, h3 i hi⟩
/-- A list of numbers that can be read. -/
structure URd (w : World) (s : Sl) (us : List Nat) : Prop where
  rd : RdV w s.a (uv us)
  len : us.length = s.n
  cap : s.n ≤ s.c ∧ s.c ≤ 9223372036854775807
  nil : s.a = none → s.c = 0
  bd : ∀ x ∈ us, x ≤ 4294967295
theorem URd.below {w w' : World} {s : Sl} {us : List Nat} (h : URd w s us) (hb : Below w.heap.size w w') : URd w' s us := ⟨h.rd.below hb, h.len, h.cap, h.nil, h.bd⟩
theorem URd.at {w : World} {s : Sl} {us : List Nat} (h : URd w s us) (i : Nat) (hi : i < us.length) : ∃ b o, s.a = some ⟨b, o, none⟩ ∧ b < w.heap.size ∧ w.cell? ⟨b, o + i, none⟩ = some (.int .u32 (us[i] : Int)) := by
  rcases h.rd with h1 | ⟨b, o, h1, h2, h3⟩
  · have := congrArg List.length h1
    rw [uv_len] at this
    simp at this
    subst this
    simp at hi
  · refine ⟨b, o, h1, h2, ?_⟩
    rw [h3 i (by rw [uv_len]; exact hi)]
    simp [uv]
/-- A list of bytes that can be read. -/
structure BRd (w : World) (s : Sl) (zs : List Int) : Prop where
  rd : Rd w s.a zs
  len : zs.length = s.n
  cap : s.n ≤ s.c ∧ s.c ≤ 9223372036854775807
  nil : s.a = none → s.c = 0
theorem BRd.below {w w' : World} {s : Sl} {zs : List Int} (h : BRd w s zs) (hb : Below w.heap.size w w') : BRd w' s zs := ⟨h.rd.below hb, h.len, h.cap, h.nil⟩
/-- Where data lie. -/
structure DA where
  p1 : Sl
  p2 : Sl
  p3 : Sl
  p4 : Sl
/-- Data that can be read. -/
structure DRd (w : World) (x : DA) (d : Dat) : Prop where
  h1 : NRd w x.p1 d.ns
  h2 : URd w x.p2 d.us
  h3 : TRd w x.p3 d.ts
  h4 : BRd w x.p4 d.raw
theorem DRd.below {w w' : World} {x : DA} {d : Dat} (h : DRd w x d) (hb : Below w.heap.size w w') : DRd w' x d := ⟨h.h1.below hb, h.h2.below hb, h.h3.below hb, h.h4.below hb⟩

section
variable {H : Type} {enc : TypeId × Value → H} {W : World}
theorem open_texts {t : TypeId} (ht : Try.prog.underlying t = some (.slice 9)) {a : Option Addr} {len cap fuel : Nat} {x : DataW H × List MemPlace} (hf : DataW.trod enc Try.prog W 0 (fun _ => true) true fuel t [Value.slice a len cap] = some x) : ∃ ss, TRd W ⟨a, len, cap⟩ ss := by
  rcases open_strs ht Try.underlying9 (by kernel_rfl) hf with ⟨hcs, hx⟩ | ⟨x, l, c, m, S, hcs, _, hl, hm, hmm, hx, hcell⟩
  · simp at hcs
    obtain ⟨rfl, rfl, rfl⟩ := hcs
    exact ⟨[], .inl rfl, rfl, ⟨Nat.le_refl _, Nat.zero_le _⟩, fun _ => rfl, by simp⟩
  · simp at hcs
    obtain ⟨rfl, rfl, rfl⟩ := hcs
    have hmc : m = cap := by simpa using hmm
    refine ⟨(List.range len).map S, ?_, by simp, ⟨hl, by simp only [maxLen] at hm; exact hm⟩, by simp, ?_⟩
    · by_cases h0 : len = 0
      · left; rw [h0]; rfl
      · right
        obtain ⟨b, off, spot⟩ := x
        have hc0 := (hcell 0 (by omega)).1
        have hspot : spot = none := by simpa [Addr.add] using World.cell?_spot hc0
        subst hspot
        have hlt : b < W.heap.size := by
          have := World.block_lt_of_cell? W _ hc0
          simpa [Addr.add] using this
        refine ⟨b, off, rfl, hlt, fun i hi => ?_⟩
        have hi' : i < len := by simpa [tv] using hi
        have := (hcell i (by omega)).1
        rw [Addr.add_lit] at this
        rw [this]
        simp [tv]
    · intro s hs
      simp only [List.mem_map, List.mem_range] at hs
      obtain ⟨i, hi, rfl⟩ := hs
      have := (hcell i (by omega)).2
      simp only [maxLen] at this
      exact this
theorem slice_of {t e : TypeId} (ht : Try.prog.underlying t = some (.slice e)) {v : Value} {fuel : Nat} {x : DataW H × List MemPlace} (hf : DataW.trod enc Try.prog W 0 (fun _ => true) true fuel t [v] = some x) : ∃ a n c, v = .slice a n c := by
  rcases DataW.trod_slice ht hf with ⟨hcs, _⟩ | ⟨a, len, cap, elems, rest, n, _, hcs, _⟩
  · simp at hcs; exact ⟨_, _, _, hcs⟩
  · simp at hcs; exact ⟨_, _, _, hcs⟩
theorem open_bytesD {a : Option Addr} {len cap fuel : Nat} {x : DataW H × List MemPlace} (hf : DataW.trod enc Try.prog W 0 (fun _ => true) true fuel 27 [Value.slice a len cap] = some x) : ∃ zs, BRd W ⟨a, len, cap⟩ zs := by
  rcases open_ints Try.underlying27 Try.underlying5 (by kernel_rfl) hf with ⟨hcs, _⟩ | ⟨x, l, c, zs, hcs, _, hl, hm, hz, hx, hcell, hwz⟩
  · simp at hcs
    obtain ⟨rfl, rfl, rfl⟩ := hcs
    exact ⟨[], ⟨.inl rfl, by simp⟩, rfl, ⟨Nat.le_refl _, Nat.zero_le _⟩, fun _ => rfl⟩
  · simp at hcs
    obtain ⟨rfl, rfl, rfl⟩ := hcs
    have hz' : zs.length = cap := by simpa using hz
    refine ⟨zs.take len, ⟨?_, ?_⟩, by simp; omega, ⟨hl, by simp only [maxLen] at hm; exact hm⟩, by simp⟩
    · by_cases h0 : cap = 0
      · left
        have : zs = [] := List.eq_nil_of_length_eq_zero (by omega)
        rw [this]; simp
      · right
        obtain ⟨b, off, spot⟩ := x
        have hspot : spot = none := by simpa [Addr.add] using World.cell?_spot (hcell 0 (by omega))
        subst hspot
        have hlt : b < W.heap.size := by
          have := World.block_lt_of_cell? W _ (hcell 0 (by omega))
          simpa [Addr.add] using this
        refine ⟨b, off, rfl, hlt, fun i hi => ?_⟩
        have hi' : i < len := by simp at hi; omega
        have := hcell i (by simp at hi; omega)
        rw [Addr.add_lit] at this
        rw [this]
        simp [List.getD_eq_getElem?_getD, hi']
    · intro z hz2
      have := hwz z (List.mem_of_mem_take hz2)
      simp [Lit.wf, IntKind.min, IntKind.max, IntKind.bits, IntKind.signed] at this
      omega
theorem open_numsD {a : Option Addr} {len cap fuel : Nat} {x : DataW H × List MemPlace} (hf : DataW.trod enc Try.prog W 0 (fun _ => true) true fuel 25 [Value.slice a len cap] = some x) : ∃ us, URd W ⟨a, len, cap⟩ us := by
  rcases open_ints Try.underlying25 Try.underlying54 (by kernel_rfl) hf with ⟨hcs, _⟩ | ⟨x, l, c, zs, hcs, _, hl, hm, hz, hx, hcell, hwz⟩
  · simp at hcs
    obtain ⟨rfl, rfl, rfl⟩ := hcs
    exact ⟨[], .inl rfl, rfl, ⟨Nat.le_refl _, Nat.zero_le _⟩, fun _ => rfl, by simp⟩
  · simp at hcs
    obtain ⟨rfl, rfl, rfl⟩ := hcs
    have hz' : zs.length = cap := by simpa using hz
    have hbd : ∀ z ∈ zs, 0 ≤ z ∧ z ≤ 4294967295 := by
      intro z hz2
      have := hwz z hz2
      simp [Lit.wf, IntKind.min, IntKind.max, IntKind.bits, IntKind.signed] at this
      omega
    refine ⟨(zs.take len).map Int.toNat, ?_, by simp; omega, ⟨hl, by simp only [maxLen] at hm; exact hm⟩, by simp, ?_⟩
    · by_cases h0 : len = 0
      · left; rw [h0]; rfl
      · right
        obtain ⟨b, off, spot⟩ := x
        have hspot : spot = none := by simpa [Addr.add] using World.cell?_spot (hcell 0 (by omega))
        subst hspot
        have hlt : b < W.heap.size := by
          have := World.block_lt_of_cell? W _ (hcell 0 (by omega))
          simpa [Addr.add] using this
        refine ⟨b, off, rfl, hlt, fun i hi => ?_⟩
        have hi' : i < len := by simp [uv] at hi; omega
        have hiz : i < zs.length := by omega
        have := hcell i (by omega)
        rw [Addr.add_lit] at this
        rw [this]
        have hb := hbd zs[i] (List.getElem_mem hiz)
        simp [uv, List.getD_eq_getElem?_getD, hiz]
        omega
    · intro y hy
      obtain ⟨z, hz2, rfl⟩ := List.mem_map.1 hy
      have := hbd z (List.mem_of_mem_take hz2)
      omega
theorem list_of {α : Type} (n : Nat) (p : Nat → α → Prop) (h : ∀ i, i < n → ∃ x, p i x) : ∃ l : List α, l.length = n ∧ ∀ i (hi : i < l.length), p i l[i] := by
  induction n with
  | zero => exact ⟨[], rfl, fun i hi => absurd hi (Nat.not_lt_zero _)⟩
  | succ n ih =>
    obtain ⟨l, hl, hp⟩ := ih fun i hi => h i (by omega)
    obtain ⟨x, hx⟩ := h n (by omega)
    refine ⟨l ++ [x], by simp [hl], fun i hi => ?_⟩
    by_cases hi' : i < l.length
    · rw [List.getElem_append_left hi']; exact hp i hi'
    · have : i = n := by simp at hi; omega
      subst this
      rw [List.getElem_append_right (by omega)]
      simp [hl, hx]
theorem open_namesD {a : Option Addr} {len cap fuel : Nat} {x : DataW H × List MemPlace} (hf : DataW.trod enc Try.prog W 0 (fun _ => true) true fuel 24 [Value.slice a len cap] = some x) : ∃ nss, NRd W ⟨a, len, cap⟩ nss := by
  rcases open_slice1 Try.underlying24 (by kernel_rfl) hf with ⟨hcs, _⟩ | ⟨x, l, c, m, n, V, D, Pl, hcs, _, hl, hm, hmm, hx, hcell⟩
  · simp at hcs
    obtain ⟨rfl, rfl, rfl⟩ := hcs
    exact ⟨[], .inl rfl, rfl, ⟨Nat.le_refl _, Nat.zero_le _⟩, fun _ => rfl⟩
  · simp at hcs
    obtain ⟨rfl, rfl, rfl⟩ := hcs
    have hmc : m = cap := by simpa using hmm
    have hex : ∀ i, i < len → ∃ ss, ∃ s : Sl, V i = .slice s.a s.n s.c ∧ TRd W s ss := by
      intro i hi
      obtain ⟨a', n', c', e⟩ := slice_of (t := 53) (e := 9) Try.underlying53 (hcell i (by omega)).2
      have h2 := (hcell i (by omega)).2
      rw [e] at h2
      obtain ⟨ss, hss⟩ := open_texts Try.underlying53 h2
      exact ⟨ss, ⟨a', n', c'⟩, e, hss⟩
    obtain ⟨nss, hlen, hnss⟩ := list_of len _ hex
    refine ⟨nss, ?_, hlen, ⟨hl, by simp only [maxLen] at hm; exact hm⟩, by simp⟩
    by_cases h0 : len = 0
    · left; exact List.eq_nil_of_length_eq_zero (by omega)
    · right
      obtain ⟨b, off, spot⟩ := x
      have hc0 := (hcell 0 (by omega)).1
      have hspot : spot = none := by simpa [Addr.add] using World.cell?_spot hc0
      subst hspot
      have hlt : b < W.heap.size := by
        have := World.block_lt_of_cell? W _ hc0
        simpa [Addr.add] using this
      refine ⟨b, off, rfl, hlt, fun i hi => ?_⟩
      obtain ⟨s, e, hs⟩ := hnss i hi
      have := (hcell i (by omega)).1
      rw [Addr.add_lit, e] at this
      exact ⟨s, this, hs⟩
set_option maxRecDepth 16000 in
/-- Data that came in. -/
theorem open_data {base : Nat} {v : Value} {d : DataW H} {p : List MemPlace} (hv : Value.okWide Try.prog W .any base 29 v) (h : DataW.Trod enc Try.prog W 0 (fun _ => true) true 29 v d p) :
    ∃ (x : DA) (y : Dat), v = .agg #[.slice x.p1.a x.p1.n x.p1.c, .slice x.p2.a x.p2.n x.p2.c, .slice x.p3.a x.p3.n x.p3.c, .slice x.p4.a x.p4.n x.p4.c] ∧ DRd W x y := by
  obtain ⟨v0, v1, v2, v3, y0, y1, y2, y3, n, rfl, _, _, t0, t1, t2, t3⟩ := Joins.open_agg4 Try.underlying29 (by kernel_rfl) (by kernel_rfl) hv h
  obtain ⟨a0, n0, c0, rfl⟩ := slice_of (t := 24) (e := 53) Try.underlying24 t0
  obtain ⟨a1, n1, c1, rfl⟩ := slice_of (t := 25) (e := 54) Try.underlying25 t1
  obtain ⟨a2, n2, c2, rfl⟩ := slice_of (t := 26) (e := 9) Try.underlying26 t2
  obtain ⟨a3, n3, c3, rfl⟩ := slice_of (t := 27) (e := 5) Try.underlying27 t3
  obtain ⟨nss, h0⟩ := open_namesD t0
  obtain ⟨us, h1⟩ := open_numsD t1
  obtain ⟨ss, h2⟩ := open_texts Try.underlying26 t2
  obtain ⟨zs, h3⟩ := open_bytesD t3
  exact ⟨⟨⟨a0, n0, c0⟩, ⟨a1, n1, c1⟩, ⟨a2, n2, c2⟩, ⟨a3, n3, c3⟩⟩, ⟨nss, us, ss, zs⟩, rfl, h0, h1, h2, h3⟩
end
end Go.Proofs.Ytdeoembjfdbbkaa
/- Data that are not large. -/
namespace Go.Proofs.Ytdeoembjfdbbkaa
open Go.ChangeShapes Go.WideShapes Go.ChangeAt Go.RowKit
set_option linter.unusedVariables false
set_option linter.unusedSimpArgs false


/-- The value of data. -/
abbrev DA.val (x : DA) : Value := .agg #[.slice x.p1.a x.p1.n x.p1.c, .slice x.p2.a x.p2.n x.p2.c, .slice x.p3.a x.p3.n x.p3.c, .slice x.p4.a x.p4.n x.p4.c]
/-- Data in a block of their own. -/
def DBox (w : World) (b : Nat) (x : DA) : Prop :=
  w.cell? ⟨b, 0, none⟩ = some (.slice x.p1.a x.p1.n x.p1.c) ∧ w.cell? ⟨b, 1, none⟩ = some (.slice x.p2.a x.p2.n x.p2.c) ∧ w.cell? ⟨b, 2, none⟩ = some (.slice x.p3.a x.p3.n x.p3.c) ∧ w.cell? ⟨b, 3, none⟩ = some (.slice x.p4.a x.p4.n x.p4.c) ∧ b < w.heap.size
theorem DBox.new (w : World) (x : DA) : DBox (w.alloc (.cells #[.slice x.p1.a x.p1.n x.p1.c, .slice x.p2.a x.p2.n x.p2.c, .slice x.p3.a x.p3.n x.p3.c, .slice x.p4.a x.p4.n x.p4.c] 29)) w.heap.size x := by
  refine ⟨?_, ?_, ?_, ?_, by simp⟩ <;> (unfold World.cell?; rw [heap_alloc_new]; rfl)
theorem DBox.below {w w' : World} {b : Nat} {x : DA} (h : DBox w b x) (hb : Below w.heap.size w w') : DBox w' b x :=
  ⟨(hb.cell (p := ⟨b, 0, none⟩) h.2.2.2.2).trans h.1, (hb.cell (p := ⟨b, 1, none⟩) h.2.2.2.2).trans h.2.1, (hb.cell (p := ⟨b, 2, none⟩) h.2.2.2.2).trans h.2.2.1, (hb.cell (p := ⟨b, 3, none⟩) h.2.2.2.2).trans h.2.2.2.1, Nat.lt_of_lt_of_le h.2.2.2.2 hb.size⟩
/-- Data that are gone through. -/
structure Small (d : Dat) : Prop where
  n : d.ns.length ≤ 6
  u : d.us.length ≤ 12
  t : d.ts.length ≤ 300
  r : d.raw.length ≤ 65540
  nl : ∀ x ∈ d.ns, x.length ≤ 130
  tl : ∀ x ∈ d.ts, x.size ≤ 300
/-- Large, or not. -/
def LgPost (d : Dat) (w : World) (e : Ending) (w' : World) : Prop := ∃ b, e = .returned (.bool b) ∧ (b = false → Small d) ∧ Below w.heap.size w w'
theorem lg_yes {d : Dat} {w w' : World} {e : Ending} (he : e = .returned (.bool true)) (hb : Below w.heap.size w w') : LgPost d w e w' := ⟨true, he, fun h => (by cases h), hb⟩
theorem lg_no {d : Dat} {w w' : World} {e : Ending} (he : e = .returned (.bool false)) (hs : Small d) (hb : Below w.heap.size w w') : LgPost d w e w' := ⟨false, he, fun _ => hs, hb⟩
set_option maxRecDepth 100000 in
set_option maxHeartbeats 2000000 in
theorem large_any (x : DA) (d : Dat) (w : World) (h : DRd w x d) :
    Calls Try.prog 8 #[.agg #[.slice x.p1.a x.p1.n x.p1.c, .slice x.p2.a x.p2.n x.p2.c, .slice x.p3.a x.p3.n x.p3.c, .slice x.p4.a x.p4.n x.p4.c]] w (LgPost d w) := by
  have HB : Hid (Below w.heap.size w (w.alloc (.cells #[.slice x.p1.a x.p1.n x.p1.c, .slice x.p2.a x.p2.n x.p2.c, .slice x.p3.a x.p3.n x.p3.c, .slice x.p4.a x.p4.n x.p4.c] 29))) := (Below.refl _ _).alloc (Nat.le_refl _) _
  have HX : Hid (DBox (w.alloc (.cells #[.slice x.p1.a x.p1.n x.p1.c, .slice x.p2.a x.p2.n x.p2.c, .slice x.p3.a x.p3.n x.p3.c, .slice x.p4.a x.p4.n x.p4.c] 29)) w.heap.size x) := DBox.new w x
  have HD : Hid (DRd (w.alloc (.cells #[.slice x.p1.a x.p1.n x.p1.c, .slice x.p2.a x.p2.n x.p2.c, .slice x.p3.a x.p3.n x.p3.c, .slice x.p4.a x.p4.n x.p4.c] 29)) x d) := h.below HB.out
  clear h
  obtain ⟨⟨a1, n1, k1⟩, ⟨a2, n2, k2⟩, ⟨a3, n3, k3⟩, ⟨a4, n4, k4⟩⟩ := x
  simp only at HB HX HD ⊢
  go_enter Try.func8, Try.ntmps8
  go_upto_region 1 with fail
  generalize (w.alloc (.cells #[.slice a1 n1 k1, .slice a2 n2 k2, .slice a3 n3 k3, .slice a4 n4 k4] 29)) = W1 at *
  have c0 := HX.out.1
  have c1 := HX.out.2.1
  have c2 := HX.out.2.2.1
  have c3 := HX.out.2.2.2.1
  simp only at c0 c1 c2 c3
  by_cases h1 : (6 : Int) < (n1 : Int)
  · go_wp2_with fail
    go_ret
    exact lg_yes rfl HB.out
  by_cases h2 : (12 : Int) < (n2 : Int)
  · go_wp2_with fail
    go_ret
    exact lg_yes rfl HB.out
  by_cases h3 : (300 : Int) < (n3 : Int)
  · go_wp2_with fail
    go_ret
    exact lg_yes rfl HB.out
  by_cases h4 : (2000 : Int) < (n4 : Int) ∧ (n4 : Int) ≤ 65535
  · obtain ⟨h4a, h4b⟩ := h4
    go_wp2_with fail
    go_ret
    exact lg_yes rfl HB.out
  by_cases h5 : (65540 : Int) < (n4 : Int)
  · have h4a : (2000 : Int) < (n4 : Int) := by omega
    have h4b : ¬ (n4 : Int) ≤ 65535 := by omega
    go_wp2_with fail
    go_ret
    exact lg_yes rfl HB.out
  have hor : ¬ (2000 : Int) < (n4 : Int) ∨ ((2000 : Int) < (n4 : Int) ∧ ¬ (n4 : Int) ≤ 65535) := by omega
  clear h4
  go_cut [38] from 5 to 38 (fun s38 wx => wx = W1 ∧ s38 = .bool false)
  case first =>
    rcases hor with h | ⟨h, h'⟩
    all_goals
      go_wp2_with fail
      go_meet
      exact ⟨rfl, rfl⟩
  case rest =>
    obtain ⟨hwc, rfl⟩ := hcut
    subst hwc
    clear hor
    go_wp2_with fail
    go_loopw [3] (fun v wr => wr = wc ∧ ∃ k : Nat, k ≤ n1 ∧ v = .int .i64 (k : Int) ∧ Hid (∀ y ∈ d.ns.take k, y.length ≤ 130)) (fun v _ => n1 - (intOf v).toNat)
    case atStart => exact ⟨rfl, 0, Nat.zero_le _, rfl, by intro y hy; simp at hy⟩
    case round =>
      obtain ⟨hwr, k, hk, rfl, HF⟩ := hrel
      subst hwr
      by_cases hlt : k < n1
      · have hlt' : (k : Int) < (n1 : Int) := by omega
        have hki : k < d.ns.length := by rw [HD.out.h1.len]; exact hlt
        obtain ⟨b, o, ha, hbl, y, hy, hyr⟩ := HD.out.h1.at k hki
        simp only at ha
        subst ha
        have hyl := hyr.len
        by_cases hy2 : (130 : Int) < (y.n : Int)
        · clear hyr
          go_wp2_with fail
          go_ret
          exact lg_yes rfl HB.out
        · have HF2 : Hid (∀ y ∈ d.ns.take (k + 1), y.length ≤ 130) := by
            intro z hz
            rw [List.take_succ_eq_append_getElem hki] at hz
            simp only [List.mem_append, List.mem_singleton] at hz
            rcases hz with hz | hz
            · exact HF.out z hz
            · subst hz; omega
          clear hyr HF hyl
          go_wp2_with fail
          exact ⟨⟨by first | rfl | trivial, k + 1, by omega, by go_num, HF2⟩, by simp [intOf]; omega⟩
      · have hge : ¬ (k : Int) < (n1 : Int) := by omega
        have HF1 : Hid (∀ y ∈ d.ns, y.length ≤ 130) := by
          have := HF.out
          rwa [List.take_of_length_le (by rw [HD.out.h1.len]; show n1 ≤ k; omega)] at this
        clear HF
        go_wp2_with fail
        obtain ⟨wz, hz⟩ : ∃ z, z = wr := ⟨_, rfl⟩
        subst hz
        go_loopw [4] (fun v wr => wr = wz ∧ ∃ k : Nat, k ≤ n3 ∧ v = .int .i64 (k : Int) ∧ Hid (∀ y ∈ d.ts.take k, y.size ≤ 300)) (fun v _ => n3 - (intOf v).toNat)
        case atStart => exact ⟨rfl, 0, Nat.zero_le _, rfl, by intro y hy; simp at hy⟩
        case round =>
          obtain ⟨hwr, j, hj, rfl, HF⟩ := hrel
          subst hwr
          by_cases hjt : j < n3
          · have hjt' : (j : Int) < (n3 : Int) := by omega
            have hji : j < d.ts.length := by rw [HD.out.h3.len]; exact hjt
            obtain ⟨b, o, ha, hbl, hy⟩ := HD.out.h3.rd.at j hji
            simp only at ha
            subst ha
            have hz63 := HD.out.h3.z63 _ (List.getElem_mem hji)
            obtain ⟨s, hs⟩ : ∃ s, d.ts[j] = s := ⟨_, rfl⟩
            rw [hs] at hy hz63
            have HS : Hid (d.ts[j] = s) := hs
            clear hs
            by_cases hy2 : (300 : Int) < (s.size : Int)
            · go_wp2_with fail
              go_ret
              exact lg_yes rfl HB.out
            · have HF2 : Hid (∀ y ∈ d.ts.take (j + 1), y.size ≤ 300) := by
                intro z hz
                rw [List.take_succ_eq_append_getElem hji] at hz
                simp only [List.mem_append, List.mem_singleton] at hz
                rcases hz with hz | hz
                · exact HF.out z hz
                · subst hz; rw [HS.out]; omega
              clear HF
              go_wp2_with fail
              exact ⟨⟨by first | rfl | trivial, j + 1, by omega, by go_num, HF2⟩, by simp [intOf]; omega⟩
          · have hjge : ¬ (j : Int) < (n3 : Int) := by omega
            have HF3 : Hid (∀ y ∈ d.ts, y.size ≤ 300) := by
              have := HF.out
              rwa [List.take_of_length_le (by rw [HD.out.h3.len]; show n3 ≤ j; omega)] at this
            clear HF
            go_wp2_with fail
            go_ret
            refine lg_no rfl ⟨?_, ?_, ?_, ?_, HF1.out, HF3.out⟩ HB.out
            · rw [HD.out.h1.len]; show n1 ≤ 6; omega
            · rw [HD.out.h2.len]; show n2 ≤ 12; omega
            · rw [HD.out.h3.len]; show n3 ≤ 300; omega
            · rw [HD.out.h4.len]; show n4 ≤ 65540; omega
end Go.Proofs.Ytdeoembjfdbbkaa
/- The program's data: which fields a type has; whether data have as many things as they should. -/
namespace Go.Proofs.Ytdeoembjfdbbkaa
open Go.ChangeShapes Go.WideShapes Go.ChangeAt Go.RowKit
set_option linter.unusedVariables false
set_option linter.unusedSimpArgs false

/-- How many things data of a type have: names, those in front, numbers, their bytes, texts, tags, tails, bytes. -/
structure Fs where
  nn : Nat
  nf : Nat
  nu : Nat
  wd : Nat
  nt : Int
  tg : Nat
  tl : Nat
  nr : Int
def fs (t : Nat) : Fs :=
  if t = 1 then ⟨0, 0, 0, 0, 0, 0, 0, 4⟩ else if t = 28 then ⟨0, 0, 0, 0, 0, 0, 0, 16⟩ else if t = 2 ∨ t = 5 ∨ t = 12 then ⟨1, 0, 0, 0, 0, 0, 0, 0⟩ else if t = 6 then ⟨2, 2, 5, 4, 0, 0, 0, 0⟩ else
  if t = 15 then ⟨1, 0, 1, 2, 0, 0, 0, 0⟩ else if t = 33 then ⟨1, 0, 3, 2, 0, 0, 0, 0⟩ else if t = 16 then ⟨0, 0, 0, 0, -1, 0, 0, 0⟩ else if t = 257 then ⟨0, 0, 1, 1, 2, 1, 1, 0⟩ else ⟨0, 0, 0, 0, 0, 0, 0, -2⟩
theorem fs_cases (t : Nat) : (t = 1 ∧ fs t = ⟨0, 0, 0, 0, 0, 0, 0, 4⟩) ∨ (t = 28 ∧ fs t = ⟨0, 0, 0, 0, 0, 0, 0, 16⟩) ∨ ((t = 2 ∨ t = 5 ∨ t = 12) ∧ fs t = ⟨1, 0, 0, 0, 0, 0, 0, 0⟩) ∨ (t = 6 ∧ fs t = ⟨2, 2, 5, 4, 0, 0, 0, 0⟩) ∨
    (t = 15 ∧ fs t = ⟨1, 0, 1, 2, 0, 0, 0, 0⟩) ∨ (t = 33 ∧ fs t = ⟨1, 0, 3, 2, 0, 0, 0, 0⟩) ∨ (t = 16 ∧ fs t = ⟨0, 0, 0, 0, -1, 0, 0, 0⟩) ∨ (t = 257 ∧ fs t = ⟨0, 0, 1, 1, 2, 1, 1, 0⟩) ∨
    ((t ≠ 1 ∧ t ≠ 28 ∧ t ≠ 2 ∧ t ≠ 5 ∧ t ≠ 12 ∧ t ≠ 6 ∧ t ≠ 15 ∧ t ≠ 33 ∧ t ≠ 16 ∧ t ≠ 257) ∧ fs t = ⟨0, 0, 0, 0, 0, 0, 0, -2⟩) := by
  unfold fs
  by_cases h1 : t = 1
  · simp [h1]
  by_cases h2 : t = 28
  · simp [h2]
  by_cases h3 : t = 2 ∨ t = 5 ∨ t = 12
  · rcases h3 with h | h | h <;> simp [h]
  by_cases h4 : t = 6
  · simp [h4]
  by_cases h5 : t = 15
  · simp [h5]
  by_cases h6 : t = 33
  · simp [h6]
  by_cases h7 : t = 16
  · simp [h7]
  by_cases h8 : t = 257
  · simp [h8]
  · rw [if_neg h1, if_neg h2, if_neg h3, if_neg h4, if_neg h5, if_neg h6, if_neg h7, if_neg h8]
    simp only [not_or] at h3
    exact .inr (.inr (.inr (.inr (.inr (.inr (.inr (.inr ⟨⟨h1, h2, h3.1, h3.2.1, h3.2.2, h4, h5, h6, h7, h8⟩, rfl⟩)))))))
/-- The value of fields. -/
abbrev Fs.val (f : Fs) : Value := .agg #[.int .i64 f.nn, .int .i64 f.nf, .int .i64 f.nu, .int .i64 f.wd, .int .i64 f.nt, .int .i64 f.tg, .int .i64 f.tl, .int .i64 f.nr]
set_option maxRecDepth 100000 in
set_option maxHeartbeats 2000000 in
theorem fieldsof_any (t : Nat) (w : World) : Calls Try.prog 35 #[.int .u16 t] w fun e w' => e = .returned (.agg #[.int .i64 (fs t).nn, .int .i64 (fs t).nf, .int .i64 (fs t).nu, .int .i64 (fs t).wd, .int .i64 (fs t).nt, .int .i64 (fs t).tg, .int .i64 (fs t).tl, .int .i64 (fs t).nr]) ∧ Hid (Below w.heap.size w w') := by
  rcases fs_cases t with ⟨ht, e⟩ | ⟨ht, e⟩ | ⟨ht, e⟩ | ⟨ht, e⟩ | ⟨ht, e⟩ | ⟨ht, e⟩ | ⟨ht, e⟩ | ⟨ht, e⟩ | ⟨ht, e⟩
  · subst ht; rw [e]; clear e
    go_enter Try.func35, Try.ntmps35
    go_wp2_with fail
    exact bodyPost_ret (v := .agg #[.int .i64 0, .int .i64 0, .int .i64 0, .int .i64 0, .int .i64 0, .int .i64 0, .int .i64 0, .int .i64 4]) (by simp [results, Try.results35, go_sem]) rfl ⟨rfl, (Below.refl _ _).alloc (Nat.le_refl _) _⟩
  · subst ht; rw [e]; clear e
    go_enter Try.func35, Try.ntmps35
    go_wp2_with fail
    exact bodyPost_ret (v := .agg #[.int .i64 0, .int .i64 0, .int .i64 0, .int .i64 0, .int .i64 0, .int .i64 0, .int .i64 0, .int .i64 16]) (by simp [results, Try.results35, go_sem]) rfl ⟨rfl, (Below.refl _ _).alloc (Nat.le_refl _) _⟩
  · rw [e]; clear e
    rcases ht with rfl | rfl | rfl
    all_goals
      go_enter Try.func35, Try.ntmps35
      go_wp2_with fail
      exact bodyPost_ret (v := .agg #[.int .i64 1, .int .i64 0, .int .i64 0, .int .i64 0, .int .i64 0, .int .i64 0, .int .i64 0, .int .i64 0]) (by simp [results, Try.results35, go_sem]) rfl ⟨rfl, (Below.refl _ _).alloc (Nat.le_refl _) _⟩
  · subst ht; rw [e]; clear e
    go_enter Try.func35, Try.ntmps35
    go_wp2_with fail
    exact bodyPost_ret (v := .agg #[.int .i64 2, .int .i64 2, .int .i64 5, .int .i64 4, .int .i64 0, .int .i64 0, .int .i64 0, .int .i64 0]) (by simp [results, Try.results35, go_sem]) rfl ⟨rfl, (Below.refl _ _).alloc (Nat.le_refl _) _⟩
  · subst ht; rw [e]; clear e
    go_enter Try.func35, Try.ntmps35
    go_wp2_with fail
    exact bodyPost_ret (v := .agg #[.int .i64 1, .int .i64 0, .int .i64 1, .int .i64 2, .int .i64 0, .int .i64 0, .int .i64 0, .int .i64 0]) (by simp [results, Try.results35, go_sem]) rfl ⟨rfl, (Below.refl _ _).alloc (Nat.le_refl _) _⟩
  · subst ht; rw [e]; clear e
    go_enter Try.func35, Try.ntmps35
    go_wp2_with fail
    exact bodyPost_ret (v := .agg #[.int .i64 1, .int .i64 0, .int .i64 3, .int .i64 2, .int .i64 0, .int .i64 0, .int .i64 0, .int .i64 0]) (by simp [results, Try.results35, go_sem]) rfl ⟨rfl, (Below.refl _ _).alloc (Nat.le_refl _) _⟩
  · subst ht; rw [e]; clear e
    go_enter Try.func35, Try.ntmps35
    go_wp2_with fail
    exact bodyPost_ret (v := .agg #[.int .i64 0, .int .i64 0, .int .i64 0, .int .i64 0, .int .i64 (-1), .int .i64 0, .int .i64 0, .int .i64 0]) (by simp [results, Try.results35, go_sem]) rfl ⟨rfl, (Below.refl _ _).alloc (Nat.le_refl _) _⟩
  · subst ht; rw [e]; clear e
    go_enter Try.func35, Try.ntmps35
    go_wp2_with fail
    exact bodyPost_ret (v := .agg #[.int .i64 0, .int .i64 0, .int .i64 1, .int .i64 1, .int .i64 2, .int .i64 1, .int .i64 1, .int .i64 0]) (by simp [results, Try.results35, go_sem]) rfl ⟨rfl, (Below.refl _ _).alloc (Nat.le_refl _) _⟩
  · rw [e]; clear e
    obtain ⟨h1, h2, h3, h4, h5, h6, h7, h8, h9, h10⟩ := ht
    have q1 : ((t : Int) == 1) = false := by simp; omega
    have q2 : ((t : Int) == 28) = false := by simp; omega
    have q3 : ((t : Int) == 2) = false := by simp; omega
    have q4 : ((t : Int) == 5) = false := by simp; omega
    have q5 : ((t : Int) == 12) = false := by simp; omega
    have q6 : ((t : Int) == 6) = false := by simp; omega
    have q7 : ((t : Int) == 15) = false := by simp; omega
    have q8 : ((t : Int) == 33) = false := by simp; omega
    have q9 : ((t : Int) == 16) = false := by simp; omega
    have q10 : ((t : Int) == 257) = false := by simp; omega
    clear h1 h2 h3 h4 h5 h6 h7 h8 h9 h10
    go_enter Try.func35, Try.ntmps35
    go_wp2_with fail
    exact bodyPost_ret (v := .agg #[.int .i64 0, .int .i64 0, .int .i64 0, .int .i64 0, .int .i64 0, .int .i64 0, .int .i64 0, .int .i64 (-2)]) (by simp [results, Try.results35, go_sem]) rfl ⟨rfl, (Below.refl _ _).alloc (Nat.le_refl _) _⟩
set_option maxRecDepth 100000 in
set_option maxHeartbeats 1000000 in
theorem asked_any (t : Int) (w : World) : Calls Try.prog 86 #[.int .u16 t] w fun e w' => e = .returned (.bool (decide (128 ≤ t) && decide (t ≤ 255))) ∧ w' = w := by
  go_enter Try.func86, Try.ntmps86
  go_wp2
  all_goals
    go_ret
    refine ⟨ret_bool ?_, rfl⟩
    simp_all
    try omega
set_option maxRecDepth 100000 in
set_option maxHeartbeats 1000000 in
/-- Whether there are data of a type. -/
theorem hasdata_any (t : Nat) (w : World) : Calls Try.prog 39 #[.int .u16 t] w fun e w' => e = .returned (.bool (mayT t)) ∧ w' = w := by
  have HS : Hid (∀ W, Calls Try.prog 62 #[.int .u16 t] W fun e w' => e = .returned (.bool (decide (t ≠ 0) && decide (t ≠ 41) && (decide (t < 128) || decide (255 < t)))) ∧ w' = W) := by
    intro W
    go_enter Try.func62, Try.ntmps62
    by_cases h0 : t = 0
    · subst h0
      go_wp2_with fail
      go_ret
      exact ⟨ret_bool (by decide), rfl⟩
    · by_cases h1 : t = 41
      · subst h1
        go_wp2_with fail
        go_ret
        exact ⟨ret_bool (by decide), rfl⟩
      · have q0 : ((t : Int) == 0) = false := by simp; omega
        have q1 : ((t : Int) == 41) = false := by simp; omega
        go_wp2_with fail
        refine (asked_any t _).mono ?_
        rintro e W ⟨rfl, rfl⟩
        go_wp2_with fail
        go_ret
        refine ⟨ret_bool ?_, rfl⟩
        simp [h0, h1]
        by_cases h2 : t < 128
        · simp [h2]; omega
        · by_cases h3 : 255 < t
          · simp [h3]; omega
          · simp [h2, h3]; omega
  go_enter Try.func39, Try.ntmps39
  by_cases h1 : t = 41
  · subst h1
    go_wp2_with fail
    refine (HS.out _).mono ?_
    rintro e W ⟨rfl, rfl⟩
    go_wp2_with fail
    go_ret
    exact ⟨rfl, rfl⟩
  · have q1 : ((t : Int) == 41) = false := by simp; omega
    go_wp2_with fail
    refine (HS.out _).mono ?_
    rintro e W ⟨rfl, rfl⟩
    have hm : (decide (t ≠ 0) && decide (t ≠ 41) && (decide (t < 128) || decide (255 < t))) = mayT t := by simp [mayT, h1]
    rw [hm]
    cases hmt : mayT t
    all_goals
      go_wp2_with fail
      go_ret
      exact ⟨ret_bool (by rw [hmt]), rfl⟩
/-- Whether so many things are as many as a count says. -/
def fitB (n : Nat) (c : Int) : Bool := if c = -1 then decide (0 < n) else if c = -2 then true else decide ((n : Int) = c)
set_option maxRecDepth 100000 in
set_option maxHeartbeats 1000000 in
theorem pfits_any (n : Nat) (c : Int) (w : World) : Calls Try.prog 63 #[.int .i64 n, .int .i64 c] w fun e w' => e = .returned (.bool (fitB n c)) ∧ w' = w := by
  unfold fitB
  by_cases h1 : c = -1
  · subst h1
    rw [if_pos rfl]
    go_enter Try.func63, Try.ntmps63
    go_wp2_with fail
    go_ret
    exact ⟨ret_bool (by simp), rfl⟩
  rw [if_neg h1]
  have q1 : (c == -1) = false := by simp [h1]
  by_cases h2 : c = -2
  · subst h2
    rw [if_pos rfl]
    go_enter Try.func63, Try.ntmps63
    go_wp2_with fail
    go_ret
    exact ⟨rfl, rfl⟩
  rw [if_neg h2]
  have q2 : (c == -2) = false := by simp [h2]
  go_enter Try.func63, Try.ntmps63
  go_wp2_with fail
  go_ret
  exact ⟨ret_bool (by by_cases h : (n : Int) = c <;> simp [h]), rfl⟩
/-- Fields in a block of their own. -/
def FBox (w : World) (b : Nat) (f : Fs) : Prop :=
  w.cell? ⟨b, 0, none⟩ = some (.int .i64 f.nn) ∧ w.cell? ⟨b, 1, none⟩ = some (.int .i64 f.nf) ∧ w.cell? ⟨b, 2, none⟩ = some (.int .i64 f.nu) ∧ w.cell? ⟨b, 3, none⟩ = some (.int .i64 f.wd) ∧ w.cell? ⟨b, 4, none⟩ = some (.int .i64 f.nt) ∧ w.cell? ⟨b, 5, none⟩ = some (.int .i64 f.tg) ∧ w.cell? ⟨b, 6, none⟩ = some (.int .i64 f.tl) ∧ w.cell? ⟨b, 7, none⟩ = some (.int .i64 f.nr) ∧ b < w.heap.size
theorem FBox.new (w : World) (f : Fs) : FBox (w.alloc (.cells #[.int .i64 f.nn, .int .i64 f.nf, .int .i64 f.nu, .int .i64 f.wd, .int .i64 f.nt, .int .i64 f.tg, .int .i64 f.tl, .int .i64 f.nr] 58)) w.heap.size f := by
  refine ⟨?_, ?_, ?_, ?_, ?_, ?_, ?_, ?_, by simp⟩ <;> (unfold World.cell?; rw [heap_alloc_new]; rfl)
theorem FBox.below {w w' : World} {b : Nat} {f : Fs} (h : FBox w b f) (hb : Below w.heap.size w w') : FBox w' b f := by
  obtain ⟨h0, h1, h2, h3, h4, h5, h6, h7, hl⟩ := h
  exact ⟨(hb.cell (p := ⟨b, 0, none⟩) hl).trans h0, (hb.cell (p := ⟨b, 1, none⟩) hl).trans h1, (hb.cell (p := ⟨b, 2, none⟩) hl).trans h2, (hb.cell (p := ⟨b, 3, none⟩) hl).trans h3, (hb.cell (p := ⟨b, 4, none⟩) hl).trans h4, (hb.cell (p := ⟨b, 5, none⟩) hl).trans h5, (hb.cell (p := ⟨b, 6, none⟩) hl).trans h6, (hb.cell (p := ⟨b, 7, none⟩) hl).trans h7, Nat.lt_of_lt_of_le hl hb.size⟩
/-- Fields and data, each in a block of its own. -/
def PtSt (w W : World) (b : Nat) (f : Fs) (x : DA) (d : Dat) : Prop := FBox W b f ∧ DBox W (b + 1) x ∧ DRd W x d ∧ Below w.heap.size w W
theorem PtSt.go {w W W' : World} {b : Nat} {f : Fs} {x : DA} {d : Dat} (h : PtSt w W b f x d) (hb : Below W.heap.size W W') : PtSt w W' b f x d :=
  ⟨h.1.below hb, h.2.1.below hb, h.2.2.1.below hb, h.2.2.2.trans (hb.mono h.2.2.2.size)⟩
theorem PtSt.new (w : World) (f : Fs) (x : DA) (d : Dat) (h : DRd w x d) : PtSt w ((w.alloc (.cells #[.int .i64 f.nn, .int .i64 f.nf, .int .i64 f.nu, .int .i64 f.wd, .int .i64 f.nt, .int .i64 f.tg, .int .i64 f.tl, .int .i64 f.nr] 58)).alloc (.cells #[.slice x.p1.a x.p1.n x.p1.c, .slice x.p2.a x.p2.n x.p2.c, .slice x.p3.a x.p3.n x.p3.c, .slice x.p4.a x.p4.n x.p4.c] 29)) w.heap.size f x d := by
  have hb1 : Below w.heap.size w (w.alloc (.cells #[.int .i64 f.nn, .int .i64 f.nf, .int .i64 f.nu, .int .i64 f.wd, .int .i64 f.nt, .int .i64 f.tg, .int .i64 f.tl, .int .i64 f.nr] 58)) := (Below.refl _ _).alloc (Nat.le_refl _) _
  have HX := FBox.new w f
  have hx1 := h.below hb1
  obtain ⟨W0, hW0⟩ : ∃ W, W = w.alloc (.cells #[.int .i64 f.nn, .int .i64 f.nf, .int .i64 f.nu, .int .i64 f.wd, .int .i64 f.nt, .int .i64 f.tg, .int .i64 f.tl, .int .i64 f.nr] 58) := ⟨_, rfl⟩
  have hs0 : W0.heap.size = w.heap.size + 1 := by rw [hW0]; simp
  rw [← hW0] at hb1 HX hx1 ⊢
  have hb2 : Below W0.heap.size W0 (W0.alloc (.cells #[.slice x.p1.a x.p1.n x.p1.c, .slice x.p2.a x.p2.n x.p2.c, .slice x.p3.a x.p3.n x.p3.c, .slice x.p4.a x.p4.n x.p4.c] 29)) := (Below.refl _ _).alloc (Nat.le_refl _) _
  have HY := DBox.new W0 x
  rw [hs0] at HY
  exact ⟨HX.below hb2, HY, hx1.below hb2, hb1.trans (hb2.mono hb1.size)⟩
/-- Whether data have as many things as fields say. -/
def cntB (f : Fs) (d : Dat) : Bool := fitB d.ns.length f.nn && fitB d.us.length f.nu && fitB d.ts.length f.nt && fitB d.raw.length f.nr
set_option maxRecDepth 100000 in
set_option maxHeartbeats 2000000 in
theorem counted_any (f : Fs) (x : DA) (d : Dat) (w : World) (h : DRd w x d) :
    Calls Try.prog 40 #[.agg #[.int .i64 f.nn, .int .i64 f.nf, .int .i64 f.nu, .int .i64 f.wd, .int .i64 f.nt, .int .i64 f.tg, .int .i64 f.tl, .int .i64 f.nr], .agg #[.slice x.p1.a x.p1.n x.p1.c, .slice x.p2.a x.p2.n x.p2.c, .slice x.p3.a x.p3.n x.p3.c, .slice x.p4.a x.p4.n x.p4.c]] w fun e w' => e = .returned (.bool (cntB f d)) ∧ Hid (Below w.heap.size w w') := by
  have H : Hid (PtSt w ((w.alloc (.cells #[.int .i64 f.nn, .int .i64 f.nf, .int .i64 f.nu, .int .i64 f.wd, .int .i64 f.nt, .int .i64 f.tg, .int .i64 f.tl, .int .i64 f.nr] 58)).alloc (.cells #[.slice x.p1.a x.p1.n x.p1.c, .slice x.p2.a x.p2.n x.p2.c, .slice x.p3.a x.p3.n x.p3.c, .slice x.p4.a x.p4.n x.p4.c] 29)) w.heap.size f x d) := PtSt.new w f x d h
  have l1 := h.h1.len
  have l2 := h.h2.len
  have l3 := h.h3.len
  have l4 := h.h4.len
  clear h
  unfold cntB
  rw [l1, l2, l3, l4]
  clear l1 l2 l3 l4
  obtain ⟨nn, nf, nu, wd, nt, tg, tl, nr⟩ := f
  obtain ⟨⟨a1, n1, k1⟩, ⟨a2, n2, k2⟩, ⟨a3, n3, k3⟩, ⟨a4, n4, k4⟩⟩ := x
  simp only at H ⊢
  go_enter Try.func40, Try.ntmps40
  go_upto_region 1 with fail
  generalize ((w.alloc (.cells #[.int .i64 nn, .int .i64 nf, .int .i64 nu, .int .i64 wd, .int .i64 nt, .int .i64 tg, .int .i64 tl, .int .i64 nr] 58)).alloc (.cells #[.slice a1 n1 k1, .slice a2 n2 k2, .slice a3 n3 k3, .slice a4 n4 k4] 29)) = W1 at *
  have s0 := H.out.1.1
  have s2 := H.out.1.2.2.1
  have s4 := H.out.1.2.2.2.2.1
  have s7 := H.out.1.2.2.2.2.2.2.2.1
  have c0 := H.out.2.1.1
  have c1 := H.out.2.1.2.1
  have c2 := H.out.2.1.2.2.1
  have c3 := H.out.2.1.2.2.2.1
  simp only at s0 s2 s4 s7 c0 c1 c2 c3
  go_wp2_with fail
  refine (pfits_any n1 nn _).mono ?_
  rintro e W ⟨rfl, rfl⟩
  cases hfn1 : fitB n1 nn with
  | false =>
    go_wp2_with fail
    go_ret
    exact ⟨ret_bool (by simp [*]), H.out.2.2.2⟩
  | true =>
    go_wp2_with fail
    refine (pfits_any n2 nu _).mono ?_
    rintro e W ⟨rfl, rfl⟩
    cases hfn2 : fitB n2 nu with
    | false =>
      go_wp2_with fail
      go_ret
      exact ⟨ret_bool (by simp [*]), H.out.2.2.2⟩
    | true =>
      go_wp2_with fail
      refine (pfits_any n3 nt _).mono ?_
      rintro e W ⟨rfl, rfl⟩
      cases hfn3 : fitB n3 nt with
      | false =>
        go_wp2_with fail
        go_ret
        exact ⟨ret_bool (by simp [*]), H.out.2.2.2⟩
      | true =>
        go_wp2_with fail
        refine (pfits_any n4 nr _).mono ?_
        rintro e W ⟨rfl, rfl⟩
        go_wp2_with fail
        go_ret
        exact ⟨ret_bool (by simp [*]), H.out.2.2.2⟩
end Go.Proofs.Ytdeoembjfdbbkaa
/- The program's data: tags; numbers and texts within their bounds. -/
namespace Go.Proofs.Ytdeoembjfdbbkaa
open Go.ChangeShapes Go.WideShapes Go.ChangeAt Go.RowKit
set_option linter.unusedVariables false
set_option linter.unusedSimpArgs false

theorem call104 (s : ByteArray) (c : Int) (w : World) : (callFunc 104 #[.string s, .int .u8 c]).run Try.prog w = .ok (.value (.int .i64 (Lib.indexByte s.data.toList c.toNat.toUInt8))) w := by
  rw [run_callFunc_extern Try.func104 (by kernel_rfl) (by kernel_rfl) (by kernel_rfl) (by kernel_rfl) _ w]
  show ((Extern.BytealgIndexByte.indexByte #[.string s, .int .u8 c]).run Try.prog w).andThen _ = _
  rw [Lib.run_indexByteString]
  rfl
set_option maxRecDepth 100000 in
set_option maxHeartbeats 400000 in
theorem sidx_any (s : ByteArray) (c : Int) (w : World) : Calls Try.prog 99 #[.string s, .int .u8 c] w fun e w' => e = .returned (.int .i64 (Lib.indexByte s.data.toList c.toNat.toUInt8)) ∧ w' = w := by
  have h := call104 s c
  go_enter Try.func99, Try.ntmps99
  go_wp2
  go_ret
  exact ⟨rfl, rfl⟩
set_option maxRecDepth 100000 in
set_option maxHeartbeats 400000 in
theorem idx_any (s : ByteArray) (c : Int) (w : World) : Calls Try.prog 87 #[.string s, .int .u8 c] w fun e w' => e = .returned (.int .i64 (Lib.indexByte s.data.toList c.toNat.toUInt8)) ∧ w' = w := by
  go_enter Try.func87, Try.ntmps87
  go_wp2_with fail
  refine (sidx_any s c _).mono ?_
  rintro e w1 ⟨rfl, rfl⟩
  go_wp2
  go_ret
  exact ⟨rfl, rfl⟩
/-- Letters and digits. -/
def tagged : List UInt8 := [97, 98, 99, 100, 101, 102, 103, 104, 105, 106, 107, 108, 109, 110, 111, 112, 113, 114, 115, 116, 117, 118, 119, 120, 121, 122, 65, 66, 67, 68, 69, 70, 71, 72, 73, 74, 75, 76, 77, 78, 79, 80, 81, 82, 83, 84, 85, 86, 87, 88, 89, 90, 48, 49, 50, 51, 52, 53, 54, 55, 56, 57]
set_option maxRecDepth 100000 in
theorem tagged_idx : ∀ n : Fin 256, decide (Lib.indexByte tagged n.val.toUInt8 < 0) = !alnum (n.val : Int) := by decide +kernel
theorem idx_tag (c : Int) (h0 : 0 ≤ c) (h1 : c ≤ 255) (w : World) : Calls Try.prog 87 #[.string { data := #[97, 98, 99, 100, 101, 102, 103, 104, 105, 106, 107, 108, 109, 110, 111, 112, 113, 114, 115, 116, 117, 118, 119, 120, 121, 122, 65, 66, 67, 68, 69, 70, 71, 72, 73, 74, 75, 76, 77, 78, 79, 80, 81, 82, 83, 84, 85, 86, 87, 88, 89, 90, 48, 49, 50, 51, 52, 53, 54, 55, 56, 57] }, .int .u8 c] w fun e w' => ∃ k, e = .returned (.int .i64 k) ∧ Hid (decide (k < 0) = !alnum c) ∧ w' = w := by
  refine (idx_any _ c w).mono ?_
  rintro e w1 ⟨rfl, rfl⟩
  refine ⟨_, rfl, ?_, rfl⟩
  have := tagged_idx ⟨c.toNat, by omega⟩
  simp only at this
  rw [Int.toNat_of_nonneg h0] at this
  exact this
set_option maxRecDepth 100000 in
set_option maxHeartbeats 2000000 in
theorem istag_any (s : ByteArray) (hs : s.size ≤ 9223372036854775807) (w : World) : Calls Try.prog 64 #[.string s] w fun e w' => e = .returned (.bool (tagB s)) ∧ w' = w := by
  by_cases h1 : s.size = 0
  · have HE : Hid (tagB s = false) := by show _ = _; simp [tagB]; omega
    have h1' : ((s.size : Int) == 0) = true := by rw [beq_iff_eq]; omega
    go_enter Try.func64, Try.ntmps64
    go_wp2_with fail
    go_ret
    exact ⟨by rw [HE.out]; rfl, rfl⟩
  · have h1' : ((s.size : Int) == 0) = false := by rw [beq_eq_false_iff_ne]; omega
    by_cases h2 : 15 < s.size
    · have HE : Hid (tagB s = false) := by show _ = _; simp [tagB]; omega
      have h2' : (15 : Int) < (s.size : Int) := by omega
      go_enter Try.func64, Try.ntmps64
      go_wp2_with fail
      go_ret
      exact ⟨by rw [HE.out]; rfl, rfl⟩
    · have h2' : ¬ (15 : Int) < (s.size : Int) := by omega
      have HT : Hid (tagB s = (nums s).all alnum) := by show _ = _; simp [tagB]; intro _; omega
      go_enter Try.func64, Try.ntmps64
      go_wp2_with fail
      go_loopw [14] (fun v wr => wr = w ∧ ∃ k : Nat, k ≤ s.size ∧ v = .int .i64 (k : Int) ∧ Hid (∀ z ∈ (nums s).take k, alnum z = true)) (fun v _ => s.size - (intOf v).toNat)
      case atStart => exact ⟨rfl, 0, Nat.zero_le _, rfl, by intro y hy; simp at hy⟩
      case round =>
        obtain ⟨hwr, k, hk, rfl, HF⟩ := hrel
        subst hwr
        by_cases hlt : k < s.size
        · have hlt' : (k : Int) < (s.size : Int) := by omega
          have hbd := nums_bd s k
          have hki : k < (nums s).length := by rw [nums_len]; exact hlt
          have hat := nums_at s k hlt
          rw [hat] at hbd
          have HA : Hid (∃ h : k < (nums s).length, (nums s)[k] = (s[k].toNat : Int)) := by
            refine ⟨hki, ?_⟩
            have : (nums s).getD k 0 = (nums s)[k] := by simp [List.getD_eq_getElem?_getD, hki]
            rw [← this, hat]
          clear hat hki
          obtain ⟨c, hc⟩ : ∃ c : Int, (s[k].toNat : Int) = c := ⟨_, rfl⟩
          rw [hc] at hbd HA
          go_wp2_with fail
          first | simp only [hc] | skip
          refine (idx_tag c hbd.1 hbd.2 _).mono ?_
          rintro e w1 ⟨j, rfl, HJ, rfl⟩
          cases hal : alnum c with
          | true =>
            have HF2 : Hid (∀ z ∈ (nums s).take (k + 1), alnum z = true) := by
              intro z hz
              obtain ⟨hin, hav⟩ := HA.out
              rw [List.take_succ_eq_append_getElem hin] at hz
              simp only [List.mem_append, List.mem_singleton] at hz
              rcases hz with hz | hz
              · exact HF.out z hz
              · subst hz; rw [hav]; exact hal
            have hj : ¬ j < 0 := by have := HJ.out; rw [hal] at this; simpa using this
            clear HF hal HJ
            go_wp2_with fail
            exact ⟨⟨by first | rfl | trivial, k + 1, by omega, by go_num, HF2⟩, by simp [intOf]; omega⟩
          | false =>
            have HE : Hid (tagB s = false) := by
              show _ = _
              rw [HT.out, ← Bool.not_eq_true]
              intro hall
              obtain ⟨hin, hav⟩ := HA.out
              have := List.all_eq_true.1 hall (nums s)[k] (List.getElem_mem hin)
              rw [hav, hal] at this
              cases this
            have hj : j < 0 := by have := HJ.out; rw [hal] at this; simpa using this
            clear HF hal HT HJ
            go_wp2_with fail
            go_ret
            exact ⟨by rw [HE.out]; rfl, rfl⟩
        · have hge : ¬ (k : Int) < (s.size : Int) := by omega
          have HE : Hid (tagB s = true) := by
            have := HF.out
            rw [List.take_of_length_le (by rw [nums_len]; omega)] at this
            show _ = _
            rw [HT.out]
            exact List.all_eq_true.2 this
          clear HF HT
          go_wp2_with fail
          go_ret
          exact ⟨by rw [HE.out]; rfl, rfl⟩
end Go.Proofs.Ytdeoembjfdbbkaa
/- The program's data: numbers and texts within their bounds. -/
namespace Go.Proofs.Ytdeoembjfdbbkaa
open Go.ChangeShapes Go.WideShapes Go.ChangeAt Go.RowKit
set_option linter.unusedVariables false
set_option linter.unusedSimpArgs false

/-- Whether numbers and texts are within their bounds. -/
def wthB (f : Fs) (d : Dat) : Bool := d.us.all (fun n => decide (n / 2 ^ (8 * f.wd) = 0)) && (d.ts.take f.tg).all tagB && (d.ts.take (d.ts.length - f.tl)).all (fun s => decide (s.size ≤ 255))
theorem all_cut {α : Type} (l : List α) (p : α → Bool) (k : Nat) (hk : k < l.length) (h : p l[k] = false) : l.all p = false := by
  rw [← Bool.not_eq_true]
  intro hall
  have := List.all_eq_true.1 hall l[k] (List.getElem_mem hk)
  rw [h] at this
  cases this
theorem all_next {α : Type} (l : List α) (p : α → Bool) (k : Nat) (hk : k < l.length) (h : p l[k] = true) (hf : ∀ z ∈ l.take k, p z = true) : ∀ z ∈ l.take (k + 1), p z = true := by
  intro z hz
  rw [List.take_succ_eq_append_getElem hk] at hz
  simp only [List.mem_append, List.mem_singleton] at hz
  rcases hz with hz | hz
  · exact hf z hz
  · subst hz; exact h
set_option maxRecDepth 100000 in
set_option maxHeartbeats 4000000 in
theorem within_any (f : Fs) (x : DA) (d : Dat) (w : World) (h : DRd w x d) (hwd : f.wd = 0 ∨ f.wd = 1 ∨ f.wd = 2 ∨ f.wd = 4) (htg : f.tg ≤ d.ts.length) (htl : f.tl ≤ d.ts.length) :
    Calls Try.prog 41 #[.agg #[.int .i64 f.nn, .int .i64 f.nf, .int .i64 f.nu, .int .i64 f.wd, .int .i64 f.nt, .int .i64 f.tg, .int .i64 f.tl, .int .i64 f.nr], .agg #[.slice x.p1.a x.p1.n x.p1.c, .slice x.p2.a x.p2.n x.p2.c, .slice x.p3.a x.p3.n x.p3.c, .slice x.p4.a x.p4.n x.p4.c]] w fun e w' => e = .returned (.bool (wthB f d)) ∧ Hid (Below w.heap.size w w') := by
  have H : Hid (PtSt w ((w.alloc (.cells #[.int .i64 f.nn, .int .i64 f.nf, .int .i64 f.nu, .int .i64 f.wd, .int .i64 f.nt, .int .i64 f.tg, .int .i64 f.tl, .int .i64 f.nr] 58)).alloc (.cells #[.slice x.p1.a x.p1.n x.p1.c, .slice x.p2.a x.p2.n x.p2.c, .slice x.p3.a x.p3.n x.p3.c, .slice x.p4.a x.p4.n x.p4.c] 29)) w.heap.size f x d) := PtSt.new w f x d h
  have l2 := h.h2.len
  have l3 := h.h3.len
  have HC : Hid (x.p2.n ≤ 9223372036854775807 ∧ x.p3.n ≤ x.p3.c ∧ x.p3.c ≤ 9223372036854775807) := ⟨Nat.le_trans h.h2.cap.1 h.h2.cap.2, h.h3.cap.1, h.h3.cap.2⟩
  clear h
  obtain ⟨nn, nf, nu, wd, nt, tg, tl, nr⟩ := f
  obtain ⟨⟨a1, n1, k1⟩, ⟨a2, n2, k2⟩, ⟨a3, n3, k3⟩, ⟨a4, n4, k4⟩⟩ := x
  simp only at H l2 l3 HC hwd htg htl ⊢
  have hk3 := HC.out.2
  have hn2 := HC.out.1
  have htg' : tg ≤ n3 := by omega
  have htl' : tl ≤ n3 := by omega
  have HW : Hid (wthB ⟨nn, nf, nu, wd, nt, tg, tl, nr⟩ d = (d.us.all (fun n => decide (n / 2 ^ (8 * wd) = 0)) && (d.ts.take tg).all tagB && (d.ts.take (n3 - tl)).all (fun s => decide (s.size ≤ 255)))) := by
    show _ = _
    unfold wthB
    rw [l3]
  have HL : Hid (d.us.length = n2 ∧ d.ts.length = n3) := ⟨l2, l3⟩
  obtain ⟨R, hR⟩ : ∃ R, wthB ⟨nn, nf, nu, wd, nt, tg, tl, nr⟩ d = R := ⟨_, rfl⟩
  rw [hR] at HW ⊢
  clear hR l2 l3 htg htl HC
  go_enter Try.func41, Try.ntmps41
  go_upto_region 1 with fail
  generalize ((w.alloc (.cells #[.int .i64 nn, .int .i64 nf, .int .i64 nu, .int .i64 wd, .int .i64 nt, .int .i64 tg, .int .i64 tl, .int .i64 nr] 58)).alloc (.cells #[.slice a1 n1 k1, .slice a2 n2 k2, .slice a3 n3 k3, .slice a4 n4 k4] 29)) = W1 at *
  obtain ⟨b, hb⟩ : ∃ b, b = w.heap.size := ⟨_, rfl⟩
  rw [← hb] at H ⊢
  have Hb : Hid (b = w.heap.size) := hb
  clear hb
  have s3 := H.out.1.2.2.2.1
  have c1 := H.out.2.1.2.1
  simp only at s3 c1
  go_wp2_with fail
  go_loopw [14] (fun v wr => wr = W1 ∧ ∃ k : Nat, k ≤ n2 ∧ v = .int .i64 (k : Int) ∧ Hid (∀ z ∈ d.us.take k, decide (z / 2 ^ (8 * wd) = 0) = true)) (fun v _ => n2 - (intOf v).toNat)
  case atStart => exact ⟨rfl, 0, Nat.zero_le _, rfl, by intro y hy; simp at hy⟩
  case round =>
    obtain ⟨hwr, k, hk, rfl, HF⟩ := hrel
    subst hwr
    by_cases hlt : k < n2
    · have hlt' : (k : Int) < (n2 : Int) := by omega
      have hki : k < d.us.length := by rw [HL.out.1]; exact hlt
      obtain ⟨B2, o2, ha2, hl2, hz2⟩ := H.out.2.2.1.h2.at k hki
      have hub := H.out.2.2.1.h2.bd _ (List.getElem_mem hki)
      simp only at ha2
      subst ha2
      have HN : Hid (decide (d.us[k] / 2 ^ (8 * wd) = 0) = true → ∀ z ∈ d.us.take (k + 1), decide (z / 2 ^ (8 * wd) = 0) = true) := fun hh => all_next d.us _ k hki hh HF.out
      have HX : Hid (decide (d.us[k] / 2 ^ (8 * wd) = 0) = false → R = false) := by
        intro hh
        have := HW.out
        rw [all_cut d.us (fun n => decide (n / 2 ^ (8 * wd) = 0)) k hki hh] at this
        simpa using this
      clear HF
      generalize d.us[k] = u at *
      have hq : ∀ m : Nat, ((u : Int) / ((2 ^ m : Nat) : Int)) = ((u / 2 ^ m : Nat) : Int) := by intro m; simp
      by_cases hu : u / 2 ^ (8 * wd) = 0
      · have HF2 := HN.out (decide_eq_true hu)
        have HF3 : Hid (∀ z ∈ d.us.take (k + 1), decide (z / 2 ^ (8 * wd) = 0) = true) := HF2
        clear HF2 HN HX
        rcases hwd with e | e | e | e
        all_goals
          subst e
          simp at hu
          go_wp2_with fail
          exact ⟨⟨by first | rfl | trivial, k + 1, by omega, by go_num, HF3⟩, by simp [intOf]; omega⟩
      · have HE : Hid (R = false) := HX.out (decide_eq_false hu)
        clear HN HX HW
        rcases hwd with e | e | e | e
        all_goals
          subst e
          simp at hu
          first
          | omega
          | (go_wp2_with fail
             go_ret
             exact ⟨by rw [HE.out]; rfl, H.out.2.2.2⟩)
    · have hge : ¬ (k : Int) < (n2 : Int) := by omega
      have HU : Hid (d.us.all (fun n => decide (n / 2 ^ (8 * wd) = 0)) = true) := by
        have := HF.out
        rw [List.take_of_length_le (by rw [HL.out.1]; omega)] at this
        exact List.all_eq_true.2 this
      clear HF
      have s5 := H.out.1.2.2.2.2.2.1
      have c2 := H.out.2.1.2.2.1
      simp only at s5 c2
      clear s3 c1 hwd
      go_wp2_with fail
      obtain ⟨wz, hz⟩ : ∃ z, z = wr := ⟨_, rfl⟩
      subst hz
      go_loopw [31] (fun v wr => wr = wz ∧ ∃ k : Nat, k ≤ tg ∧ v = .int .i64 (k : Int) ∧ Hid (∀ z ∈ (d.ts.take tg).take k, tagB z = true)) (fun v _ => tg - (intOf v).toNat)
      case atStart => exact ⟨rfl, 0, Nat.zero_le _, rfl, by intro y hy; simp at hy⟩
      case round =>
        obtain ⟨hwr, j, hj, rfl, HF⟩ := hrel
        subst hwr
        by_cases hjt : j < tg
        · have hjt' : (j : Int) < (tg : Int) := by omega
          have hji : j < d.ts.length := by rw [HL.out.2]; omega
          have hjj : j < (d.ts.take tg).length := by rw [List.length_take]; omega
          obtain ⟨B3, o3, ha3, hl3, hy3⟩ := H.out.2.2.1.h3.rd.at j hji
          have hsz := H.out.2.2.1.h3.z63 _ (List.getElem_mem hji)
          simp only at ha3
          subst ha3
          have hjs : (d.ts.take tg)[j] = d.ts[j] := by simp
          have HN : Hid (tagB d.ts[j] = true → ∀ z ∈ (d.ts.take tg).take (j + 1), tagB z = true) := fun hh => all_next (d.ts.take tg) tagB j hjj (by rw [hjs]; exact hh) HF.out
          have HX : Hid (tagB d.ts[j] = false → R = false) := by
            intro hh
            have := HW.out
            rw [all_cut (d.ts.take tg) tagB j hjj (by rw [hjs]; exact hh)] at this
            simpa using this
          clear HF hjs hjj
          generalize d.ts[j] = s at *
          go_wp2_with fail
          refine (istag_any s hsz _).mono ?_
          rintro e Wx ⟨rfl, rfl⟩
          cases htb : tagB s with
          | true =>
            have HF2 : Hid (∀ z ∈ (d.ts.take tg).take (j + 1), tagB z = true) := HN.out htb
            clear HN HX htb
            go_wp2_with fail
            exact ⟨⟨by first | rfl | trivial, j + 1, by omega, by go_num, HF2⟩, by simp [intOf]; omega⟩
          | false =>
            have HE : Hid (R = false) := HX.out htb
            clear HN HX htb
            go_wp2_with fail
            go_ret
            exact ⟨by rw [HE.out]; rfl, H.out.2.2.2⟩
        · have hge2 : ¬ (j : Int) < (tg : Int) := by omega
          have HT : Hid ((d.ts.take tg).all tagB = true) := by
            have := HF.out
            rw [List.take_of_length_le (by rw [List.length_take]; omega)] at this
            exact List.all_eq_true.2 this
          clear HF
          have s6 := H.out.1.2.2.2.2.2.2.1
          simp only at s6
          obtain ⟨m, hm⟩ : ∃ m : Nat, m = n3 - tl := ⟨_, rfl⟩
          have hmi : (n3 : Int) - (tl : Int) = (m : Int) := by omega
          have hmw : IntKind.i64.wrap ((n3 : Int) - (tl : Int)) = (m : Int) := by rw [hmi, IntKind.wrap_i64]; omega
          have HM : Hid (m = n3 - tl) := hm
          have hmn : m ≤ n3 := by omega
          clear hm hmi s5
          go_wp2_with fail
          obtain ⟨wy, hz⟩ : ∃ z, z = wr := ⟨_, rfl⟩
          subst hz
          go_loopw [49] (fun v wr => wr = wy ∧ ∃ k : Nat, k ≤ m ∧ v = .int .i64 (k : Int) ∧ Hid (∀ z ∈ (d.ts.take m).take k, decide (z.size ≤ 255) = true)) (fun v _ => m - (intOf v).toNat)
          case atStart => exact ⟨rfl, 0, Nat.zero_le _, rfl, by intro y hy; simp at hy⟩
          case round =>
            obtain ⟨hwr, i, hi, rfl, HF⟩ := hrel
            subst hwr
            by_cases hit : i < m
            · have hit' : (i : Int) < (m : Int) := by omega
              have hii : i < d.ts.length := by rw [HL.out.2]; omega
              have hij : i < (d.ts.take m).length := by rw [List.length_take]; omega
              obtain ⟨B3, o3, ha3, hl3, hy3⟩ := H.out.2.2.1.h3.rd.at i hii
              simp only at ha3
              subst ha3
              have his : (d.ts.take m)[i] = d.ts[i] := by simp
              by_cases hz : (255 : Int) < (d.ts[i].size : Int)
              · have HE : Hid (R = false) := by
                  have := HW.out
                  show R = false
                  rw [← HM.out, all_cut (d.ts.take m) (fun s => decide (s.size ≤ 255)) i hij (by rw [his]; exact decide_eq_false (by omega))] at this
                  simpa using this
                clear HF HW
                generalize d.ts[i] = s at *
                go_wp2_with fail
                go_ret
                exact ⟨by rw [HE.out]; rfl, H.out.2.2.2⟩
              · have HF2 : Hid (∀ z ∈ (d.ts.take m).take (i + 1), decide (z.size ≤ 255) = true) := all_next (d.ts.take m) (fun z => decide (z.size ≤ 255)) i hij (by rw [his]; exact decide_eq_true (by omega)) HF.out
                clear HF his
                generalize d.ts[i] = s at *
                go_wp2_with fail
                exact ⟨⟨by first | rfl | trivial, i + 1, by omega, by go_num, HF2⟩, by simp [intOf]; omega⟩
            · have hge3 : ¬ (i : Int) < (m : Int) := by omega
              have HE : Hid (R = true) := by
                have h1 := HF.out
                rw [List.take_of_length_le (by rw [List.length_take]; omega)] at h1
                have h2 := HW.out
                rw [HU.out, HT.out, ← HM.out, List.all_eq_true.2 h1] at h2
                show R = true
                simpa using h2
              clear HF HW
              go_wp2_with fail
              go_ret
              exact ⟨by rw [HE.out]; rfl, H.out.2.2.2⟩
end Go.Proofs.Ytdeoembjfdbbkaa
/- The program's names, first part: size, check, copy, fold, parent, above. -/
namespace Go.Proofs.Ytdeoembjfdbbkaa
open Go.ChangeShapes Go.WideShapes Go.ChangeAt Go.RowKit
set_option linter.unusedVariables false
set_option linter.unusedSimpArgs false


set_option maxRecDepth 100000 in
set_option maxHeartbeats 1000000 in
theorem psize_eq (a : Option Addr) (len cap : Nat) (ss : List ByteArray) (w : World) (hr : RdT w a ss) (hl : ss.length = len) (hm : nsz ss ≤ 1000000000000000) :
    Calls Try.prog 66 #[.slice a len cap] w fun e w' => e = .returned (.int .i64 (nsz ss)) ∧ w' = w := by
  have HR : Hid (RdT w a ss) := hr
  have HL : Hid (ss.length = len) := hl
  have hln : len ≤ 9223372036854775807 := by have := nsz_len ss; omega
  obtain ⟨T, hT⟩ : ∃ T, nsz ss = T := ⟨_, rfl⟩
  have HT : Hid (nsz ss = T) := hT
  rw [hT] at hm ⊢
  clear hr hl hT
  go_enter Try.func66, Try.ntmps66
  go_wp2_with fail
  go_loop [3, 8] (fun n x => ∃ k m : Nat, k ≤ len ∧ m ≤ T ∧ x = .int .i64 k ∧ n = .int .i64 m ∧ Hid (nsz (ss.take k) = m)) (fun _ x => len - (intOf x).toNat)
  case atStart => exact ⟨0, 1, Nat.zero_le _, by rw [← HT.out]; exact nsz_le ss 0, rfl, rfl, rfl⟩
  case round =>
    obtain ⟨k, m, hk, hmT, rfl, rfl, HM⟩ := hrel
    by_cases hlt : k < len
    · have hlt' : (k : Int) < (len : Int) := by omega
      have hks : k < ss.length := by rw [HL.out]; exact hlt
      obtain ⟨b, o, rfl, hb, hc⟩ := HR.out.at k hks
      have hn : nsz (ss.take (k + 1)) = m + ss[k].size + 1 := by rw [take_snocT ss k hks, nsz_snoc, HM.out]
      have hle := nsz_le ss (k + 1)
      rw [hn, HT.out] at hle
      have HN : Hid (nsz (ss.take (k + 1)) = m + ss[k].size + 1) := hn
      clear hn
      generalize ss[k] = s at *
      go_wp2
      go_round
      case rel => exact ⟨k + 1, m + s.size + 1, by omega, hle, by go_num, by go_num, HN⟩
      case measure => simp [intOf]; omega
    · have hge : (len : Int) ≤ (k : Int) := by omega
      have e : m = T := by rw [← HM.out, ← HT.out, List.take_of_length_le (by rw [HL.out]; omega)]
      subst e
      go_wp2
      go_ret
      exact ⟨rfl, rfl⟩
set_option maxRecDepth 100000 in
set_option maxHeartbeats 1000000 in
theorem pcheck_eq (a : Option Addr) (len cap : Nat) (ss : List ByteArray) (w : World) (hr : RdT w a ss) (hl : ss.length = len) (hm : nsz ss ≤ 1000000000000000) (hlen : len ≤ 9223372036854775807) (hz : ∀ s ∈ ss, s.size ≤ 9223372036854775807) :
    Calls Try.prog 42 #[.slice a len cap] w fun e w' => e = .returned (.int .i64 (nck ss)) ∧ w' = w := by
  have HR : Hid (RdT w a ss ∧ ∀ s ∈ ss, s.size ≤ 9223372036854775807) := ⟨hr, hz⟩
  have HL : Hid (ss.length = len) := hl
  have HS : Hid (∀ W, RdT W a ss → Calls Try.prog 66 #[.slice a len cap] W fun e w' => e = .returned (.int .i64 (nsz ss)) ∧ w' = W) := fun W hW => psize_eq a len cap ss W hW hl hm
  obtain ⟨T, hT⟩ : ∃ T, nsz ss = T := ⟨_, rfl⟩
  have HT : Hid (nsz ss = T) := hT
  rw [hT] at hm HS
  clear hr hl hT hz
  go_enter Try.func42, Try.ntmps42
  go_wp2_with fail
  go_loopw [8] (fun x wr => ∃ k : Nat, k ≤ len ∧ x = .int .i64 k ∧ wr = w ∧ Hid (∀ i (h : i < ss.length), i < k → chk ss[i].size = 0)) (fun x _ => len - (intOf x).toNat)
  case atStart => exact ⟨0, Nat.zero_le _, rfl, rfl, fun i _ h => absurd h (by omega)⟩
  case round =>
    obtain ⟨k, hk, rfl, rfl, HK⟩ := hrel
    by_cases hlt : k < len
    · have hlt' : (k : Int) < (len : Int) := by omega
      have hks : k < ss.length := by rw [HL.out]; exact hlt
      obtain ⟨b, o, rfl, hb, hc⟩ := HR.out.1.at k hks
      have HC : Hid (∀ W, Calls Try.prog 65 #[.string ss[k]] W fun e w' => e = .returned (.int .i64 (chk ss[k].size)) ∧ w' = W) := fun W => chk_any ss[k] W (HR.out.2 _ (List.getElem_mem hks))
      rcases chk_cases ss[k].size with hk0 | hk4
      · have HN : Hid (∀ i (h : i < ss.length), i < k + 1 → chk ss[i].size = 0) := by
          intro i h hi
          by_cases e : i = k
          · subst e; exact hk0
          · exact HK.out i h (by omega)
        rw [hk0] at HC
        clear hk0 HK
        generalize ss[k] = s at *
        go_wp2_with fail
        refine (HC.out _).mono ?_
        rintro e w1 ⟨rfl, rfl⟩
        go_wp2
        exact ⟨⟨k + 1, by omega, by go_num, trivial, HN⟩, by simp [intOf]; omega⟩
      · have HE : Hid (nck ss = 4) := by
          show nck ss = 4
          unfold nck
          rw [if_neg (fun h => by have := h _ (List.getElem_mem hks); rw [hk4] at this; cases this)]
        rw [hk4] at HC
        clear hk4 HK
        generalize ss[k] = s at *
        go_wp2_with fail
        refine (HC.out _).mono ?_
        rintro e w1 ⟨rfl, rfl⟩
        go_wp2
        go_ret
        exact ⟨by rw [HE.out]; rfl, rfl⟩
    · have hge : (len : Int) ≤ (k : Int) := by omega
      have HO : Hid (labsOk ss) := by
        intro s hs
        obtain ⟨i, hi, rfl⟩ := List.getElem_of_mem hs
        exact HK.out i hi (by have := HL.out; omega)
      by_cases hb : 255 < T
      · have HE : Hid (nck ss = 5) := by show nck ss = 5; unfold nck; rw [if_pos HO.out, HT.out, if_pos hb]
        have hb' : (255 : Int) < (T : Int) := by omega
        clear HK HO
        go_wp2_with fail
        refine (HS.out _ HR.out.1).mono ?_
        rintro e w1 ⟨rfl, rfl⟩
        go_wp2
        go_ret
        exact ⟨by rw [HE.out]; rfl, rfl⟩
      · have HE : Hid (nck ss = 0) := by show nck ss = 0; unfold nck; rw [if_pos HO.out, HT.out, if_neg hb]
        have hb' : ¬ (255 : Int) < (T : Int) := by omega
        clear HK HO
        go_wp2_with fail
        refine (HS.out _ HR.out.1).mono ?_
        rintro e w1 ⟨rfl, rfl⟩
        go_wp2
        go_ret
        exact ⟨by rw [HE.out]; rfl, rfl⟩
theorem pm_check {a : Option Addr} {n : Nat} {ss : List ByteArray} {w : World} (c : Nat) (h : Nm w a n ss) : Calls Try.prog 42 #[.slice a n c] w fun e w' => e = .returned (.int .i64 (nck ss)) ∧ w' = w :=
  pcheck_eq a n c ss w h.rd h.len (by have := h.sz; omega) (by have := h.n63; omega) (fun s hs => by have := h.mem s hs; omega)
theorem pcheck_any (a : Option Addr) (n c : Nat) (ss : List ByteArray) (w : World) (h : Nm w a n ss) : Calls Try.prog 42 #[.slice a n c] w fun e w' => e = .returned (.int .i64 (nck ss)) ∧ Hid (Below w.heap.size w w') :=
  (pm_check c h).mono fun e w' h => ⟨h.1, by rw [h.2]; exact Below.refl _ _⟩
theorem psize_any (a : Option Addr) (n c : Nat) (ss : List ByteArray) (w : World) (h : Nm w a n ss) : Calls Try.prog 66 #[.slice a n c] w fun e w' => e = .returned (.int .i64 (nsz ss)) ∧ Hid (Below w.heap.size w w') :=
  (psize_eq a n c ss w h.rd h.len (by have := h.sz; omega)).mono fun e w' h => ⟨h.1, by rw [h.2]; exact Below.refl _ _⟩
set_option maxRecDepth 100000 in
set_option maxHeartbeats 800000 in
theorem pcopy_eq (a : Option Addr) (cap len : Nat) (ss : List ByteArray) (M : Nat) (w : World) (hr : RdT w a ss) (hl : ss.length = len) (hM : ∀ s ∈ ss, s.size ≤ M) (hm : len ≤ 8796093022000) :
    Calls Try.prog 45 #[.slice a len cap] w (CopyPost ss M w) := by
  have HR : Hid (RdT w a ss ∧ ∀ s ∈ ss, s.size ≤ M) := ⟨hr, hM⟩
  have HL : Hid (ss.length = len) := hl
  clear hr hl hM
  go_enter Try.func45, Try.ntmps45
  go_wp2_with (at_builtin; refine wpList_append_T tyN _ rfl _ _ 53 9 Try.underlying53 rfl w.heap.size _ 0 [] M rfl (OwnT.nil _ _ _) a len cap ss rfl HR.out.1 HL.out HR.out.2 (by omega) (Nat.le_refl _) ?_; intro v' w' ys hO hT hG)
  go_ret
  refine ⟨v', ys, rfl, ?_, ?_, ?_⟩
  · have h := hO.out
    rw [Nat.zero_add, ← HL.out] at h
    exact h
  · have h := hT.out
    rw [Nat.zero_add, ← HL.out] at h
    simpa using h
  · exact (Below.refl _ _).grown hG (Nat.le_refl _) (by intro k hk; cases hk)
theorem pm_copy {a : Option Addr} {n : Nat} {ss : List ByteArray} {w : World} (c : Nat) (h : Nm w a n ss) : Calls Try.prog 45 #[.slice a n c] w (CopyPost ss 1000000000000 w) :=
  pcopy_eq a c n ss 1000000000000 w h.rd h.len h.mem (by have := h.n63; omega)
theorem pcopy_any (a : Option Addr) (n c : Nat) (ss : List ByteArray) (w : World) (h : Nm w a n ss) : Calls Try.prog 45 #[.slice a n c] w (CopyPost ss 1000000000000 w) := pm_copy c h
end Go.Proofs.Ytdeoembjfdbbkaa
