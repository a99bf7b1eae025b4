/- What the statements' helpers do with lists of bytes. -/
import Derived.Test.YtfnpiknobmecbaaStr
import Derived.Deep.QuietTactic
import Derived.BigQuiet
import Derived.Deep.RegionHeld3
import Derived.WalkSpells
namespace Go.Proofs.Ytfnpiknobmecbaa
open Go.ChangeShapes Go.WideShapes Go.ChangeAt Go.RowKit
set_option linter.unusedVariables false
set_option linter.unusedSimpArgs false




set_option maxRecDepth 100000 in
set_option maxHeartbeats 400000 in
theorem same_yes (a b : Option Addr) (n c d : Nat) (zs : List Int) (w : World) (hr : Rd w a zs) (hr' : Rd w b zs) (hl : zs.length = n) :
    Calls Try.prog 13 #[.slice a n c, .slice b n d] w fun e w' => e = .returned (.bool true) ∧ w' = w := by
  have h1 := conv_rd a n c zs w hr hl
  have h2 := conv_rd b n d zs w hr' hl
  clear hr hr'
  generalize txt zs = t at *
  go_enter Try.func13, Try.ntmps13
  go_wp2
  go_ret
  exact ⟨rfl, rfl⟩
/-- The marks behind a list that is lent. -/
def marks (n : Nat) : List Int := [160 + (n : Int) % 90, 160 + ((n : Int) + 1) % 90, 160 + ((n : Int) + 2) % 90]
def lent (zs : List Int) (k : Nat) : List Int := zs ++ (marks zs.length).take k ++ List.replicate (3 - k) 0
theorem lent_len (zs : List Int) (k : Nat) (h : k ≤ 3) : (lent zs k).length = zs.length + 3 := by
  simp [lent, marks]; omega
theorem lent_step (zs : List Int) (k : Nat) (h : k < 3) : (lent zs k).set (zs.length + k) (160 + ((zs.length : Int) + k) % 90) = lent zs (k + 1) := by
  have : k = 0 ∨ k = 1 ∨ k = 2 := by omega
  rcases this with rfl | rfl | rfl <;> simp [lent, marks, List.replicate]
theorem lent_zero (zs : List Int) : lent zs 0 = zs ++ [0, 0, 0] := by simp [lent, List.replicate]
theorem lent_take (zs : List Int) (k : Nat) : (lent zs k).take zs.length = zs := by simp [lent]
set_option maxRecDepth 100000 in
set_option maxHeartbeats 800000 in
theorem lent_any (a : Option Addr) (cap : Nat) (zs : List Int) (w : World) (hr : Rd w a zs) (hd : a = none → cap = 0) (hm : zs.length ≤ 140737488355328) :
    Calls Try.prog 16 #[.slice a zs.length cap] w fun e w' => e = .returned (.slice (some ⟨w.heap.size, 0, none⟩) zs.length (zs.length + 3)) ∧ Blk w' w.heap.size (lent zs 3) ∧ w'.heap.size = w.heap.size + 1 ∧ Below w.heap.size w w' := by
  have HR : Hid (Rd w a zs) := hr
  have HD : Hid (a = none → cap = 0) := hd
  clear hr hd
  obtain ⟨len, hlen⟩ : ∃ len, len = zs.length := ⟨_, rfl⟩
  rw [← hlen] at hm ⊢
  have HL : Hid (len = zs.length) := hlen
  clear hlen
  have hW1 : Blk (w.alloc (.cells (Array.replicate (len + 3) (Value.int .u8 0)) 5)) w.heap.size (List.replicate (len + 3) 0) := by
    refine ⟨?_, fun z hz => ?_⟩
    · rw [heap_alloc_new]; simp
    · rw [(List.mem_replicate.1 hz).2]; omega
  have hb1 : Below w.heap.size w (w.alloc (.cells (Array.replicate (len + 3) (Value.int .u8 0)) 5)) := (Below.refl _ _).alloc (Nat.le_refl _) _
  obtain ⟨W2, hcp, hblk, hsz, hbel⟩ : ∃ W2, (Builtin.copy_ #[27, 27] 3 #[.slice (some ⟨w.heap.size, 0, none⟩) (len + 3) (len + 3), .slice a len cap]).run Try.prog (w.alloc (.cells (Array.replicate (len + 3) (Value.int .u8 0)) 5)) = .ok (.int .i64 len) W2 ∧ Hid (Blk W2 w.heap.size (lent zs 0)) ∧ W2.heap.size = w.heap.size + 1 ∧ Below w.heap.size w W2 := by
    refine ⟨_, run_copy_blk _ 3 w.heap.size (len + 3) (len + 3) _ hW1 a len cap zs (HR.out.below hb1) HL.out.symm (by omega) (by simp) HD.out, ?_, ?_, ?_⟩
    · have e : zs ++ (List.replicate (len + 3) (0 : Int)).drop len = lent zs 0 := by
        rw [lent_zero, List.drop_replicate, Nat.add_sub_cancel_left]; rfl
      refine ⟨by rw [setRow_heap _ _ _ _ 5 _ hW1.1, e], fun z hz => ?_⟩
      rw [lent_zero] at hz
      simp only [List.mem_append, List.mem_cons, List.not_mem_nil, or_false, or_self] at hz
      rcases hz with hz | rfl
      · exact HR.out.2 z hz
      · omega
    · simp [World.setRow]
    · exact below_setRow hb1 (Nat.le_refl _) _
  clear hW1 hb1
  go_enter Try.func16, Try.ntmps16
  go_wp2_with (at_make; refine wpList_make_blk _ rfl _ _ rfl (len + 3) (len + 3) _ _ rfl rfl (by omega) (by omega) (by omega) (by omega) ?_)
  clear hcp
  go_loopw [4] (fun i wr => ∃ k : Nat, k ≤ 3 ∧ i = .int .i64 (len + k : Nat) ∧ Hid (Blk wr w.heap.size (lent zs k)) ∧ wr.heap.size = w.heap.size + 1 ∧ Below w.heap.size w wr) (fun i _ => (len + 3 - (intOf i).toNat))
  case atStart => exact ⟨0, by omega, rfl, hblk, hsz, hbel⟩
  case round =>
    obtain ⟨k, hk, rfl, hB, hz, hbl⟩ := hrel
    by_cases hlt : k < 3
    · have hc := hB.out.cell (len + k) (by rw [lent_len _ _ hk, ← HL.out]; omega)
      have hf := hB.out.frozen (len + k)
      have h1 : ((len + k : Nat) : Int) < (len : Int) + 3 := by omega
      clear hblk hsz hbel
      go_wp2
      refine ⟨⟨k + 1, by omega, by go_num, ?_, ?_, ?_⟩, by simp [intOf]; omega⟩
      · have hst := hB.out.stored (len + k) (160 + ((len : Int) + (k : Int)) % 90) (by omega)
        have e := lent_step zs k hlt
        rw [← HL.out] at e
        rw [e] at hst
        exact hst
      · rw [← hz]; simp [World.setCell]
      · exact hbl.setCell (Nat.le_refl _) _
    · obtain rfl : k = 3 := by omega
      go_wp2
      go_ret
      exact ⟨rfl, hB.out, hz, hbl⟩
/-- A new list of bytes out of 'append([]byte{}, b...)'. -/
theorem empty_own (w : World) : Own w.heap.size (w.alloc (.cells #[] 5)) (.slice (some ⟨w.heap.size, 0, none⟩) 0 0) 0 [] :=
  .inr ⟨w.heap.size, rfl, Nat.le_refl _, ⟨by rw [heap_alloc_new]; rfl, by simp⟩, Nat.le_refl _, Nat.zero_le _⟩
set_option maxRecDepth 100000 in
set_option maxHeartbeats 800000 in
theorem copy_any (a : Option Addr) (cap : Nat) (zs : List Int) (w : World) (hr : Rd w a zs) (hd : a = none → cap = 0) (hm : zs.length ≤ 140737488355328) :
    Calls Try.prog 30 #[.slice a zs.length cap] w fun e w' => ∃ v ys, e = .returned v ∧ Own w.heap.size w' v zs.length ys ∧ ys.take zs.length = zs ∧ Below w.heap.size w w' := by
  have HR : Hid (Rd w a zs) := hr
  have HD : Hid (a = none → cap = 0) := hd
  clear hr hd
  obtain ⟨len, hlen⟩ : ∃ len, len = zs.length := ⟨_, rfl⟩
  rw [← hlen] at hm ⊢
  have HL : Hid (len = zs.length) := hlen
  clear hlen
  have hb1 : Below w.heap.size w (w.alloc (.cells #[] 5)) := (Below.refl _ _).alloc (Nat.le_refl _) _
  go_enter Try.func30, Try.ntmps30
  go_wp2_with (at_builtin; refine wpList_append_blk _ rfl _ _ rfl w.heap.size _ 0 [] rfl (empty_own w) a len cap zs rfl (HR.out.below hb1) HL.out.symm HD.out (by omega) (by simp) ?_; intro v' w' zs' hO hT hG)
  go_ret
  refine ⟨v', zs', rfl, ?_, ?_, ?_⟩
  · have h := hO.out
    rw [Nat.zero_add] at h
    exact h
  · have h := hT.out
    rw [Nat.zero_add] at h
    simpa using h
  · refine hb1.grown hG (by simp) ?_
    intro k hk
    have e : w.heap.size = k := Option.some.inj hk
    omega
set_option maxRecDepth 100000 in
set_option maxHeartbeats 800000 in
theorem clone_any (x : Addr) (cap : Nat) (zs : List Int) (w : World) (hr : Rd w (some x) zs) (hm : zs.length ≤ 140737488355328) :
    Calls Try.prog 38 #[.slice (some x) zs.length cap] w fun e w' => ∃ v ys, e = .returned v ∧ Own w.heap.size w' v zs.length ys ∧ ys.take zs.length = zs ∧ Below w.heap.size w w' := by
  have HR : Hid (Rd w (some x) zs) := hr
  clear hr
  obtain ⟨len, hlen⟩ : ∃ len, len = zs.length := ⟨_, rfl⟩
  rw [← hlen] at hm ⊢
  have HL : Hid (len = zs.length) := hlen
  clear hlen
  have hb1 : Below w.heap.size w (w.alloc (.cells #[] 5)) := (Below.refl _ _).alloc (Nat.le_refl _) _
  have hnil : ∀ W : World, (binOp .eql 27 (.slice (some x) len cap) (.slice none 0 0)).run Try.prog W = .ok (.bool false) W := fun W => Lib.run_eql_slice_nil W _ _ _ _ _ _ _ Try.underlying27
  go_enter Try.func38, Try.ntmps38
  go_wp2_with (at_builtin; refine wpList_append_blk _ rfl _ _ rfl w.heap.size _ 0 [] rfl (empty_own w) (some x) len cap zs rfl (HR.out.below hb1) HL.out.symm (by simp) (by omega) (by simp) ?_; intro v' w' zs' hO hT hG)
  go_ret
  refine ⟨v', zs', rfl, ?_, ?_, ?_⟩
  · have h := hO.out
    rw [Nat.zero_add] at h
    exact h
  · have h := hT.out
    rw [Nat.zero_add] at h
    simpa using h
  · refine hb1.grown hG (by simp) ?_
    intro k hk
    have e : w.heap.size = k := Option.some.inj hk
    omega
theorem clone_none (w : World) :
    Calls Try.prog 38 #[.slice none 0 0] w fun e w' => e = .returned (.slice none 0 0) ∧ w' = w := by
  have hnil : ∀ W : World, (binOp .eql 27 (.slice none 0 0) (.slice none 0 0)).run Try.prog W = .ok (.bool true) W := fun W => Lib.run_eql_slice_nil W _ _ _ _ _ _ _ Try.underlying27
  go_enter Try.func38, Try.ntmps38
  go_wp2
  go_ret
  exact ⟨rfl, rfl⟩
/-- What writing over a byte makes of it. -/
def x90 (z : Int) : Int := bits .xor .u8 z 90
theorem x90_eq (z : Int) (h : 0 ≤ z ∧ z ≤ 255) : x90 z = ((z.toNat ^^^ 90 : Nat) : Int) := u8_xor z 90 h.1 (by omega) (by omega) (by omega)
theorem x90_bd (z : Int) (h : 0 ≤ z ∧ z ≤ 255) : 0 ≤ x90 z ∧ x90 z ≤ 255 := by
  rw [x90_eq z h]
  have : z.toNat ^^^ 90 < 2 ^ 8 := Nat.xor_lt_two_pow (by omega) (by omega)
  omega
theorem x90_x90 (z : Int) (h : 0 ≤ z ∧ z ≤ 255) : x90 (x90 z) = z := by
  rw [x90_eq _ (x90_bd z h), x90_eq z h]
  simp [Nat.xor_assoc]
  omega
def over (zs : List Int) (k : Nat) : List Int := (zs.take k).map x90 ++ zs.drop k
theorem over_len (zs : List Int) (k : Nat) : (over zs k).length = zs.length := by simp [over]; omega
theorem over_at (zs : List Int) (k : Nat) (h : k < zs.length) : (over zs k).getD k 0 = zs.getD k 0 := by
  simp [over, List.getD_eq_getElem?_getD, List.getElem?_append, Nat.min_eq_left (Nat.le_of_lt h)]
theorem over_step (zs : List Int) (k : Nat) (h : k < zs.length) : (over zs k).set k (x90 (zs.getD k 0)) = over zs (k + 1) := by
  have e : zs.drop k = zs.getD k 0 :: zs.drop (k + 1) := by
    rw [List.drop_eq_getElem_cons h]; simp [List.getD_eq_getElem?_getD, h]
  have l : ((zs.take k).map x90).length = k := by simp; omega
  unfold over
  rw [e, List.set_append_right _ _ (by omega), l, Nat.sub_self, List.set_cons_zero, take_snoc zs k h]
  simp
theorem over_all (zs : List Int) : over zs zs.length = zs.map x90 := by simp [over]
theorem over_zero (zs : List Int) : over zs 0 = zs := by simp [over]
set_option maxRecDepth 100000 in
set_option maxHeartbeats 800000 in
theorem over_blk (g n : Nat) (zs : List Int) (w : World) (hb : Blk w g zs) (hn : n ≤ zs.length) (hm : zs.length ≤ maxLen) :
    Calls Try.prog 15 #[.slice (some ⟨g, 0, none⟩) n zs.length] w fun e w' => e = .returned (.tuple #[]) ∧ Blk w' g (zs.map x90) ∧ w.grownBy w' (some g) ∧ w'.heap.size = w.heap.size := by
  have HB : Hid (Blk w g zs) := hb
  clear hb
  obtain ⟨len, hlen⟩ : ∃ len, len = zs.length := ⟨_, rfl⟩
  rw [← hlen] at hn hm ⊢
  have HL : Hid (len = zs.length) := hlen
  clear hlen
  unfold maxLen at hm
  go_enter Try.func15, Try.ntmps15
  go_wp2
  go_loopw [3] (fun i wr => ∃ k : Nat, k ≤ len ∧ i = .int .i64 k ∧ Hid (Blk wr g (over zs k)) ∧ w.grownBy wr (some g) ∧ wr.heap.size = w.heap.size) (fun i _ => len - (intOf i).toNat)
  case atStart => exact ⟨0, by omega, rfl, by rw [over_zero]; exact HB, World.grownBy.refl _ _, rfl⟩
  case round =>
    obtain ⟨k, hk, rfl, hB, hG, hz⟩ := hrel
    by_cases hlt : k < len
    · have hc := hB.out.cell k (by rw [over_len, ← HL.out]; omega)
      rw [over_at _ _ (by rw [← HL.out]; omega)] at hc
      have hf := hB.out.frozen k
      have h1 : (k : Int) < (len : Int) := by omega
      go_wp2
      have hzb : 0 ≤ zs.getD k 0 ∧ zs.getD k 0 ≤ 255 := by
        rcases Nat.lt_or_ge k zs.length with h | h
        · have := HB.out.2 (zs[k]) (List.getElem_mem h)
          simpa [List.getD_eq_getElem?_getD, h] using this
        · have := HL.out; omega
      have hst := hB.out.stored k (x90 (zs.getD k 0)) (x90_bd _ hzb)
      rw [over_step _ _ (by rw [← HL.out]; omega)] at hst
      refine ⟨⟨k + 1, by omega, by go_num, ?_, ?_, ?_⟩, by simp [intOf]; omega⟩
      · rw [← List.getD_eq_getElem?_getD]; exact hst
      · exact ⟨hG.os, hG.tape, hG.output, by rw [← hz]; simp [World.setCell], fun j hj hne => (Below.heap_setCell _ _ _ j (fun e => hne (by rw [e]))).trans (hG.block j hj hne)⟩
      · rw [← hz]; simp [World.setCell]
    · obtain rfl : k = len := by omega
      go_wp2
      go_end0
      have h := hB.out
      rw [HL.out, over_all] at h
      exact ⟨rfl, h, hG, hz⟩
theorem over_nil (w : World) :
    Calls Try.prog 15 #[.slice none 0 0] w fun e w' => e = .returned (.tuple #[]) ∧ w' = w := by
  go_enter Try.func15, Try.ntmps15
  go_wp2
  go_loop [3] (fun i => i = .int .i64 0) (fun _ => 0)
  case atStart => rfl
  case round =>
    subst hrel
    go_wp2
    go_end0
    exact ⟨rfl, rfl⟩
theorem over_any (B : Nat) (ao : Option Addr) (n : Nat) (zs : List Int) (w : World) (h : OwnA B w ao n zs) :
    Calls Try.prog 15 #[.slice ao n zs.length] w fun e w' => e = .returned (.tuple #[]) ∧ OwnA B w' ao n (zs.map x90) ∧ w.grownBy w' (blk ao) ∧ w'.heap.size = w.heap.size := by
  rcases h with ⟨rfl, rfl, rfl⟩ | ⟨g, rfl, hB, hb, hn, hm⟩
  · refine (over_nil w).mono ?_
    rintro e w' ⟨rfl, rfl⟩
    exact ⟨rfl, .inl ⟨rfl, rfl, rfl⟩, World.grownBy.refl _ _, rfl⟩
  · refine (over_blk g n zs w hb hn hm).mono ?_
    rintro e w' ⟨rfl, h1, h2, h3⟩
    exact ⟨rfl, .inr ⟨g, rfl, hB, h1, by simpa using hn, by simpa using hm⟩, h2, h3⟩
theorem map_x90_x90 (zs : List Int) (h : ∀ z ∈ zs, 0 ≤ z ∧ z ≤ 255) : (zs.map x90).map x90 = zs := by
  rw [List.map_map]
  conv => rhs; rw [← List.map_id zs]
  exact List.map_congr_left fun z hz => x90_x90 z (h z hz)
/-- A list's address, its length, what its block holds. -/
abbrev Elem := Option Addr × Nat × List Int
/-- The lists lie one behind the other in the block L, each in a block of its own from B on. -/
def Lie (B : Nat) (w : World) (L : Nat) (es : List Elem) : Prop :=
  L < w.heap.size ∧ ∀ k (h : k < es.length), w.cell? ⟨L, k, none⟩ = some (.slice es[k].1 es[k].2.1 es[k].2.2.length) ∧ OwnA B w es[k].1 es[k].2.1 es[k].2.2
/-- No two of them share a block, and none lies in the block L. -/
def Apart (L : Nat) (es : List Elem) : Prop :=
  (∀ k (h : k < es.length), blk es[k].1 ≠ some L) ∧ ∀ j k (hj : j < es.length) (hk : k < es.length), j ≠ k → ∀ g, blk es[j].1 = some g → blk es[k].1 ≠ some g
theorem Lie.below {B : Nat} {w w' : World} {L : Nat} {es : List Elem} (h : Lie B w L es) (hb : Below w.heap.size w w') : Lie B w' L es :=
  ⟨Nat.lt_of_lt_of_le h.1 hb.size, fun k hk => ⟨(hb.cell (p := ⟨L, k, none⟩) h.1).trans (h.2 k hk).1, (h.2 k hk).2.below hb⟩⟩
/-- One of them was written over. -/
theorem Lie.wrote {B : Nat} {w w' : World} {L : Nat} {es : List Elem} (h : Lie B w L es) (ha : Apart L es) (i : Nat) (hi : i < es.length) (zs : List Int) (hl : zs.length = es[i].2.2.length)
    (hg : w.grownBy w' (blk es[i].1)) (hs : w'.heap.size = w.heap.size) (ho : OwnA B w' es[i].1 es[i].2.1 zs) : Lie B w' L (es.set i (es[i].1, es[i].2.1, zs)) := by
  refine ⟨by rw [hs]; exact h.1, fun k hk => ?_⟩
  have hk' : k < es.length := by simpa using hk
  have hcell : w'.cell? ⟨L, k, none⟩ = w.cell? ⟨L, k, none⟩ := World.cell?_of_block (w := w) (hg.block L h.1 (fun e => (ha.1 i hi) e.symm))
  by_cases e : i = k
  · subst e
    rw [List.getElem_set_self, hcell, (h.2 i hi).1]
    exact ⟨by simp [hl], ho⟩
  · rw [List.getElem_set_ne e, hcell]
    refine ⟨(h.2 k hk').1, (h.2 k hk').2.keep fun g hg' hgl => ?_⟩
    exact hg.block g hgl (fun e' => (ha.2 i k hi hk' e g e'.symm) hg')
theorem Apart.set {L : Nat} {es : List Elem} (ha : Apart L es) (i : Nat) (hi : i < es.length) (zs : List Int) : Apart L (es.set i (es[i].1, es[i].2.1, zs)) := by
  have key : ∀ k (h : k < (es.set i (es[i].1, es[i].2.1, zs)).length), (es.set i (es[i].1, es[i].2.1, zs))[k].1 = (es[k]'(by simpa using h)).1 := by
    intro k h
    by_cases e : i = k
    · subst e; simp
    · rw [List.getElem_set_ne e]
  refine ⟨fun k hk => by rw [key]; exact ha.1 k (by simpa using hk), fun j k hj hk hne g => ?_⟩
  rw [key, key]; exact ha.2 j k (by simpa using hj) (by simpa using hk) hne g
/-- Copies of the lists' whole blocks, the first m of them, in blocks from S + 1 on, one behind the other in the block S. -/
def Copies (S : Nat) (w : World) (es : List Elem) (m : Nat) : Prop :=
  S < w.heap.size ∧ (∀ k, k < es.length → (∃ u, w.cell? ⟨S, k, none⟩ = some u) ∧ w.frozen? ⟨S, k, none⟩ = false) ∧
  ∀ k (h : k < es.length), k < m → ∃ ao c, w.cell? ⟨S, k, none⟩ = some (.slice ao es[k].2.2.length c) ∧ Rd w ao es[k].2.2 ∧ ∀ b o, ao = some ⟨b, o, none⟩ → S < b
theorem Copies.below {S : Nat} {w w' : World} {es : List Elem} {m : Nat} (h : Copies S w es m) (hb : Below w.heap.size w w') : Copies S w' es m := by
  refine ⟨Nat.lt_of_lt_of_le h.1 hb.size, fun k hk => ?_, fun k hk hm => ?_⟩
  · rw [hb.cell (p := ⟨S, k, none⟩) h.1, hb.frozen (p := ⟨S, k, none⟩) h.1]; exact h.2.1 k hk
  · obtain ⟨ao, c, h1, h2, h3⟩ := h.2.2 k hk hm
    exact ⟨ao, c, (hb.cell (p := ⟨S, k, none⟩) h.1).trans h1, h2.below hb, h3⟩
/-- A block below S is written: the copies stay. -/
theorem Copies.wrote {S : Nat} {w w' : World} {es : List Elem} {m : Nat} (h : Copies S w es m) {row : Option Nat} (hg : w.grownBy w' row) (hr : ∀ g, row = some g → g < S) : Copies S w' es m := by
  have hS : w'.heap[S]? = w.heap[S]? := hg.block S h.1 (fun e => by have := hr S e.symm; omega)
  refine ⟨Nat.lt_of_lt_of_le h.1 hg.size, fun k hk => ?_, fun k hk hm => ?_⟩
  · rw [World.cell?_of_block (w := w) (a := ⟨S, k, none⟩) hS, World.frozen?_of_block (w := w) (a := ⟨S, k, none⟩) hS]; exact h.2.1 k hk
  · obtain ⟨ao, c, h1, h2, h3⟩ := h.2.2 k hk hm
    refine ⟨ao, c, (World.cell?_of_block (w := w) (a := ⟨S, k, none⟩) hS).trans h1, ?_, h3⟩
    refine ⟨?_, h2.2⟩
    rcases h2.1 with e | ⟨b, o, rfl, e1, e2⟩
    · exact .inl e
    · refine .inr ⟨b, o, rfl, Nat.lt_of_lt_of_le e1 hg.size, fun i hi => ?_⟩
      rw [← e2 i hi]
      refine World.cell?_of_block (w := w) (a := ⟨b, o + i, none⟩) (hg.block b e1 (fun e => ?_))
      have := hr b e.symm
      have := h3 b o rfl
      omega
theorem Apart.of {L : Nat} {es : List Elem} (h1 : ∀ e ∈ es, blk e.1 ≠ some L) (h2 : es.Pairwise fun e f => ∀ g, blk e.1 = some g → blk f.1 ≠ some g) : Apart L es := by
  refine ⟨fun k hk => h1 _ (List.getElem_mem hk), fun j k hj hk hne g h3 h4 => ?_⟩
  rcases Nat.lt_or_gt_of_ne hne with h | h
  · exact List.pairwise_iff_getElem.1 h2 j k hj hk h g h3 h4
  · exact List.pairwise_iff_getElem.1 h2 k j hk hj h g h4 h3
/-- Two lists, the second made when the first was there, share no block. -/
theorem OwnA.apart {B B' : Nat} {w w' : World} {ao bo : Option Addr} {n m : Nat} {zs ys : List Int} (h1 : OwnA B w ao n zs) (h2 : OwnA B' w' bo m ys) (hw : w.heap.size ≤ B') : ∀ g, blk ao = some g → blk bo ≠ some g := by
  intro g e1 e2
  have := (h1.lt g e1).2
  have := (h2.lt g e2).1
  omega
theorem Lie.of {B L : Nat} {w : World} {es : List Elem} (hL : L < w.heap.size) (hc : ∀ k (h : k < es.length), w.cell? ⟨L, k, none⟩ = some (.slice es[k].1 es[k].2.1 es[k].2.2.length)) (ho : ∀ e ∈ es, OwnA B w e.1 e.2.1 e.2.2) : Lie B w L es :=
  ⟨hL, fun k hk => ⟨hc k hk, ho _ (List.getElem_mem hk)⟩⟩
set_option maxRecDepth 100000 in
set_option maxHeartbeats 400000 in
theorem kept_at (g : Nat) (a : Option Addr) (cap len c : Nat) (zs : List Int) (w : World) (hl : zs.length = len) (hb : Blk w g (lent zs 3)) (hr : Rd w a zs) (hd : a = none → cap = 0) (hm : len ≤ 140737488355328) (hc : len ≤ cap) (he : c = len + 3) :
    Calls Try.prog 20 #[.slice (some ⟨g, 0, none⟩) len c, .slice a len cap] w fun e w' => e = .returned (.bool true) ∧ Below w.heap.size w w' := by
  have HL : Hid (zs.length = len) := hl
  have HB : Hid (Blk w g (lent zs 3)) := hb
  have HR : Hid (Rd w a zs) := hr
  have HD : Hid (a = none → cap = 0) := hd
  have HE : Hid (c = len + 3) := he
  have hle : (len : Int) + 3 ≤ (c : Int) := by omega
  have hcm : c ≤ 140737488355331 := by omega
  have HX : Hid (∀ W : World, Rd W a zs → Calls Try.prog 16 #[.slice a len cap] W fun e w' => e = .returned (.slice (some ⟨W.heap.size, 0, none⟩) len c) ∧ Blk w' W.heap.size (lent zs 3) ∧ w'.heap.size = W.heap.size + 1 ∧ Below W.heap.size W w') := by
    intro W hW
    have := lent_any a cap zs W hW hd (by rw [hl]; exact hm)
    rw [hl, ← he] at this
    exact this
  have HY : Hid (∀ (W : World) (g' m : Nat), m = len + 3 → Blk W g (lent zs 3) → Blk W g' (lent zs 3) → Calls Try.prog 13 #[.slice (some ⟨g, 0, none⟩) c c, .slice (some ⟨g', 0, none⟩) m c] W fun e w' => e = .returned (.bool true) ∧ w' = W) := by
    intro W g' m h0 h1 h2
    subst h0
    have hlen : (lent zs 3).length = len + 3 := by rw [lent_len _ _ (Nat.le_refl _), hl]
    have t1 := h1.rd (len + 3)
    have t2 := h2.rd (len + 3)
    rw [List.take_of_length_le (by rw [hlen]; exact Nat.le_refl _)] at t1 t2
    have := same_yes _ _ _ c c _ W t1 t2 hlen
    rw [← he] at this ⊢
    exact this
  have hw : IntKind.i64.wrap ((len : Int) + 3) = (len : Int) + 3 := by rw [IntKind.wrap_i64]; omega
  have hnn : (0 : Int) ≤ (len : Int) + 3 := by omega
  clear hl hb hr hd he
  go_enter Try.func20, Try.ntmps20
  go_wp2
  go_region_held3 (fun _ => True) (trivial) (first
    | (go_at_call 16; refine (HX.out _ ?_).mono ?_; exact HR.out.drew; rintro e w1 ⟨rfl, hb1, hs1, hbel1⟩)
    | (go_at_call 13; refine (HY.out _ _ _ ?_ ?_ ?_).mono ?_; omega; exact HB.out.drew.below hbel1; exact hb1; rintro e w2 ⟨rfl, rfl⟩))
  go_wp2
  go_ret
  exact ⟨rfl, (Below.refl _ _).drew.trans hbel1⟩
theorem kept_yes (g : Nat) (a : Option Addr) (cap len : Nat) (zs : List Int) (w : World) (hl : zs.length = len) (hb : Blk w g (lent zs 3)) (hr : Rd w a zs) (hd : a = none → cap = 0) (hm : len ≤ 140737488355328) (hc : len ≤ cap) :
    Calls Try.prog 20 #[.slice (some ⟨g, 0, none⟩) len (len + 3), .slice a len cap] w fun e w' => e = .returned (.bool true) ∧ Below w.heap.size w w' :=
  kept_at g a cap len (len + 3) zs w hl hb hr hd hm hc rfl
theorem Try.info27 : (Try.prog.info? 27).map (fun i => (i.zero, i.size, i.bytes)) = some (some (.slice none 0 0), 1, 24) := by kernel_rfl
theorem copies_zero {B : Nat} {w : World} {S n : Nat} {xs : List Value} (es : List Elem) (hn : es.length = n) (h : w.ownsRow B 27 1 (.slice (some ⟨S, 0, none⟩) n n) n xs) : Copies S w es 0 := by
  rcases h.2 with ⟨e, _⟩ | ⟨g, cap, cur, e, _, hg, hc, _, hs, _⟩
  · cases e
  · have e1 : S = g := by injection e with e1 _ _; injection e1 with e1; injection e1
    have e2 : n = cap := by injection e
    subst e1; subst e2
    have hlt : S < w.heap.size := (Array.getElem?_eq_some_iff.1 hg).1
    refine ⟨hlt, fun k hk => ⟨?_, ?_⟩, fun k _ hk => absurd hk (by omega)⟩
    · refine ⟨cur[k]'(by omega), ?_⟩
      have hk' : k < cur.size := by omega
      simp [World.cell?, hg, hk']
    · simp [World.frozen?, hg]
theorem Copies.stored {S : Nat} {w : World} {es : List Elem} {m : Nat} (h : Copies S w es m) (hm : m < es.length) (ao : Option Addr) (c : Nat) (hr : Rd w ao es[m].2.2) (hb : ∀ b o, ao = some ⟨b, o, none⟩ → S < b) :
    Copies S (w.setCell ⟨S, m, none⟩ (.slice ao es[m].2.2.length c)) es (m + 1) := by
  have hsz : (w.setCell ⟨S, m, none⟩ (.slice ao es[m].2.2.length c)).heap.size = w.heap.size := by simp [World.setCell]
  have hoth : ∀ b, S < b → (w.setCell ⟨S, m, none⟩ (.slice ao es[m].2.2.length c)).heap[b]? = w.heap[b]? := fun b hb => Below.heap_setCell _ _ _ b (by show b ≠ S; omega)
  have rdk : ∀ (a' : Option Addr) (zs : List Int), Rd w a' zs → (∀ b o, a' = some ⟨b, o, none⟩ → S < b) → Rd (w.setCell ⟨S, m, none⟩ (.slice ao es[m].2.2.length c)) a' zs :=
    fun a' zs h1 h2 => h1.of_blocks (by rw [hsz]; exact Nat.le_refl _) fun b o e => hoth b (h2 b o e)
  obtain ⟨⟨u, hu⟩, hf⟩ := h.2.1 m hm
  have hat : ∀ k, (w.setCell ⟨S, m, none⟩ (.slice ao es[m].2.2.length c)).cell? ⟨S, k, none⟩ = if k = m then some (.slice ao es[m].2.2.length c) else w.cell? ⟨S, k, none⟩ := by
    intro k
    by_cases e : k = m
    · subst e; rw [if_pos rfl]; exact World.cell?_setCell_same _ _ _ hu
    · rw [if_neg e]; exact World.cell?_setCell_other _ _ _ _ (by intro e'; injection e' with _ e' _; exact e e'.symm)
  refine ⟨by rw [hsz]; exact h.1, fun k hk => ⟨?_, ?_⟩, fun k hk hkm => ?_⟩
  · rw [hat]
    by_cases e : k = m
    · exact ⟨_, if_pos e⟩
    · rw [if_neg e]; exact (h.2.1 k hk).1
  · rw [World.frozen?_setCell]; exact (h.2.1 k hk).2
  · by_cases e : k = m
    · subst e
      exact ⟨ao, c, by rw [hat, if_pos rfl], rdk _ _ hr hb, hb⟩
    · obtain ⟨a', c', h1, h2, h3⟩ := h.2.2 k hk (by omega)
      exact ⟨a', c', by rw [hat, if_neg e]; exact h1, rdk _ _ h2 h3, h3⟩
theorem Lie.stored {B : Nat} {w : World} {L S : Nat} {es : List Elem} (h : Lie B w L es) (hL : L < S) (hS : ∀ k (h : k < es.length) g, blk es[k].1 = some g → g < S) (m : Nat) (u : Value) : Lie B (w.setCell ⟨S, m, none⟩ u) L es := by
  have hoth : ∀ b, b ≠ S → (w.setCell ⟨S, m, none⟩ u).heap[b]? = w.heap[b]? := fun b hb => Below.heap_setCell _ _ _ b hb
  refine ⟨by rw [show (w.setCell ⟨S, m, none⟩ u).heap.size = w.heap.size by simp [World.setCell]]; exact h.1, fun k hk => ⟨?_, ?_⟩⟩
  · rw [World.cell?_of_block (w := w) (a := ⟨L, k, none⟩) (hoth L (by omega))]; exact (h.2 k hk).1
  · exact (h.2 k hk).2.keep fun g hg _ => hoth g (by have := hS k hk g hg; omega)
set_option maxRecDepth 100000 in
set_option maxHeartbeats 2000000 in
theorem apart_wide (B L N C : Nat) (es : List Elem) (w : World) (hN : es.length = N) (hNC : N ≤ C) (hNb : N ≤ 1000) (hB : B ≤ w.heap.size) (hBL : B ≤ L) (hlie : Lie B w L es) (hap : Apart L es) (hsm : ∀ k (h : k < es.length), es[k].2.2.length ≤ 140737488355328) :
    Calls Try.prog 14 #[.slice (some ⟨L, 0, none⟩) N C] w fun e w' => e = .returned (.bool true) ∧ Below B w w' := by
  have HN : Hid (es.length = N) := hN
  have HL : Hid (Lie B w L es) := hlie
  have HA : Hid (Apart L es) := hap
  have HS : Hid (∀ k (h : k < es.length), es[k].2.2.length ≤ 140737488355328) := hsm
  clear hN hlie hap hsm
  obtain ⟨i23, hi, hz0, hz1, hz2⟩ := info_parts Try.info27
  have HI : Hid (Try.prog.info? 27 = some i23 ∧ i23.zero = some (.slice none 0 0) ∧ i23.size = 1 ∧ i23.bytes = 24) := ⟨hi, hz0, hz1, hz2⟩
  clear hi hz0 hz1 hz2
  go_enter Try.func14, Try.ntmps14
  go_wp2_with fail
  go_loopw [3] (fun i wr => ∃ k : Nat, k ≤ N ∧ i = .int .i64 k ∧ Hid (Lie B wr L es) ∧ Below B w wr) (fun i _ => N - (intOf i).toNat)
  case atStart => exact ⟨0, by omega, rfl, HL, Below.refl _ _⟩
  case round =>
    obtain ⟨i, hi, rfl, HD, hbel⟩ := hrel
    by_cases hlt : i < N
    · have hlt' : (i : Int) < (N : Int) := by omega
      have hBr : B ≤ wr.heap.size := Nat.le_trans hB hbel.size
      go_wp2_with (at_make; refine wpList_make_full _ rfl _ _ _ rfl wr.heap.size 27 i23 (.slice none 0 0) 1 Try.underlying39 HI.out.1 HI.out.2.1 HI.out.2.2.1 _ _ _ _ N rfl rfl rfl rfl (by rw [HI.out.2.2.2]; omega) (by simp only [maxLen]; omega) (Nat.le_refl _) ?_; intro w1 hown hgr)
      have hbel1 : Below wr.heap.size wr w1 := ⟨hgr.os, hgr.tape, hgr.output, hgr.size, fun k hk => hgr.block k hk (by simp)⟩
      obtain ⟨S, hS⟩ : ∃ S, S = wr.heap.size := ⟨_, rfl⟩
      have HLS : Hid (∀ k (h : k < es.length) g, blk es[k].1 = some g → g < S) := fun k h g hg => by rw [hS]; exact ((HD.out.2 k h).2.lt g hg).2
      have hLS : L < S := by rw [hS]; exact HD.out.1
      have hBS : B ≤ S := by rw [hS]; exact hBr
      have HC0 : Hid (Copies S w1 es 0) := by rw [hS]; exact copies_zero es HN.out hown
      have HD1 : Hid (Lie B w1 L es) := HD.out.below hbel1
      have hb1 : Below B w w1 := hbel.trans (hbel1.mono hBr)
      rw [← hS]
      clear hown hgr hbel1 HD hbel hBr hS
      go_loopw [5] (fun x w2 => ∃ k : Nat, k ≤ N ∧ x = .int .i64 k ∧ Hid (Lie B w2 L es) ∧ Hid (Copies S w2 es k) ∧ Below B w w2) (fun x _ => N - (intOf x).toNat)
      case atStart => exact ⟨0, by omega, rfl, HD1, HC0, hb1⟩
      case round =>
        obtain ⟨k, hk, rfl, HD2, HC2, hb2⟩ := hrel
        clear HD1 HC0 hb1
        by_cases hkl : k < N
        · have hkl' : (k : Int) < (N : Int) := by omega
          have hke : k < es.length := by rw [HN.out]; exact hkl
          obtain ⟨ao, hao⟩ : ∃ ao, es[k].1 = ao := ⟨_, rfl⟩
          obtain ⟨n, hn⟩ : ∃ n, es[k].2.1 = n := ⟨_, rfl⟩
          obtain ⟨c, hc⟩ : ∃ c, es[k].2.2.length = c := ⟨_, rfl⟩
          have hcL := (HD2.out.2 k hke).1
          rw [hao, hn, hc] at hcL
          have hle := (HD2.out.2 k hke).2.le
          rw [hn, hc] at hle
          obtain ⟨hnc, hcm⟩ := hle
          unfold maxLen at hcm
          have HX : Hid (∀ W : World, Below B w W → Lie B W L es → Copies S W es k → Calls Try.prog 30 #[.slice ao c c] W fun e w' => ∃ a' c', e = .returned (.slice a' c c') ∧ w'.cell? ⟨L, k, none⟩ = some (.slice ao n c) ∧ (∃ u, w'.cell? ⟨S, k, none⟩ = some u) ∧ w'.frozen? ⟨S, k, none⟩ = false ∧ Hid (Below B w w' ∧ Lie B w' L es ∧ Copies S w' es k ∧ Rd w' a' es[k].2.2 ∧ ∀ b o, a' = some ⟨b, o, none⟩ → S < b)) := by
            intro W h0 h1 h2
            have hx := copy_any ao c es[k].2.2 W (by rw [← hao]; exact (h1.2 k hke).2.rd) (by rw [← hao, ← hc]; exact (h1.2 k hke).2.nil) (HS.out k hke)
            rw [hc] at hx
            refine hx.mono ?_
            rintro e w' ⟨v, ys, rfl, hO, hT, hbl⟩
            obtain ⟨a', rfl, hOA⟩ := hO.addr
            have l1 := h1.below hbl
            have c1 := h2.below hbl
            refine ⟨a', _, rfl, ?_, (c1.2.1 k hke).1, (c1.2.1 k hke).2, h0.trans (hbl.mono (Nat.le_trans hB h0.size)), l1, c1, ?_, ?_⟩
            · have := (l1.2 k hke).1
              rw [hao, hn, hc] at this
              exact this
            · have := hOA.rdTake c
              rw [hT] at this
              exact this
            · rintro b o rfl
              have := (hOA.lt b rfl).1
              have := h2.1
              omega
          clear hao hn
          have HC : Hid (es[k].2.2.length = c) := hc
          clear hc
          have hne : ¬ S = L := by omega
          go_wp2_with fail
          go_region_held3 (fun W => W.cell? ⟨L, k, none⟩ = some (.slice ao n c)) (go_keep) (first
            | (go_at_call 30; refine (HX.out _ ?_ ?_ ?_).mono ?_; exact hb2.drew; exact HD2.out.below (Below.refl _ _).drew; exact HC2.out.below (Below.refl _ _).drew; rintro e w3 ⟨a', c', rfl, hcl, ⟨u, hcu⟩, hfr, HH⟩))
          obtain ⟨q1, q2, q3, q4, q5⟩ := HH.out
          have hst : Copies S (w3.setCell ⟨S, k, none⟩ (.slice a' c c')) es (k + 1) := by
            have := q3.stored hke a' c' q4 q5
            rw [HC.out] at this
            exact this
          have hli : Lie B (w3.setCell ⟨S, k, none⟩ (.slice a' c c')) L es := q2.stored hLS HLS.out k _
          have hbb : Below B w (w3.setCell ⟨S, k, none⟩ (.slice a' c c')) := q1.setCell hBS _
          clear q1 q2 q3 q4 q5 hcl hcu hfr
          go_wp2
          exact ⟨⟨k + 1, by omega, by go_num, hli, hst, hbb⟩, by simp [intOf]; omega⟩
        · have HC3 : Hid (Copies S wr es N) := by
            have e : k = N := by omega
            rw [← e]; exact HC2
          clear HC2
          have hie : i < es.length := by rw [HN.out]; exact hlt
          obtain ⟨ao, hao⟩ : ∃ ao, es[i].1 = ao := ⟨_, rfl⟩
          obtain ⟨n, hn⟩ : ∃ n, es[i].2.1 = n := ⟨_, rfl⟩
          obtain ⟨c, hc⟩ : ∃ c, es[i].2.2.length = c := ⟨_, rfl⟩
          have hcL := (HD2.out.2 i hie).1
          rw [hao, hn, hc] at hcL
          have HO : Hid (OwnA B wr ao n es[i].2.2) := by
            have := (HD2.out.2 i hie).2
            rw [hao, hn] at this; exact this
          have HV : Hid (es[i].1 = ao ∧ es[i].2.1 = n ∧ es[i].2.2.length = c) := ⟨hao, hn, hc⟩
          clear hao hn hc
          have HY : Hid (∀ (W : World) (zs : List Int), OwnA B W ao n zs → zs.length = c → Calls Try.prog 15 #[.slice ao n c] W fun e w' => e = .returned (.tuple #[]) ∧ Hid (OwnA B w' ao n (zs.map x90) ∧ W.grownBy w' (blk ao) ∧ w'.heap.size = W.heap.size)) := by
            intro W zs h1 h2
            have := over_any B ao n zs W h1
            rw [h2] at this
            exact this
          go_wp2_with fail
          refine (HY.out _ _ HO.out HV.out.2.2).mono ?_
          rintro e w4 ⟨rfl, HW⟩
          obtain ⟨q1, q2, q3⟩ := HW.out
          obtain ⟨v1, v2, v3⟩ := HV.out
          obtain ⟨es', hes'⟩ : ∃ es', es' = es.set i (es[i].1, es[i].2.1, es[i].2.2.map x90) := ⟨_, rfl⟩
          have HD4 : Hid (Lie B w4 L es') := by
            rw [hes']
            exact HD2.out.wrote HA.out i hie _ (by simp) (by rw [v1]; exact q2) q3 (by rw [v1, v2]; exact q1)
          have hrow : ∀ g, blk ao = some g → g < S ∧ B ≤ g := by
            intro g hg
            rw [← v1] at hg
            exact ⟨HLS.out i hie g hg, ((HD2.out.2 i hie).2.lt g hg).1⟩
          have HC4 : Hid (Copies S w4 es N) := HC3.out.wrote q2 (fun g hg => (hrow g hg).1)
          have hb4 : Below B w w4 := hb2.grown q2 (Nat.le_trans hB hb2.size) (fun g hg => (hrow g hg).2)
          have HE : Hid (es' = es.set i (es[i].1, es[i].2.1, es[i].2.2.map x90)) := hes'
          have HRW : Hid (∀ g, blk ao = some g → g < S ∧ B ≤ g) := hrow
          clear q1 q2 q3 v1 v2 v3 hes' hrow HD2 HC3 hb2 HO hcL HW
          go_wp2_with fail
          go_loopw [2, 6] (fun _ x w5 => ∃ k : Nat, k ≤ N ∧ x = .int .i64 k ∧ Hid (Lie B w5 L es') ∧ Hid (Copies S w5 es N) ∧ Below B w w5) (fun _ x _ => N - (intOf x).toNat)
          case atStart => exact ⟨0, by omega, rfl, HD4, HC4, hb4⟩
          case round =>
            obtain ⟨m, hm, rfl, HD5, HC5, hb5⟩ := hrel
            clear HD4 HC4 hb4
            by_cases hml : m < N
            · have hml' : (m : Int) < (N : Int) := by omega
              have hme : m < es.length := by rw [HN.out]; exact hml
              by_cases hmi : m = i
              · have hg1 : ((m : Int) != (i : Int)) = false := by simp [hmi]
                clear hmi
                go_wp2_with fail
                go_quiet (fail)
                have hdn : Below wr.heap.size wr (wr.drewN nq) := ⟨rfl, rfl, rfl, Nat.le_refl _, fun _ _ => rfl⟩
                have hli := HD5.out.below hdn
                have hco := HC5.out.below hdn
                have hbb := hb5.trans (hdn.mono (Nat.le_trans hB hb5.size))
                clear hdn
                go_wp2
                exact ⟨⟨m + 1, by omega, by go_num, hli, hco, hbb⟩, by simp [intOf]; omega⟩
              · have hg1 : ((m : Int) != (i : Int)) = true := by simp; omega
                have hm' : m < es'.length := by rw [HE.out]; simpa using hme
                have hsame : es'[m] = es[m] := by
                  have e := HE.out
                  subst e
                  exact List.getElem_set_ne (fun e => hmi e.symm) _
                obtain ⟨am, ham⟩ : ∃ x, es[m].1 = x := ⟨_, rfl⟩
                obtain ⟨nm, hnm⟩ : ∃ x, es[m].2.1 = x := ⟨_, rfl⟩
                obtain ⟨cm, hcm⟩ : ∃ x, es[m].2.2.length = x := ⟨_, rfl⟩
                have hL5 := HD5.out.2 m hm'
                rw [hsame] at hL5
                obtain ⟨hcl, ho5⟩ := hL5
                obtain ⟨a', c', hcs, hrd, _⟩ := HC5.out.2.2 m hme hml
                rw [ham, hnm, hcm] at hcl
                rw [hcm] at hcs
                have hle := ho5.le
                rw [hnm, hcm] at hle
                obtain ⟨hnc, hcmx⟩ := hle
                unfold maxLen at hcmx
                have hrd1 := ho5.rd
                rw [ham] at hrd1
                have HZ : Hid (∀ W : World, Below wr.heap.size wr W → Calls Try.prog 13 #[.slice am cm cm, .slice a' cm c'] W fun e w' => e = .returned (.bool true) ∧ w' = W) := by
                  intro W hW
                  exact same_yes am a' cm cm c' _ W (hrd1.below hW) (hrd.below hW) hcm
                clear hsame ham hnm hcm ho5 hrd hrd1 hmi hm'
                go_wp2_with fail
                go_region_held3 (fun W => W.cell? ⟨L, m, none⟩ = some (.slice am nm cm) ∧ W.cell? ⟨S, m, none⟩ = some (.slice a' cm c')) (go_keep) (first
                  | (go_at_call 13; refine (HZ.out _ ?_).mono ?_; exact (Below.refl _ _).drew; rintro e w6 ⟨rfl, rfl⟩))
                have hdn : Below wr.heap.size wr wr.drew := (Below.refl _ _).drew
                have hli := HD5.out.below hdn
                have hco := HC5.out.below hdn
                have hbb := hb5.trans (hdn.mono (Nat.le_trans hB hb5.size))
                clear hdn hcl hcs
                go_wp2
                exact ⟨⟨m + 1, by omega, by go_num, hli, hco, hbb⟩, by simp [intOf]; omega⟩
            · have HO : Hid (OwnA B wr ao n (es[i].2.2.map x90)) := by
                have e := HE.out
                subst e
                have := (HD5.out.2 i (by simpa using hie)).2
                rw [List.getElem_set_self] at this
                rw [HV.out.1, HV.out.2.1] at this
                exact this
              have hcL : wr.cell? ⟨L, i, none⟩ = some (.slice ao n c) := by
                have e := HE.out
                subst e
                have := (HD5.out.2 i (by simpa using hie)).1
                rw [List.getElem_set_self] at this
                simp only [List.length_map] at this
                rw [HV.out.1, HV.out.2.1, HV.out.2.2] at this
                exact this
              go_wp2_with fail
              refine (HY.out _ _ HO.out (by rw [List.length_map]; exact HV.out.2.2)).mono ?_
              rintro e w7 ⟨rfl, HW⟩
              obtain ⟨q1, q2, q3⟩ := HW.out
              obtain ⟨v1, v2, v3⟩ := HV.out
              have hli : Lie B w7 L es := by
                have e := HE.out
                have hes : es = es'.set i (es[i].1, es[i].2.1, (es[i].2.2.map x90).map x90) := by
                  rw [e, List.set_set, map_x90_x90 _ (HL.out.2 i hie).2.rd.2]
                  exact (List.set_getElem_self hie).symm
                have hi' : i < es'.length := by rw [e]; simpa using hie
                have e1 : es'[i] = (es[i].1, es[i].2.1, es[i].2.2.map x90) := by subst e; exact List.getElem_set_self _
                have hw := HD5.out.wrote (by rw [e]; exact HA.out.set i hie _) i hi' ((es[i].2.2.map x90).map x90) (by rw [e1]; simp) (by rw [e1]; show World.grownBy _ _ (blk es[i].1); rw [v1]; exact q2) q3 (by rw [e1]; show OwnA B w7 es[i].1 es[i].2.1 _; rw [v1, v2]; exact q1)
                rw [e1] at hw
                rw [hes]
                exact hw
              have hbb : Below B w w7 := hb5.grown q2 (Nat.le_trans hB hb5.size) (fun g hg => (HRW.out g hg).2)
              clear q1 q2 q3 v1 v2 v3 hcL
              go_wp2
              exact ⟨⟨i + 1, by omega, by go_num, hli, hbb⟩, by simp [intOf]; omega⟩
    · obtain rfl : i = N := by omega
      go_wp2
      go_ret
      exact ⟨rfl, hbel⟩
end Go.Proofs.Ytfnpiknobmecbaa
