/- What the statements' helpers do with lists of bytes. -/
import Derived.Test.YtmlccnpondemiaaStr
import Derived.Deep.QuietTactic
import Derived.BigQuiet
import Derived.Deep.RegionHeld3
import Derived.WalkSpells
namespace Go.Proofs.Ytmlccnpondemiaa
open Go.ChangeShapes Go.WideShapes Go.ChangeAt Go.RowKit
set_option linter.unusedVariables false
set_option linter.unusedSimpArgs false
















set_option maxRecDepth 100000 in
set_option maxHeartbeats 400000 in
theorem same_yes (a b : Option Addr) (n c d : Nat) (zs : List Int) (w : World) (hr : Rd w a zs) (hr' : Rd w b zs) (hl : zs.length = n) :
    Calls Try.prog 12 #[.slice a n c, .slice b n d] w fun e w' => e = .returned (.bool true) ∧ w' = w := by
  have h1 := conv_rd a n c zs w hr hl
  have h2 := conv_rd b n d zs w hr' hl
  clear hr hr'
  generalize txt zs = t at *
  go_enter Try.func12, Try.ntmps12
  go_wp2
  go_ret
  exact ⟨rfl, rfl⟩
/-- The marks behind a list that is lent. -/
def marks (n : Nat) : List Int := [160 + (n : Int) % 90, 160 + ((n : Int) + 1) % 90, 160 + ((n : Int) + 2) % 90]
def lent (zs : List Int) (k : Nat) : List Int := zs ++ (marks zs.length).take k ++ List.replicate (3 - k) 0
theorem lent_len (zs : List Int) (k : Nat) (h : k ≤ 3) : (lent zs k).length = zs.length + 3 := by
  simp [lent, marks]; omega
theorem lent_step (zs : List Int) (k : Nat) (h : k < 3) : (lent zs k).set (zs.length + k) (160 + ((zs.length : Int) + k) % 90) = lent zs (k + 1) := by
  have : k = 0 ∨ k = 1 ∨ k = 2 := by omega
  rcases this with rfl | rfl | rfl <;> simp [lent, marks, List.replicate]
theorem lent_zero (zs : List Int) : lent zs 0 = zs ++ [0, 0, 0] := by simp [lent, List.replicate]
theorem lent_take (zs : List Int) (k : Nat) : (lent zs k).take zs.length = zs := by simp [lent]
/-- A new list of bytes out of 'append([]byte{}, b...)'. -/
theorem empty_own (w : World) : Own w.heap.size (w.alloc (.cells #[] 5)) (.slice (some ⟨w.heap.size, 0, none⟩) 0 0) 0 [] :=
  .inr ⟨w.heap.size, rfl, Nat.le_refl _, ⟨by rw [heap_alloc_new]; rfl, by simp⟩, Nat.le_refl _, Nat.zero_le _⟩
set_option maxRecDepth 100000 in
set_option maxHeartbeats 800000 in
theorem copy_any (a : Option Addr) (cap : Nat) (zs : List Int) (w : World) (hr : Rd w a zs) (hd : a = none → cap = 0) (hm : zs.length ≤ 140737488355328) :
    Calls Try.prog 28 #[.slice a zs.length cap] w fun e w' => ∃ v ys, e = .returned v ∧ Own w.heap.size w' v zs.length ys ∧ ys.take zs.length = zs ∧ Below w.heap.size w w' := by
  have HR : Hid (Rd w a zs) := hr
  have HD : Hid (a = none → cap = 0) := hd
  clear hr hd
  obtain ⟨len, hlen⟩ : ∃ len, len = zs.length := ⟨_, rfl⟩
  rw [← hlen] at hm ⊢
  have HL : Hid (len = zs.length) := hlen
  clear hlen
  have hb1 : Below w.heap.size w (w.alloc (.cells #[] 5)) := (Below.refl _ _).alloc (Nat.le_refl _) _
  go_enter Try.func28, Try.ntmps28
  go_wp2_with (at_builtin; refine wpList_append_blk _ rfl _ _ rfl w.heap.size _ 0 [] rfl (empty_own w) a len cap zs rfl (HR.out.below hb1) HL.out.symm HD.out (by omega) (by simp) ?_; intro v' w' zs' hO hT hG)
  go_ret
  refine ⟨v', zs', rfl, ?_, ?_, ?_⟩
  · have h := hO.out
    rw [Nat.zero_add] at h
    exact h
  · have h := hT.out
    rw [Nat.zero_add] at h
    simpa using h
  · refine hb1.grown hG (by simp) ?_
    intro k hk
    have e : w.heap.size = k := Option.some.inj hk
    omega
/-- What writing over a byte makes of it. -/
def x90 (z : Int) : Int := bits .xor .u8 z 90
theorem x90_eq (z : Int) (h : 0 ≤ z ∧ z ≤ 255) : x90 z = ((z.toNat ^^^ 90 : Nat) : Int) := u8_xor z 90 h.1 (by omega) (by omega) (by omega)
theorem x90_bd (z : Int) (h : 0 ≤ z ∧ z ≤ 255) : 0 ≤ x90 z ∧ x90 z ≤ 255 := by
  rw [x90_eq z h]
  have : z.toNat ^^^ 90 < 2 ^ 8 := Nat.xor_lt_two_pow (by omega) (by omega)
  omega
theorem x90_x90 (z : Int) (h : 0 ≤ z ∧ z ≤ 255) : x90 (x90 z) = z := by
  rw [x90_eq _ (x90_bd z h), x90_eq z h]
  simp [Nat.xor_assoc]
  omega
def over (zs : List Int) (k : Nat) : List Int := (zs.take k).map x90 ++ zs.drop k
theorem over_len (zs : List Int) (k : Nat) : (over zs k).length = zs.length := by simp [over]; omega
theorem over_at (zs : List Int) (k : Nat) (h : k < zs.length) : (over zs k).getD k 0 = zs.getD k 0 := by
  simp [over, List.getD_eq_getElem?_getD, List.getElem?_append, Nat.min_eq_left (Nat.le_of_lt h)]
theorem over_step (zs : List Int) (k : Nat) (h : k < zs.length) : (over zs k).set k (x90 (zs.getD k 0)) = over zs (k + 1) := by
  have e : zs.drop k = zs.getD k 0 :: zs.drop (k + 1) := by
    rw [List.drop_eq_getElem_cons h]; simp [List.getD_eq_getElem?_getD, h]
  have l : ((zs.take k).map x90).length = k := by simp; omega
  unfold over
  rw [e, List.set_append_right _ _ (by omega), l, Nat.sub_self, List.set_cons_zero, take_snoc zs k h]
  simp
theorem over_all (zs : List Int) : over zs zs.length = zs.map x90 := by simp [over]
theorem over_zero (zs : List Int) : over zs 0 = zs := by simp [over]
set_option maxRecDepth 100000 in
set_option maxHeartbeats 800000 in
theorem over_blk (g n : Nat) (zs : List Int) (w : World) (hb : Blk w g zs) (hn : n ≤ zs.length) (hm : zs.length ≤ maxLen) :
    Calls Try.prog 29 #[.slice (some ⟨g, 0, none⟩) n zs.length] w fun e w' => e = .returned (.tuple #[]) ∧ Blk w' g (zs.map x90) ∧ w.grownBy w' (some g) ∧ w'.heap.size = w.heap.size := by
  have HB : Hid (Blk w g zs) := hb
  clear hb
  obtain ⟨len, hlen⟩ : ∃ len, len = zs.length := ⟨_, rfl⟩
  rw [← hlen] at hn hm ⊢
  have HL : Hid (len = zs.length) := hlen
  clear hlen
  unfold maxLen at hm
  go_enter Try.func29, Try.ntmps29
  go_wp2
  go_loopw [3] (fun i wr => ∃ k : Nat, k ≤ len ∧ i = .int .i64 k ∧ Hid (Blk wr g (over zs k)) ∧ w.grownBy wr (some g) ∧ wr.heap.size = w.heap.size) (fun i _ => len - (intOf i).toNat)
  case atStart => exact ⟨0, by omega, rfl, by rw [over_zero]; exact HB, World.grownBy.refl _ _, rfl⟩
  case round =>
    obtain ⟨k, hk, rfl, hB, hG, hz⟩ := hrel
    by_cases hlt : k < len
    · have hc := hB.out.cell k (by rw [over_len, ← HL.out]; omega)
      rw [over_at _ _ (by rw [← HL.out]; omega)] at hc
      have hf := hB.out.frozen k
      have h1 : (k : Int) < (len : Int) := by omega
      go_wp2
      have hzb : 0 ≤ zs.getD k 0 ∧ zs.getD k 0 ≤ 255 := by
        rcases Nat.lt_or_ge k zs.length with h | h
        · have := HB.out.2 (zs[k]) (List.getElem_mem h)
          simpa [List.getD_eq_getElem?_getD, h] using this
        · have := HL.out; omega
      have hst := hB.out.stored k (x90 (zs.getD k 0)) (x90_bd _ hzb)
      rw [over_step _ _ (by rw [← HL.out]; omega)] at hst
      refine ⟨⟨k + 1, by omega, by go_num, ?_, ?_, ?_⟩, by simp [intOf]; omega⟩
      · rw [← List.getD_eq_getElem?_getD]; exact hst
      · exact ⟨hG.os, hG.tape, hG.output, by rw [← hz]; simp [World.setCell], fun j hj hne => (Below.heap_setCell _ _ _ j (fun e => hne (by rw [e]))).trans (hG.block j hj hne)⟩
      · rw [← hz]; simp [World.setCell]
    · obtain rfl : k = len := by omega
      go_wp2
      go_end0
      have h := hB.out
      rw [HL.out, over_all] at h
      exact ⟨rfl, h, hG, hz⟩
theorem over_nil (w : World) :
    Calls Try.prog 29 #[.slice none 0 0] w fun e w' => e = .returned (.tuple #[]) ∧ w' = w := by
  go_enter Try.func29, Try.ntmps29
  go_wp2
  go_loop [3] (fun i => i = .int .i64 0) (fun _ => 0)
  case atStart => rfl
  case round =>
    subst hrel
    go_wp2
    go_end0
    exact ⟨rfl, rfl⟩
theorem over_any (B : Nat) (ao : Option Addr) (n : Nat) (zs : List Int) (w : World) (h : OwnA B w ao n zs) :
    Calls Try.prog 29 #[.slice ao n zs.length] w fun e w' => e = .returned (.tuple #[]) ∧ OwnA B w' ao n (zs.map x90) ∧ w.grownBy w' (blk ao) ∧ w'.heap.size = w.heap.size := by
  rcases h with ⟨rfl, rfl, rfl⟩ | ⟨g, rfl, hB, hb, hn, hm⟩
  · refine (over_nil w).mono ?_
    rintro e w' ⟨rfl, rfl⟩
    exact ⟨rfl, .inl ⟨rfl, rfl, rfl⟩, World.grownBy.refl _ _, rfl⟩
  · refine (over_blk g n zs w hb hn hm).mono ?_
    rintro e w' ⟨rfl, h1, h2, h3⟩
    exact ⟨rfl, .inr ⟨g, rfl, hB, h1, by simpa using hn, by simpa using hm⟩, h2, h3⟩
theorem map_x90_x90 (zs : List Int) (h : ∀ z ∈ zs, 0 ≤ z ∧ z ≤ 255) : (zs.map x90).map x90 = zs := by
  rw [List.map_map]
  conv => rhs; rw [← List.map_id zs]
  exact List.map_congr_left fun z hz => x90_x90 z (h z hz)
/-- A list's address, its length, what its block holds. -/
abbrev Elem := Option Addr × Nat × List Int
/-- The lists lie one behind the other in the block L, each in a block of its own from B on. -/
def Lie (B : Nat) (w : World) (L : Nat) (es : List Elem) : Prop :=
  L < w.heap.size ∧ ∀ k (h : k < es.length), w.cell? ⟨L, k, none⟩ = some (.slice es[k].1 es[k].2.1 es[k].2.2.length) ∧ OwnA B w es[k].1 es[k].2.1 es[k].2.2
/-- No two of them share a block, and none lies in the block L. -/
def Apart (L : Nat) (es : List Elem) : Prop :=
  (∀ k (h : k < es.length), blk es[k].1 ≠ some L) ∧ ∀ j k (hj : j < es.length) (hk : k < es.length), j ≠ k → ∀ g, blk es[j].1 = some g → blk es[k].1 ≠ some g
theorem Lie.below {B : Nat} {w w' : World} {L : Nat} {es : List Elem} (h : Lie B w L es) (hb : Below w.heap.size w w') : Lie B w' L es :=
  ⟨Nat.lt_of_lt_of_le h.1 hb.size, fun k hk => ⟨(hb.cell (p := ⟨L, k, none⟩) h.1).trans (h.2 k hk).1, (h.2 k hk).2.below hb⟩⟩
/-- One of them was written over. -/
theorem Lie.wrote {B : Nat} {w w' : World} {L : Nat} {es : List Elem} (h : Lie B w L es) (ha : Apart L es) (i : Nat) (hi : i < es.length) (zs : List Int) (hl : zs.length = es[i].2.2.length)
    (hg : w.grownBy w' (blk es[i].1)) (hs : w'.heap.size = w.heap.size) (ho : OwnA B w' es[i].1 es[i].2.1 zs) : Lie B w' L (es.set i (es[i].1, es[i].2.1, zs)) := by
  refine ⟨by rw [hs]; exact h.1, fun k hk => ?_⟩
  have hk' : k < es.length := by simpa using hk
  have hcell : w'.cell? ⟨L, k, none⟩ = w.cell? ⟨L, k, none⟩ := World.cell?_of_block (w := w) (hg.block L h.1 (fun e => (ha.1 i hi) e.symm))
  by_cases e : i = k
  · subst e
    rw [List.getElem_set_self, hcell, (h.2 i hi).1]
    exact ⟨by simp [hl], ho⟩
  · rw [List.getElem_set_ne e, hcell]
    refine ⟨(h.2 k hk').1, (h.2 k hk').2.keep fun g hg' hgl => ?_⟩
    exact hg.block g hgl (fun e' => (ha.2 i k hi hk' e g e'.symm) hg')
theorem Apart.set {L : Nat} {es : List Elem} (ha : Apart L es) (i : Nat) (hi : i < es.length) (zs : List Int) : Apart L (es.set i (es[i].1, es[i].2.1, zs)) := by
  have key : ∀ k (h : k < (es.set i (es[i].1, es[i].2.1, zs)).length), (es.set i (es[i].1, es[i].2.1, zs))[k].1 = (es[k]'(by simpa using h)).1 := by
    intro k h
    by_cases e : i = k
    · subst e; simp
    · rw [List.getElem_set_ne e]
  refine ⟨fun k hk => by rw [key]; exact ha.1 k (by simpa using hk), fun j k hj hk hne g => ?_⟩
  rw [key, key]; exact ha.2 j k (by simpa using hj) (by simpa using hk) hne g
/-- Copies of the lists' whole blocks, the first m of them, in blocks from S + 1 on, one behind the other in the block S. -/
def Copies (S : Nat) (w : World) (es : List Elem) (m : Nat) : Prop :=
  S < w.heap.size ∧ (∀ k, k < es.length → (∃ u, w.cell? ⟨S, k, none⟩ = some u) ∧ w.frozen? ⟨S, k, none⟩ = false) ∧
  ∀ k (h : k < es.length), k < m → ∃ ao c, w.cell? ⟨S, k, none⟩ = some (.slice ao es[k].2.2.length c) ∧ Rd w ao es[k].2.2 ∧ ∀ b o, ao = some ⟨b, o, none⟩ → S < b
theorem Copies.below {S : Nat} {w w' : World} {es : List Elem} {m : Nat} (h : Copies S w es m) (hb : Below w.heap.size w w') : Copies S w' es m := by
  refine ⟨Nat.lt_of_lt_of_le h.1 hb.size, fun k hk => ?_, fun k hk hm => ?_⟩
  · rw [hb.cell (p := ⟨S, k, none⟩) h.1, hb.frozen (p := ⟨S, k, none⟩) h.1]; exact h.2.1 k hk
  · obtain ⟨ao, c, h1, h2, h3⟩ := h.2.2 k hk hm
    exact ⟨ao, c, (hb.cell (p := ⟨S, k, none⟩) h.1).trans h1, h2.below hb, h3⟩
/-- A block below S is written: the copies stay. -/
theorem Copies.wrote {S : Nat} {w w' : World} {es : List Elem} {m : Nat} (h : Copies S w es m) {row : Option Nat} (hg : w.grownBy w' row) (hr : ∀ g, row = some g → g < S) : Copies S w' es m := by
  have hS : w'.heap[S]? = w.heap[S]? := hg.block S h.1 (fun e => by have := hr S e.symm; omega)
  refine ⟨Nat.lt_of_lt_of_le h.1 hg.size, fun k hk => ?_, fun k hk hm => ?_⟩
  · rw [World.cell?_of_block (w := w) (a := ⟨S, k, none⟩) hS, World.frozen?_of_block (w := w) (a := ⟨S, k, none⟩) hS]; exact h.2.1 k hk
  · obtain ⟨ao, c, h1, h2, h3⟩ := h.2.2 k hk hm
    refine ⟨ao, c, (World.cell?_of_block (w := w) (a := ⟨S, k, none⟩) hS).trans h1, ?_, h3⟩
    refine ⟨?_, h2.2⟩
    rcases h2.1 with e | ⟨b, o, rfl, e1, e2⟩
    · exact .inl e
    · refine .inr ⟨b, o, rfl, Nat.lt_of_lt_of_le e1 hg.size, fun i hi => ?_⟩
      rw [← e2 i hi]
      refine World.cell?_of_block (w := w) (a := ⟨b, o + i, none⟩) (hg.block b e1 (fun e => ?_))
      have := hr b e.symm
      have := h3 b o rfl
      omega
theorem Apart.of {L : Nat} {es : List Elem} (h1 : ∀ e ∈ es, blk e.1 ≠ some L) (h2 : es.Pairwise fun e f => ∀ g, blk e.1 = some g → blk f.1 ≠ some g) : Apart L es := by
  refine ⟨fun k hk => h1 _ (List.getElem_mem hk), fun j k hj hk hne g h3 h4 => ?_⟩
  rcases Nat.lt_or_gt_of_ne hne with h | h
  · exact List.pairwise_iff_getElem.1 h2 j k hj hk h g h3 h4
  · exact List.pairwise_iff_getElem.1 h2 k j hk hj h g h4 h3
/-- Two lists, the second made when the first was there, share no block. -/
theorem OwnA.apart {B B' : Nat} {w w' : World} {ao bo : Option Addr} {n m : Nat} {zs ys : List Int} (h1 : OwnA B w ao n zs) (h2 : OwnA B' w' bo m ys) (hw : w.heap.size ≤ B') : ∀ g, blk ao = some g → blk bo ≠ some g := by
  intro g e1 e2
  have := (h1.lt g e1).2
  have := (h2.lt g e2).1
  omega
theorem Lie.of {B L : Nat} {w : World} {es : List Elem} (hL : L < w.heap.size) (hc : ∀ k (h : k < es.length), w.cell? ⟨L, k, none⟩ = some (.slice es[k].1 es[k].2.1 es[k].2.2.length)) (ho : ∀ e ∈ es, OwnA B w e.1 e.2.1 e.2.2) : Lie B w L es :=
  ⟨hL, fun k hk => ⟨hc k hk, ho _ (List.getElem_mem hk)⟩⟩
theorem Try.info30 : (Try.prog.info? 30).map (fun i => (i.zero, i.size, i.bytes)) = some (some (.slice none 0 0), 1, 24) := by kernel_rfl
theorem copies_zero {B : Nat} {w : World} {S n : Nat} {xs : List Value} (es : List Elem) (hn : es.length = n) (h : w.ownsRow B 30 1 (.slice (some ⟨S, 0, none⟩) n n) n xs) : Copies S w es 0 := by
  rcases h.2 with ⟨e, _⟩ | ⟨g, cap, cur, e, _, hg, hc, _, hs, _⟩
  · cases e
  · have e1 : S = g := by injection e with e1 _ _; injection e1 with e1; injection e1
    have e2 : n = cap := by injection e
    subst e1; subst e2
    have hlt : S < w.heap.size := (Array.getElem?_eq_some_iff.1 hg).1
    refine ⟨hlt, fun k hk => ⟨?_, ?_⟩, fun k _ hk => absurd hk (by omega)⟩
    · refine ⟨cur[k]'(by omega), ?_⟩
      have hk' : k < cur.size := by omega
      simp [World.cell?, hg, hk']
    · simp [World.frozen?, hg]
theorem Copies.stored {S : Nat} {w : World} {es : List Elem} {m : Nat} (h : Copies S w es m) (hm : m < es.length) (ao : Option Addr) (c : Nat) (hr : Rd w ao es[m].2.2) (hb : ∀ b o, ao = some ⟨b, o, none⟩ → S < b) :
    Copies S (w.setCell ⟨S, m, none⟩ (.slice ao es[m].2.2.length c)) es (m + 1) := by
  have hsz : (w.setCell ⟨S, m, none⟩ (.slice ao es[m].2.2.length c)).heap.size = w.heap.size := by simp [World.setCell]
  have hoth : ∀ b, S < b → (w.setCell ⟨S, m, none⟩ (.slice ao es[m].2.2.length c)).heap[b]? = w.heap[b]? := fun b hb => Below.heap_setCell _ _ _ b (by show b ≠ S; omega)
  have rdk : ∀ (a' : Option Addr) (zs : List Int), Rd w a' zs → (∀ b o, a' = some ⟨b, o, none⟩ → S < b) → Rd (w.setCell ⟨S, m, none⟩ (.slice ao es[m].2.2.length c)) a' zs :=
    fun a' zs h1 h2 => h1.of_blocks (by rw [hsz]; exact Nat.le_refl _) fun b o e => hoth b (h2 b o e)
  obtain ⟨⟨u, hu⟩, hf⟩ := h.2.1 m hm
  have hat : ∀ k, (w.setCell ⟨S, m, none⟩ (.slice ao es[m].2.2.length c)).cell? ⟨S, k, none⟩ = if k = m then some (.slice ao es[m].2.2.length c) else w.cell? ⟨S, k, none⟩ := by
    intro k
    by_cases e : k = m
    · subst e; rw [if_pos rfl]; exact World.cell?_setCell_same _ _ _ hu
    · rw [if_neg e]; exact World.cell?_setCell_other _ _ _ _ (by intro e'; injection e' with _ e' _; exact e e'.symm)
  refine ⟨by rw [hsz]; exact h.1, fun k hk => ⟨?_, ?_⟩, fun k hk hkm => ?_⟩
  · rw [hat]
    by_cases e : k = m
    · exact ⟨_, if_pos e⟩
    · rw [if_neg e]; exact (h.2.1 k hk).1
  · rw [World.frozen?_setCell]; exact (h.2.1 k hk).2
  · by_cases e : k = m
    · subst e
      exact ⟨ao, c, by rw [hat, if_pos rfl], rdk _ _ hr hb, hb⟩
    · obtain ⟨a', c', h1, h2, h3⟩ := h.2.2 k hk (by omega)
      exact ⟨a', c', by rw [hat, if_neg e]; exact h1, rdk _ _ h2 h3, h3⟩
theorem Lie.stored {B : Nat} {w : World} {L S : Nat} {es : List Elem} (h : Lie B w L es) (hL : L < S) (hS : ∀ k (h : k < es.length) g, blk es[k].1 = some g → g < S) (m : Nat) (u : Value) : Lie B (w.setCell ⟨S, m, none⟩ u) L es := by
  have hoth : ∀ b, b ≠ S → (w.setCell ⟨S, m, none⟩ u).heap[b]? = w.heap[b]? := fun b hb => Below.heap_setCell _ _ _ b hb
  refine ⟨by rw [show (w.setCell ⟨S, m, none⟩ u).heap.size = w.heap.size by simp [World.setCell]]; exact h.1, fun k hk => ⟨?_, ?_⟩⟩
  · rw [World.cell?_of_block (w := w) (a := ⟨L, k, none⟩) (hoth L (by omega))]; exact (h.2 k hk).1
  · exact (h.2 k hk).2.keep fun g hg _ => hoth g (by have := hS k hk g hg; omega)
end Go.Proofs.Ytmlccnpondemiaa
