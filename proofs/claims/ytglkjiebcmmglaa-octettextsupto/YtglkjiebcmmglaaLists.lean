/- Several lists of bytes, each in a block of its own: what stays of them. -/
import Derived.Test.YtglkjiebcmmglaaLent
namespace Go.Proofs.Ytglkjiebcmmglaa
open Go.ChangeShapes Go.WideShapes Go.ChangeAt Go.RowKit
set_option linter.unusedVariables false
set_option linter.unusedSimpArgs false

/-- A list of bytes at an address of its own. -/
def OwnA (B : Nat) (w : World) (ao : Option Addr) (n : Nat) (zs : List Int) : Prop :=
  (ao = none ∧ n = 0 ∧ zs = []) ∨ ∃ g, ao = some ⟨g, 0, none⟩ ∧ B ≤ g ∧ Blk w g zs ∧ n ≤ zs.length ∧ zs.length ≤ maxLen
/-- The block of an address. -/
def blk (ao : Option Addr) : Option Nat := ao.map (·.block)

theorem Own.addr {B : Nat} {w : World} {v : Value} {n : Nat} {zs : List Int} (h : Own B w v n zs) : ∃ ao, v = .slice ao n zs.length ∧ OwnA B w ao n zs := by
  rcases h with ⟨rfl, rfl, rfl⟩ | ⟨g, rfl, hB, hb, hn, hm⟩
  · exact ⟨none, rfl, .inl ⟨rfl, rfl, rfl⟩⟩
  · exact ⟨some ⟨g, 0, none⟩, rfl, .inr ⟨g, rfl, hB, hb, hn, hm⟩⟩
theorem OwnA.mono {B B' : Nat} {w : World} {ao : Option Addr} {n : Nat} {zs : List Int} (h : OwnA B w ao n zs) (hB : B' ≤ B) : OwnA B' w ao n zs := by
  rcases h with h | ⟨g, h1, h2, h3⟩
  · exact .inl h
  · exact .inr ⟨g, h1, Nat.le_trans hB h2, h3⟩
theorem OwnA.keep {B : Nat} {w w' : World} {ao : Option Addr} {n : Nat} {zs : List Int} (h : OwnA B w ao n zs) (hb : ∀ g, blk ao = some g → g < w.heap.size → w'.heap[g]? = w.heap[g]?) : OwnA B w' ao n zs := by
  rcases h with h | ⟨g, rfl, h2, h3, h4⟩
  · exact .inl h
  · exact .inr ⟨g, rfl, h2, h3.same (hb g rfl h3.lt), h4⟩
theorem OwnA.below {B : Nat} {w w' : World} {ao : Option Addr} {n : Nat} {zs : List Int} (h : OwnA B w ao n zs) (hb : Below w.heap.size w w') : OwnA B w' ao n zs :=
  h.keep fun g _ hg => hb.block g hg
theorem OwnA.lt {B : Nat} {w : World} {ao : Option Addr} {n : Nat} {zs : List Int} (h : OwnA B w ao n zs) : ∀ g, blk ao = some g → B ≤ g ∧ g < w.heap.size := by
  intro g hg
  rcases h with ⟨rfl, _⟩ | ⟨g', rfl, h2, h3, _⟩
  · cases hg
  · have : g' = g := Option.some.inj hg
    subst this; exact ⟨h2, h3.lt⟩
theorem OwnA.rd {B : Nat} {w : World} {ao : Option Addr} {n : Nat} {zs : List Int} (h : OwnA B w ao n zs) : Rd w ao zs := by
  rcases h with ⟨rfl, _, rfl⟩ | ⟨g, rfl, h2, h3, _⟩
  · exact ⟨.inl rfl, by simp⟩
  · have := h3.rd zs.length
    rwa [List.take_of_length_le (Nat.le_refl _)] at this
theorem OwnA.rdTake {B : Nat} {w : World} {ao : Option Addr} {n : Nat} {zs : List Int} (h : OwnA B w ao n zs) (m : Nat) : Rd w ao (zs.take m) := by
  rcases h with ⟨rfl, _, rfl⟩ | ⟨g, rfl, h2, h3, _⟩
  · exact ⟨.inl (by simp), by simp⟩
  · exact h3.rd m
theorem OwnA.nil {B : Nat} {w : World} {ao : Option Addr} {n : Nat} {zs : List Int} (h : OwnA B w ao n zs) : ao = none → zs.length = 0 := by
  rintro rfl
  rcases h with ⟨_, _, rfl⟩ | ⟨g, h, _⟩
  · rfl
  · cases h
theorem OwnA.le {B : Nat} {w : World} {ao : Option Addr} {n : Nat} {zs : List Int} (h : OwnA B w ao n zs) : n ≤ zs.length ∧ zs.length ≤ maxLen := by
  rcases h with ⟨_, rfl, rfl⟩ | ⟨g, _, _, _, h4, h5⟩
  · exact ⟨Nat.le_refl _, Nat.zero_le _⟩
  · exact ⟨h4, h5⟩

theorem over_any (B : Nat) (ao : Option Addr) (n : Nat) (zs : List Int) (w : World) (h : OwnA B w ao n zs) :
    Calls Try.prog 28 #[.slice ao n zs.length] w fun e w' => e = .returned (.tuple #[]) ∧ OwnA B w' ao n (zs.map x90) ∧ w.grownBy w' (blk ao) ∧ w'.heap.size = w.heap.size := by
  rcases h with ⟨rfl, rfl, rfl⟩ | ⟨g, rfl, hB, hb, hn, hm⟩
  · refine (over_nil w).mono ?_
    rintro e w' ⟨rfl, rfl⟩
    exact ⟨rfl, .inl ⟨rfl, rfl, rfl⟩, World.grownBy.refl _ _, rfl⟩
  · refine (over_blk g n zs w hb hn hm).mono ?_
    rintro e w' ⟨rfl, h1, h2, h3⟩
    exact ⟨rfl, .inr ⟨g, rfl, hB, h1, by simpa using hn, by simpa using hm⟩, h2, h3⟩

theorem map_x90_x90 (zs : List Int) (h : ∀ z ∈ zs, 0 ≤ z ∧ z ≤ 255) : (zs.map x90).map x90 = zs := by
  rw [List.map_map]
  conv => rhs; rw [← List.map_id zs]
  exact List.map_congr_left fun z hz => x90_x90 z (h z hz)

/-- A list's address, its length, what its block holds. -/
abbrev Elem := Option Addr × Nat × List Int

/-- The lists lie one behind the other in the block L, each in a block of its own from B on. -/
def Lie (B : Nat) (w : World) (L : Nat) (es : List Elem) : Prop :=
  L < w.heap.size ∧ ∀ k (h : k < es.length), w.cell? ⟨L, k, none⟩ = some (.slice es[k].1 es[k].2.1 es[k].2.2.length) ∧ OwnA B w es[k].1 es[k].2.1 es[k].2.2

/-- No two of them share a block, and none lies in the block L. -/
def Apart (L : Nat) (es : List Elem) : Prop :=
  (∀ k (h : k < es.length), blk es[k].1 ≠ some L) ∧ ∀ j k (hj : j < es.length) (hk : k < es.length), j ≠ k → ∀ g, blk es[j].1 = some g → blk es[k].1 ≠ some g

theorem Lie.below {B : Nat} {w w' : World} {L : Nat} {es : List Elem} (h : Lie B w L es) (hb : Below w.heap.size w w') : Lie B w' L es :=
  ⟨Nat.lt_of_lt_of_le h.1 hb.size, fun k hk => ⟨(hb.cell (p := ⟨L, k, none⟩) h.1).trans (h.2 k hk).1, (h.2 k hk).2.below hb⟩⟩

/-- One of them was written over. -/
theorem Lie.wrote {B : Nat} {w w' : World} {L : Nat} {es : List Elem} (h : Lie B w L es) (ha : Apart L es) (i : Nat) (hi : i < es.length) (zs : List Int) (hl : zs.length = es[i].2.2.length)
    (hg : w.grownBy w' (blk es[i].1)) (hs : w'.heap.size = w.heap.size) (ho : OwnA B w' es[i].1 es[i].2.1 zs) : Lie B w' L (es.set i (es[i].1, es[i].2.1, zs)) := by
  refine ⟨by rw [hs]; exact h.1, fun k hk => ?_⟩
  have hk' : k < es.length := by simpa using hk
  have hcell : w'.cell? ⟨L, k, none⟩ = w.cell? ⟨L, k, none⟩ := World.cell?_of_block (w := w) (hg.block L h.1 (fun e => (ha.1 i hi) e.symm))
  by_cases e : i = k
  · subst e
    rw [List.getElem_set_self, hcell, (h.2 i hi).1]
    exact ⟨by simp [hl], ho⟩
  · rw [List.getElem_set_ne e, hcell]
    refine ⟨(h.2 k hk').1, (h.2 k hk').2.keep fun g hg' hgl => ?_⟩
    exact hg.block g hgl (fun e' => (ha.2 i k hi hk' e g e'.symm) hg')
theorem Apart.set {L : Nat} {es : List Elem} (ha : Apart L es) (i : Nat) (hi : i < es.length) (zs : List Int) : Apart L (es.set i (es[i].1, es[i].2.1, zs)) := by
  have key : ∀ k (h : k < (es.set i (es[i].1, es[i].2.1, zs)).length), (es.set i (es[i].1, es[i].2.1, zs))[k].1 = (es[k]'(by simpa using h)).1 := by
    intro k h
    by_cases e : i = k
    · subst e; simp
    · rw [List.getElem_set_ne e]
  refine ⟨fun k hk => by rw [key]; exact ha.1 k (by simpa using hk), fun j k hj hk hne g => ?_⟩
  rw [key, key]; exact ha.2 j k (by simpa using hj) (by simpa using hk) hne g

/-- Copies of the lists' whole blocks, the first m of them, in blocks from S + 1 on, one behind the other in the block S. -/
def Copies (S : Nat) (w : World) (es : List Elem) (m : Nat) : Prop :=
  S < w.heap.size ∧ (∀ k, k < es.length → (∃ u, w.cell? ⟨S, k, none⟩ = some u) ∧ w.frozen? ⟨S, k, none⟩ = false) ∧
  ∀ k (h : k < es.length), k < m → ∃ ao c, w.cell? ⟨S, k, none⟩ = some (.slice ao es[k].2.2.length c) ∧ Rd w ao es[k].2.2 ∧ ∀ b o, ao = some ⟨b, o, none⟩ → S < b

theorem Copies.below {S : Nat} {w w' : World} {es : List Elem} {m : Nat} (h : Copies S w es m) (hb : Below w.heap.size w w') : Copies S w' es m := by
  refine ⟨Nat.lt_of_lt_of_le h.1 hb.size, fun k hk => ?_, fun k hk hm => ?_⟩
  · rw [hb.cell (p := ⟨S, k, none⟩) h.1, hb.frozen (p := ⟨S, k, none⟩) h.1]; exact h.2.1 k hk
  · obtain ⟨ao, c, h1, h2, h3⟩ := h.2.2 k hk hm
    exact ⟨ao, c, (hb.cell (p := ⟨S, k, none⟩) h.1).trans h1, h2.below hb, h3⟩
/-- A block below S is written: the copies stay. -/
theorem Copies.wrote {S : Nat} {w w' : World} {es : List Elem} {m : Nat} (h : Copies S w es m) {row : Option Nat} (hg : w.grownBy w' row) (hr : ∀ g, row = some g → g < S) : Copies S w' es m := by
  have hS : w'.heap[S]? = w.heap[S]? := hg.block S h.1 (fun e => by have := hr S e.symm; omega)
  refine ⟨Nat.lt_of_lt_of_le h.1 hg.size, fun k hk => ?_, fun k hk hm => ?_⟩
  · rw [World.cell?_of_block (w := w) (a := ⟨S, k, none⟩) hS, World.frozen?_of_block (w := w) (a := ⟨S, k, none⟩) hS]; exact h.2.1 k hk
  · obtain ⟨ao, c, h1, h2, h3⟩ := h.2.2 k hk hm
    refine ⟨ao, c, (World.cell?_of_block (w := w) (a := ⟨S, k, none⟩) hS).trans h1, ?_, h3⟩
    refine ⟨?_, h2.2⟩
    rcases h2.1 with e | ⟨b, o, rfl, e1, e2⟩
    · exact .inl e
    · refine .inr ⟨b, o, rfl, Nat.lt_of_lt_of_le e1 hg.size, fun i hi => ?_⟩
      rw [← e2 i hi]
      refine World.cell?_of_block (w := w) (a := ⟨b, o + i, none⟩) (hg.block b e1 (fun e => ?_))
      have := hr b e.symm
      have := h3 b o rfl
      omega
theorem Apart.of {L : Nat} {es : List Elem} (h1 : ∀ e ∈ es, blk e.1 ≠ some L) (h2 : es.Pairwise fun e f => ∀ g, blk e.1 = some g → blk f.1 ≠ some g) : Apart L es := by
  refine ⟨fun k hk => h1 _ (List.getElem_mem hk), fun j k hj hk hne g h3 h4 => ?_⟩
  rcases Nat.lt_or_gt_of_ne hne with h | h
  · exact List.pairwise_iff_getElem.1 h2 j k hj hk h g h3 h4
  · exact List.pairwise_iff_getElem.1 h2 k j hk hj h g h4 h3
/-- Two lists, the second made when the first was there, share no block. -/
theorem OwnA.apart {B B' : Nat} {w w' : World} {ao bo : Option Addr} {n m : Nat} {zs ys : List Int} (h1 : OwnA B w ao n zs) (h2 : OwnA B' w' bo m ys) (hw : w.heap.size ≤ B') : ∀ g, blk ao = some g → blk bo ≠ some g := by
  intro g e1 e2
  have := (h1.lt g e1).2
  have := (h2.lt g e2).1
  omega
theorem Lie.of {B L : Nat} {w : World} {es : List Elem} (hL : L < w.heap.size) (hc : ∀ k (h : k < es.length), w.cell? ⟨L, k, none⟩ = some (.slice es[k].1 es[k].2.1 es[k].2.2.length)) (ho : ∀ e ∈ es, OwnA B w e.1 e.2.1 e.2.2) : Lie B w L es :=
  ⟨hL, fun k hk => ⟨hc k hk, ho _ (List.getElem_mem hk)⟩⟩
end Go.Proofs.Ytglkjiebcmmglaa
