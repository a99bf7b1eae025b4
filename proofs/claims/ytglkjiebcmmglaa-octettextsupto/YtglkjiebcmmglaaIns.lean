/- A list of lists that are lent, made one by one: what is known of it. -/
import Derived.Test.YtglkjiebcmmglaaRhex
import Derived.Test.YtglkjiebcmmglaaKept
import Derived.Test.YtglkjiebcmmglaaApart
namespace Go.Proofs.Ytglkjiebcmmglaa
open Go.ChangeShapes Go.WideShapes Go.ChangeAt Go.RowKit
set_option linter.unusedVariables false
set_option linter.unusedSimpArgs false

def vals (es : List Elem) : List Value := es.map fun e => Value.slice e.1 e.2.1 e.2.2.length
/-- The list v holds the lists es, each in a block of its own. -/
structure Ins (B : Nat) (w : World) (v : Value) (es : List Elem) : Prop where
  row : w.ownsRow B 23 1 v es.length (vals es)
  own : ∀ e ∈ es, OwnA B w e.1 e.2.1 e.2.2
  prs : es.Pairwise fun e f => ∀ g, blk e.1 = some g → blk f.1 ≠ some g
  sz : B ≤ w.heap.size

theorem blk_row {B : Nat} {w : World} {v : Value} {n : Nat} {xs : List Value} {e : Elem} (hr : w.ownsRow B 23 1 v n xs) (ho : OwnA B w e.1 e.2.1 e.2.2) : ∀ g, blk e.1 = some g → v.ownBlock ≠ some g := by
  intro g hg hv
  rcases ho with ⟨h, _⟩ | ⟨g', h, _, hb, _⟩
  · rw [h] at hg; cases hg
  · rw [h] at hg
    have e1 : g' = g := Option.some.inj hg
    subst e1
    rcases hr.2 with ⟨rfl, _⟩ | ⟨g2, cap, cur, rfl, _, hg2, _⟩
    · cases hv
    · have e2 : g2 = g' := Option.some.inj hv
      subst e2
      rw [hb.1] at hg2
      injection hg2 with h3
      injection h3 with _ h4 _
      cases h4

theorem Ins.below {B : Nat} {w w' : World} {v : Value} {es : List Elem} (h : Ins B w v es) (hb : Below w.heap.size w w') : Ins B w' v es :=
  ⟨h.row.kept (row := none) ⟨hb.os, hb.tape, hb.output, hb.size, fun k hk _ => hb.block k hk⟩ (by cases hv : v.ownBlock <;> simp), fun e he => (h.own e he).below hb, h.prs, Nat.le_trans h.sz hb.size⟩

/-- Another list goes on. -/
theorem Ins.push {B : Nat} {w w1 w2 : World} {v v' : Value} {es : List Elem} (h : Ins B w v es) (hb : Below w.heap.size w w1) (es2 : List Elem) (hw2 : w1.grownBy w2 v.ownBlock) (hrow : w2.ownsRow B 23 1 v' (es.length + es2.length) (vals es ++ vals es2))
    (ho : ∀ e ∈ es2, OwnA w.heap.size w1 e.1 e.2.1 e.2.2) (hp : es2.Pairwise fun e f => ∀ g, blk e.1 = some g → blk f.1 ≠ some g) : Ins B w2 v' (es ++ es2) := by
  have hB := h.sz
  have h1 := h.below hb
  have keep : ∀ e : Elem, OwnA B w1 e.1 e.2.1 e.2.2 → OwnA B w2 e.1 e.2.1 e.2.2 := fun e he => he.keep fun g hg hlt => hw2.block g hlt (fun hv => blk_row h1.row he g hg hv.symm)
  refine ⟨by rw [List.length_append, vals, List.map_append]; exact hrow, ?_, ?_, Nat.le_trans h1.sz hw2.size⟩
  · intro e he
    rcases List.mem_append.1 he with he | he
    · exact keep e (h1.own e he)
    · exact keep e ((ho e he).mono hB)
  · rw [List.pairwise_append]
    refine ⟨h.prs, hp, fun e he f hf g hg hg2 => ?_⟩
    have a1 := ((h.own e he).lt g hg).2
    have a2 := ((ho f hf).lt g hg2).1
    omega

/-- From the list on ApartBytes can go. -/
theorem Ins.lie {B : Nat} {w : World} {L C : Nat} {es : List Elem} (h : Ins B w (.slice (some ⟨L, 0, none⟩) es.length C) es) : Lie B w L es ∧ Apart L es ∧ B ≤ L ∧ es.length ≤ C := by
  have hl := h.row.lt L rfl
  refine ⟨Lie.of hl.2 (fun k hk => ?_) h.own, Apart.of (fun e he hb => blk_row h.row (h.own e he) L hb rfl) h.prs, hl.1, ?_⟩
  · have := h.row.cells (g := L) rfl k (.slice es[k].1 es[k].2.1 es[k].2.2.length) (by simp [vals, hk])
    rw [Addr.add_lit, Nat.zero_add] at this
    exact this
  · rcases h.row.2 with ⟨e, _⟩ | ⟨g, cap, cur, e, _, _, hc, _⟩
    · cases e
    · have e2 : C = cap := by injection e
      omega
end Go.Proofs.Ytglkjiebcmmglaa
