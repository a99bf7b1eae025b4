/- Copy. -/
import Derived.Test.YtgdkeafjglcgaaaDoorSq
import Derived.Deep.AppendLies
import Derived.Deep.Upon
namespace Go.Proofs.YtgdkeafjglcgaaaDoor
open Go.ChangeShapes Go.WideShapes Go.ChangeAt Go.RowKit
set_option linter.unusedVariables false
set_option linter.unusedSimpArgs false


/-- An append of words, whether there are any or not: what it comes to. -/
theorem run_appT (w : World) (ty : TypeId) (B : Nat) (av : Option Addr) (n cv : Nat) (xs : List Value) (hown : w.ownsRow B 44 2 (.slice av n cv) n xs)
    (ao : Option Addr) (m c : Nat) (news : List Value) (hl : news.length = m * 2) (hsrc : ∀ ad, ao = some ad → ∀ j u, news[j]? = some u → w.cell? (ad.add j) = some u) (hnil : ao = none → m = 0) (h1 : ∀ u ∈ news, u.oneCell' = true) (hb : n + m ≤ 10000000) (hB : B ≤ w.heap.size) :
    ∃ a' c' w', (Builtin.append_ #[32, 32] ty #[.slice av n cv, .slice ao m c]).run Tryd.prog w = .ok (.slice a' (n + m) c') w' ∧ w'.ownsRow B 44 2 (.slice a' (n + m) c') (n + m) (xs ++ news) ∧ w.grownBy w' (Value.slice av n cv).ownBlock := by
  obtain ⟨i, hi, hz0, hz1, hz2⟩ := inf27
  by_cases hm : m = 0
  · subst hm
    have hn0 : news = [] := List.eq_nil_of_length_eq_zero (by omega)
    subst hn0
    have hle : n ≤ cv := by
      rcases hown.2 with ⟨e, h0⟩ | ⟨g, cap, cur, e, _, _, h3, _⟩
      · injection e; omega
      · injection e; omega
    have hS : Src Tryd.prog i.size 32 (.slice ao 0 c) 0 [] w := by
      cases ao with
      | none => exact Src.ofNil w Tryd.underlying32 c
      | some ad => exact Src.ofSlice w Tryd.underlying32 ad 0 c [] (by simp) (by simp) (by simp)
    have hrun := run_append_nothing (P := Tryd.prog) w 32 32 ty 44 i Tryd.underlying32 hi av n cv hle (.slice ao 0 c) hS
    exact ⟨av, cv, w, hrun, by simpa using hown, World.grownBy.refl _ _⟩
  · cases ao with
    | none => exact absurd (hnil rfl) hm
    | some ad =>
      obtain ⟨g, cap, w', hr, h2, h3, _, _⟩ := run_append_lies (P := Tryd.prog) w 32 ty B 44 i _ 2 24 Tryd.underlying32 hi hz0 hz1 hz2 rfl (by omega) _ n xs hown ad m c news hl (hsrc ad rfl) h1 (by omega) (by simp only [maxLen]; omega) (by omega) hB _ rfl
      exact ⟨_, _, _, hr, h2, h3⟩
theorem wpList_appT {w : World} {ops : Array Oper} {rest : List Oper} {o : Oper} {a : Act} {Q : Exit → Act → World → Prop} (hgd : o.guard = none) (s x : Operand)
    (ho : o.op = .call { callee := .builtin .append, args := #[s, x], argTypes := #[32, 32] }) (B : Nat) (av : Option Addr) (n cv : Nat) (xs : List Value) (hs : a.eval s = .slice av n cv) (hown : w.ownsRow B 44 2 (.slice av n cv) n xs)
    (ao : Option Addr) (m c : Nat) (news : List Value) (hx : a.eval x = .slice ao m c) (hl : news.length = m * 2) (hsrc : ∀ ad, ao = some ad → ∀ j u, news[j]? = some u → w.cell? (ad.add j) = some u) (hnil : ao = none → m = 0) (h1 : ∀ u ∈ news, u.oneCell' = true) (hb : n + m ≤ 10000000) (hB : B ≤ w.heap.size) (N : Nat) (hN : n + m = N)
    (h : ∀ a' c' w', Hid (w'.ownsRow B 44 2 (.slice a' N c') N (xs ++ news)) → Hid (w.grownBy w' (Value.slice av n cv).ownBlock) → wpList Tryd.prog ops Q rest (a.put o.dst (.slice a' N c')) w') : wpList Tryd.prog ops Q (o :: rest) a w := by
  refine wpList_plain hgd fun K hK => ?_
  obtain ⟨a', c', w', hrun, h2, h3⟩ := run_appT w o.type B av n cv xs hown ao m c news hl hsrc hnil h1 hb hB
  subst hN
  unfold Oper.wp execOp
  simp only [ho, resolve, invoke, builtin, Sem.run_bind, Sem.run_pure, Result.andThen_ok, List.map_toArray, List.map_cons, List.map_nil, hs, hx, hrun]
  exact hK _ _ (h a' c' w' h2 h3)
theorem wrd_src {w : World} {x : Sl} {ws : List Wd} (h : WRd w x ws) (W : World) (hW : Below w.heap.size w W) : ∀ ad, x.a = some ad → ∀ j u, (cellsW ws)[j]? = some u → W.cell? (ad.add j) = some u := by
  intro ad had j u hu
  rcases h.2.2.2 with e | ⟨b, o, ha, hb, hc⟩
  · rw [e] at hu; simp [cellsW] at hu
  · rw [ha] at had
    injection had with had
    subst had
    have ad : (⟨b, o, none⟩ : Addr).add j = ⟨b, o + j, none⟩ := by unfold Addr.add; split <;> simp_all
    rw [ad]
    have hj : j < ws.length * 2 := by rw [← cellsW_len]; exact (List.getElem?_eq_some_iff.1 hu).1
    have hi : j / 2 < ws.length := by omega
    obtain ⟨e1, e2⟩ := cellsW_at ws (j / 2) hi
    obtain ⟨g1, g2⟩ := hc (j / 2) hi
    refine (hW.cell (p := ⟨b, o + j, none⟩) hb).trans ?_
    by_cases hp : j % 2 = 0
    · rw [show j / 2 * 2 = j by omega] at e1 g1
      rw [e1] at hu; rw [← hu]; exact g1
    · rw [show j / 2 * 2 + 1 = j by omega] at e2
      rw [show o + j / 2 * 2 + 1 = o + j by omega] at g2
      rw [e2] at hu; rw [← hu]; exact g2
theorem row_none (w : World) (B : Nat) (hB : B ≤ w.heap.size) : (w.alloc (.cells #[] 44)).ownsRow B 44 2 (.slice (some ⟨w.heap.size, 0, none⟩) 0 0) 0 [] := by
  refine ⟨rfl, .inr ⟨w.heap.size, 0, #[], rfl, hB, heap_alloc_new _ _, Nat.le_refl _, by simp, rfl, ?_⟩⟩
  simp
end Go.Proofs.YtgdkeafjglcgaaaDoor
