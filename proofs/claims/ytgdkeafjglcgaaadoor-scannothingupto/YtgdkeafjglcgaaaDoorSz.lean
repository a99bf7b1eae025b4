/- Copy: entries in memory of their own. -/
import Derived.Test.YtgdkeafjglcgaaaDoorSx
import Derived.Test.YtgdkeafjglcgaaaDoorSs
namespace Go.Proofs.YtgdkeafjglcgaaaDoor
open Go.ChangeShapes Go.WideShapes Go.ChangeAt Go.RowKit
set_option linter.unusedVariables false
set_option linter.unusedSimpArgs false


theorem set_size' (w : World) (a : Addr) (v : Value) : (w.setCell a v).heap.size = w.heap.size := by simp
theorem wrd_nil {w : World} {x : Sl} {ws : List Wd} (h : WRd w x ws) : x.a = none → x.n = 0 := by
  intro e
  rcases h.2.2.2 with e1 | ⟨b, o, ha, _⟩
  · rw [h.1, e1]; rfl
  · rw [e] at ha; cases ha
theorem cp_mid {B m c3 : Nat} {wr w3 : World} {cs : Array Value} {a3 : Option Addr} {en : En} (hB : B ≤ wr.heap.size) (hm : m = en.ws.length) (hg : ((wr.alloc (.cells cs 34)).alloc (.cells #[] 44)).grownBy w3 (some (wr.heap.size + 1))) (h3 : w3.ownsRow (wr.heap.size + 1) 44 2 (.slice a3 m c3) m (cellsW en.ws)) (hbx : w3.heap[wr.heap.size]? = some (.cells cs 34 (0, 0))) (u : Value) :
    Below wr.heap.size wr (w3.setCell ⟨wr.heap.size, 2, none⟩ u) ∧ RfE B (w3.setCell ⟨wr.heap.size, 2, none⟩ u) ⟨a3, m, c3⟩ en.ws := by
  have hb2 : Below wr.heap.size wr ((wr.alloc (.cells cs 34)).alloc (.cells #[] 44)) := (alp_below _ _).trans ((alp_below _ _).mono (alp_below _ _).size)
  have hb3 : Below wr.heap.size wr w3 := hb2.grown hg hb2.size (fun k e => by have := Option.some.inj e; omega)
  refine ⟨hb3.setCell (p := ⟨wr.heap.size, 2, none⟩) (Nat.le_refl _) _, ?_⟩
  subst hm
  have h4 : (w3.setCell ⟨wr.heap.size, 2, none⟩ u).ownsRow (wr.heap.size + 1) 44 2 (.slice a3 en.ws.length c3) en.ws.length (cellsW en.ws) := row_stays h3 (fun g hg' => Below.heap_setCell _ _ _ _ (fun e => by
    simp only at e
    have := (h3.lt g hg').1
    omega))
  obtain ⟨x, hx, hr⟩ := RfE.of h4
  have e : x = ⟨a3, en.ws.length, c3⟩ := by
    cases x; simp only [Value.slice.injEq] at hx; obtain ⟨rfl, rfl, rfl⟩ := hx; rfl
  subst e
  exact fun w' hs hb => hr w' hs (fun j hj => hb j (by omega))
end Go.Proofs.YtgdkeafjglcgaaaDoor
