/- What lies laid when ScanNothing is called. -/
import Derived.Test.YtgdkeafjglcgaaaDoorNd
import Derived.Test.YtgdkeafjglcgaaaDoorTo
import Derived.Test.YtgdkeafjglcgaaaDoorCards
import Derived.Test.YtgdkeafjglcgaaaDoorTie
import Derived.ProofKit
import Derived.OpenShut
import Derived.LaidMore
import Derived.LaidOnce
import Derived.LaidSub
import Derived.MakeChecks
import Derived.Deep.DeepHandedRow
import Derived.Deep.DeepWitnessRowRef
import Derived.Lay
namespace Go.Proofs.YtgdkeafjglcgaaaDoor
open Go.ChangeShapes Go.WideShapes Go.ChangeAt Go.RowKit
set_option linter.unusedVariables false
set_option maxRecDepth 100000
theorem d_own : ownKnob Tryd.prog.godebug = none := by kernel_rfl
theorem met_max {W : World} (h : W.ShapedOpen Tryd.prog) : 0 < W.heap.size ∧ ∃ m, W.cell? ⟨0, 0, none⟩ = some (.int .i64 m) := by
  have h0 : ((begin Tryd.prog (fun _ _ => 0) default).world.heap[0]?).bind Obj.row? = some (#[.int .i64 0], 3) := by kernel_rfl
  have hb : Tryd.prog.buildable 3 = true := by kernel_rfl
  have hc : Tryd.prog.cellTypes Tryd.prog.depth 3 = some [3] := by kernel_rfl
  have hg : 0 < Tryd.prog.globals.size := of_decide_eq_true (by kernel_rfl)
  obtain ⟨cs, hh, hs, hr⟩ := h.1 0 #[.int .i64 0] 3 hg h0
  refine ⟨(Array.getElem?_eq_some_iff.1 hh).1, ?_⟩
  obtain ⟨ts, hts, hlen, hall⟩ := hr hb
  rw [hc] at hts
  cases hts
  have h1 : 0 < cs.size := by rw [hs]; decide
  obtain ⟨u, hu', hok⟩ := hall 0 cs[0] (by simp [h1])
  have hu : u = 3 := (Option.some.inj hu').symm
  have hcell : W.cell? ⟨0, 0, none⟩ = some cs[0] := by simp [World.cell?, hh, h1]
  rw [hcell]
  unfold Cell.ok at hok
  rw [hu, Tryd.underlying3] at hok
  cases hv : cs[0] <;> rw [hv] at hok <;> first | simp at hok; done | skip
  all_goals (simp at hok; obtain ⟨rfl, _⟩ := hok; exact ⟨_, rfl⟩)
abbrev laid2 : List (String × DataW Unit) := [("unicode/utf8.acceptRanges", Rows.laid_unicode_utf8_acceptRanges), ("unicode/utf8.first", Rows.laid_unicode_utf8_first)]
theorem plain2 : (laid2.all fun x => x.2.handleName?.isNone) = true := by kernel_rfl
theorem all_met2 (os : Os) (args : Array Value) : laidMetH Tryd.prog laid2 ((World.laidAll Tryd.prog os laid2).forCall (fun _ _ => 0) ⟨#[], args, []⟩).memory := by
  rw [MakeChecks.laidMetH_plain _ _ _ plain2]
  exact laidMet_laidAll args (by kernel_rfl) (by kernel_rfl)
end Go.Proofs.YtgdkeafjglcgaaaDoor
