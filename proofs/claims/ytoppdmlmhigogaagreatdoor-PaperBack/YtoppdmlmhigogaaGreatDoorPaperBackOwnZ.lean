/- Proved: for every origin, every other origin and every list of records the statement that records that are printed are read again as they were, whatever the origin with which reading begins, and so is each one by its own line, returns true, and each argument reads as before. No condition. -/
import Derived.Test.YtoppdmlmhigogaaGreatDoorWzn
import Derived.WalkKit
import Derived.ProofKit
import Derived.OpenShut
import Derived.ShutString
import Derived.ChangeOld
import Derived.Below
import Derived.JoinedCond
import Derived.Deep.Strs
import Derived.Deep.Slices
import Derived.Lib.SmallJoins
namespace Go.Proofs.YtoppdmlmhigogaaGreatDoor
open Go.ChangeShapes Go.WideShapes Go.ChangeAt Go.RowKit
open Go.ChangeMaps (open_string shut_string)
set_option linter.unusedVariables false

set_option maxHeartbeats 8000000 in
theorem paperBack_facts : joinedFacts Tryz.pinned.checked.prog 4 Tryz.f4 (OpenSpec.ofChange Rows.paperBackSpec).bare Rows.paperBackRow = true := by
  unfold joinedFacts
  simp only [Bool.and_eq_true]
  repeat' apply And.intro
  all_goals (as_aux_lemma => kernel_rfl)
theorem paperBack_name : Tryz.pinned.checked.prog.funcNamed Rows.paperBackRow.func = some 4 := by kernel_rfl
theorem paperBack_inst : Tryz.f4.isInstance Tryz.pinned.checked.prog Rows.paperBackRow.origin Rows.paperBackRow.targs := of_decide_eq_true (by kernel_rfl)
theorem paperBack_wrap : Tryz.f4.isWrapper Tryz.pinned.checked.prog Rows.paperBackRow.wrapper Rows.paperBackRow.mainSum := by unfold Func.isWrapper; first | (rw [if_pos (by decide +kernel)]; kernel_rfl) | (rw [if_neg (by decide +kernel)]; exact ⟨rfl, rfl⟩)
theorem paperBack_said : Rows.PaperBackSaid :=
  OpenClaim.holds_of_cond 4 Tryz.f4 rfl rfl rfl rfl rfl rfl rfl ⟨rfl, rfl, rfl, rfl, rfl⟩ rfl rfl rfl rfl rfl paperBack_name Tryz.func4 paperBack_facts
    paperBack_inst paperBack_wrap
    (fun os started H enc _ F => by rw [OpenClaim.pre_eq_preRow]; exact bM os started H enc F)

theorem paperBack_plain (f : FuncId) (fn : Func) (hf : Tryz.pinned.checked.prog.funcNamed "nomenclator/nomenclatorlaw15.PaperBack" = some f) (hfn : Tryz.pinned.checked.prog.funcs[f]? = some fn) :
    true = Tryz.pinned.checked.prog.looks [] ∧ ∀ (j : Nat) t, fn.params[j]? = some t → Tryz.pinned.checked.prog.wantsStandIn t = false := by
  obtain rfl : f = 4 := Option.some.inj ((show Tryz.prog.funcNamed "nomenclator/nomenclatorlaw15.PaperBack" = some 4 by kernel_rfl).symm.trans hf) |>.symm
  obtain rfl : fn = Tryz.f4 := (Option.some.inj (Tryz.func4.symm.trans hfn)).symm
  refine ⟨by kernel_rfl, fun j t ht => ?_⟩
  rw [Tryz.params4] at ht
  have hm : t ∈ [23, 23, 24] := by simpa using Array.mem_of_getElem? ht
  have hall : ([23, 23, 24].all fun u => !Tryz.prog.wantsStandIn u) = true := by kernel_rfl
  exact (show Tryz.prog.wantsStandIn t = false by simpa using List.all_eq_true.1 hall t hm)

theorem paperBack_card : Rows.PaperBackCardSaid :=
  Claim7.holds_tied_plain_at .later [] _ _ _ _ paperBack_said (fun _ h => by cases h) (by kernel_rfl) (fun _ h => by cases h) paperBack_row_tie rfl ⟨rfl, rfl⟩ (by kernel_rfl) rfl paperBack_plain (by kernel_rfl)
#print axioms paperBack_card
end Go.Proofs.YtoppdmlmhigogaaGreatDoor
