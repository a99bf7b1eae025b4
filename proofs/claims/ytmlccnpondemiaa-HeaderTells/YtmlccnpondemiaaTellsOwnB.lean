/- Proved: for any two messages and any counts, header.Bytes tells a head's bytes as the document does, or just its error, in new memory, Answers answers as the document does, and what is handed in stays. No condition. -/
import Derived.Test.YtmlccnpondemiaaWte
import Derived.WalkKit
import Derived.ProofKit
import Derived.OpenShut
import Derived.ShutString
import Derived.ChangeOld
import Derived.Below
import Derived.JoinedCond
import Derived.Deep.Strs
import Derived.Deep.Slices
import Derived.Lib.SmallJoins
namespace Go.Proofs.Ytmlccnpondemiaa
open Go.ChangeShapes Go.WideShapes Go.ChangeAt Go.RowKit
open Go.ChangeMaps (open_string shut_string)
set_option linter.unusedVariables false

theorem tellsOwn_own : ownKnob Try.prog.godebug = none := by kernel_rfl
theorem tellsOwn_laid : laidOutB Try.prog = true := by kernel_rfl
set_option maxRecDepth 100000 in
theorem tellsOwn_lifted (os : Os) (started : os.Started) (H : Type) (enc : TypeId × Value → H) :
    ReturnsInHanded {} Try.checked os 3 .any (Rows.headerTellsSpec.pre6 enc Try.prog Try.f3 Rows.headerTellsRow.domain false) (Rows.headerTellsSpec.post enc Try.prog Try.f3 false true false false) := by
  refine returnsInHanded_of_change_sized (C := Try.checked) tellsOwn_own started (by kernel_rfl) Try.func3
    (ChangeSpec.witness6 (enc := enc) (C := Try.checked) false ⟨#[], #[.agg #[.int .u16 0, .bool false, .int .i64 0, .bool false, .bool false, .bool false, .bool false, .bool false, .bool false, .int .i64 0, .slice none 0 0, .slice none 0 0, .slice none 0 0, .slice none 0 0], .agg #[.int .u16 0, .bool false, .int .i64 0, .bool false, .bool false, .bool false, .bool false, .bool false, .bool false, .int .i64 0, .slice none 0 0, .slice none 0 0, .slice none 0 0, .slice none 0 0], .agg #[.int .i64 0, .int .i64 0, .int .i64 0, .int .i64 0]], []⟩ 8 (by kernel_rfl) (by kernel_rfl) (by kernel_rfl) (by kernel_rfl)) ?_
  intro W base args ds gs before hval0 hW hcnd hsz0 _
  have hsz : (DataW.weightsEach Try.prog (Try.f3.params.toList ++ Rows.headerTellsSpec.plain.varTypes Try.prog) (ds ++ gs)).all (· ≤ reachBytes) = true := hsz0
  have hval : ∀ (j : Nat) t v, Try.f3.params[j]? = some t → args[j]? = some v → Value.okWide Try.prog W .any base t v := hval0
  have hW' := hW
  obtain ⟨p, q, hA0, hV, rfl, hfz, hnd⟩ := hW
  have hA : DataW.TrodAll enc Try.prog W 0 (fun _ => true) true Try.f3.params.toList args.toList ds p := hA0
  rw [Try.params3] at hA hval hsz
  obtain ⟨v0, vs0, d0, ds0, p0, q0, hargs, rfl, rfl, h0, r0⟩ := trodAll_cons hA
  obtain ⟨v1, vs1, d1, ds1, p1, q1, rfl, rfl, rfl, h1, r1⟩ := trodAll_cons r0
  obtain ⟨v2, vs2, d2, ds2, p2, q2, rfl, rfl, rfl, h2, r2⟩ := trodAll_cons r1
  obtain ⟨rfl, rfl, rfl⟩ := trodAll_nil r2
  obtain rfl : args = #[v0, v1, v2] := by cases args; simp_all
  obtain ⟨rfl, rfl⟩ := trodVars_none hV
  have k0 := h0
  have lt0 : ∀ x ∈ p0, x.block < W.heap.size := by obtain ⟨m, hm⟩ := k0; exact DataW.trod_lt m _ _ _ hm
  obtain ⟨id0, rs0, op0, aa0, tc0, rd0, ra0, ad0, cd0, rc0, pa0, pb0, pc0, pd0, na0, nb0, nc0, nd0, ka0, kb0, kc0, kd0, rfl, hid0, ⟨qs0, hq0, wq0⟩, ⟨l20, u20, z20, m20, w20⟩, ⟨l30, u30, z30, m30, w30⟩, ⟨l40, u40, z40, m40, w40⟩⟩ := open_msgW (hval 0 26 v0 rfl rfl) k0 (reach_all hsz (j := 0) (t := 26) rfl rfl)
  have k1 := h1
  have lt1 : ∀ x ∈ p1, x.block < W.heap.size := by obtain ⟨m, hm⟩ := k1; exact DataW.trod_lt m _ _ _ hm
  obtain ⟨id1, rs1, op1, aa1, tc1, rd1, ra1, ad1, cd1, rc1, pa1, pb1, pc1, pd1, na1, nb1, nc1, nd1, ka1, kb1, kc1, kd1, rfl, hid1, ⟨qs1, hq1, wq1⟩, ⟨l21, u21, z21, m21, w21⟩, ⟨l31, u31, z31, m31, w31⟩, ⟨l41, u41, z41, m41, w41⟩⟩ := open_msgW (hval 1 26 v1 rfl rfl) k1 (reach_all hsz (j := 1) (t := 26) rfl rfl)
  have k2 := h2
  have lt2 : ∀ x ∈ p2, x.block < W.heap.size := by obtain ⟨m, hm⟩ := k2; exact DataW.trod_lt m _ _ _ hm
  obtain ⟨c0_2, c1_2, c2_2, c3_2, rfl⟩ := open_counts (hval 2 27 v2 rfl rfl) k2
  clear hA0 hval0
  refine (tellsL id0 rs0 op0 aa0 tc0 rd0 ra0 ad0 cd0 rc0 pa0 pb0 pc0 pd0 na0 nb0 nc0 nd0 ka0 kb0 kc0 kd0 id1 rs1 op1 aa1 tc1 rd1 ra1 ad1 cd1 rc1 pa1 pb1 pc1 pd1 na1 nb1 nc1 nd1 ka1 kb1 kc1 kd1 c0_2 c1_2 c2_2 c3_2 qs0 qs1 l20 l30 l40 l21 l31 l41 W hid0 ⟨hq0, u20, z20, u30, z30, u40, z40⟩ ⟨hq1, u21, z21, u31, z31, u41, z41⟩ wq0 wq1 ⟨m20, m30, m40⟩ ⟨m21, m31, m41⟩ w20 w30 w40 w21 w31 w41).mono fun e W' ⟨he, bel⟩ => ?_
  subst he
  exact ⟨_, rfl, _, _, _, [], _, [], hW', trodAll_mk1 (shut_bool Try.underlying4 _), (trodAll_cons_mk (Below.trod tellsOwn_laid (by kernel_rfl) (of_decide_eq_true (by kernel_rfl)) k0 bel lt0) (trodAll_cons_mk (Below.trod tellsOwn_laid (by kernel_rfl) (of_decide_eq_true (by kernel_rfl)) k1 bel lt1) (trodAll_cons_mk (Below.trod tellsOwn_laid (by kernel_rfl) (of_decide_eq_true (by kernel_rfl)) k2 bel lt2) trodAll_mk0))), rfl, bel.frame _, fun h => by cases h⟩

theorem header_tells_holds : Rows.HeaderTellsSaid :=
  OpenClaim.holds_of_wide 3 Try.f3 rfl rfl rfl rfl rfl rfl rfl ⟨rfl, rfl, rfl, rfl, rfl⟩ rfl rfl rfl rfl rfl (by kernel_rfl) Try.func3 (by kernel_rfl)
    (of_decide_eq_true (by kernel_rfl)) (by unfold Func.isWrapper; first | (rw [if_pos (by decide +kernel)]; kernel_rfl) | (rw [if_neg (by decide +kernel)]; exact ⟨rfl, rfl⟩))
    (fun os started H enc _ => tellsOwn_lifted os started H enc)
#print axioms header_tells_holds
end Go.Proofs.Ytmlccnpondemiaa
