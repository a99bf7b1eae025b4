/- Proved: for any two names and any depth the statement's function about names returns true, and each argument reads as before. No condition. -/
import Derived.Test.YtkbpjaojgkpffaaOpn
import Derived.Test.YtkbpjaojgkpffaaCallN
namespace Go.Proofs.Ytkbpjaojgkpffaa
open Go.ChangeShapes Go.WideShapes Go.ChangeAt Go.RowKit
open Go.ChangeMaps (open_string shut_string)
set_option linter.unusedVariables false

set_option maxRecDepth 100000 in
set_option maxHeartbeats 4000000 in
theorem calls_walkN (a b : Option Addr) (n m c1 c2 : Nat) (d : Int) (ss ts : List ByteArray) (w : World) (hs : Arg w a n ss) (ht : Arg w b m ts) (hc : n ≤ c1 ∧ c1 ≤ 9223372036854775807) :
    Calls Try.prog 3 #[.slice a n c1, .slice b m c2, .int .i64 d] w fun e w' => e = .returned (.bool true) ∧ Below w.heap.size w w' := by
  have K1 := hs.few c1
  have K2 := ht.few c2
  by_cases h1 : fewB ss
  · replace K1 : Hid (Calls Try.prog 9 #[.slice a n c1] w fun e w' => e = .returned (.bool true) ∧ w' = w) := by rw [decide_eq_true h1] at K1; exact K1
    by_cases h2 : fewB ts
    · replace K2 : Hid (Calls Try.prog 9 #[.slice b m c2] w fun e w' => e = .returned (.bool true) ∧ w' = w) := by rw [decide_eq_true h2] at K2; exact K2
      exact calls_mainN a b n m c1 c2 d ss ts w (few_nm hs.rd hs.len h1) (few_nm ht.rd ht.len h2) hc K1 K2
    · replace K2 : Hid (Calls Try.prog 9 #[.slice b m c2] w fun e w' => e = .returned (.bool false) ∧ w' = w) := by rw [decide_eq_false h2] at K2; exact K2
      clear hs ht h1 h2
      go_enter Try.func3, Try.ntmps3
      go_wp2_with fail
      refine K1.out.mono ?_
      rintro e w1 ⟨rfl, rfl⟩
      go_wp2_with fail
      refine K2.out.mono ?_
      rintro e w1 ⟨rfl, rfl⟩
      go_wp2
      go_ret
      exact ⟨rfl, Below.refl _ _⟩
  · replace K1 : Hid (Calls Try.prog 9 #[.slice a n c1] w fun e w' => e = .returned (.bool false) ∧ w' = w) := by rw [decide_eq_false h1] at K1; exact K1
    clear K2 hs ht h1
    go_enter Try.func3, Try.ntmps3
    go_wp2_with fail
    refine K1.out.mono ?_
    rintro e w1 ⟨rfl, rfl⟩
    go_wp2
    go_ret
    exact ⟨rfl, Below.refl _ _⟩

set_option maxRecDepth 100000 in
theorem calln_lifted (os : Os) (started : os.Started) (H : Type) (enc : TypeId × Value → H) :
    ReturnsInHanded {} Try.checked os 3 .any (Rows.nameCallsSpec.pre6 enc Try.prog Try.f3 Rows.nameCallsRow.domain false) (Rows.nameCallsSpec.post enc Try.prog Try.f3 false true false false) := by
  refine returnsInHanded_of_change (C := Try.checked) n_own started (by kernel_rfl) Try.func3
    (ChangeSpec.witness6 (enc := enc) (C := Try.checked) false ⟨#[], #[.slice none 0 0, .slice none 0 0, .int .i64 0], []⟩ 8 (by kernel_rfl) (by kernel_rfl) (by kernel_rfl) (by kernel_rfl)) ?_
  intro W base args ds gs before hval0 hW hcnd _
  have hval : ∀ (j : Nat) t v, Try.f3.params[j]? = some t → args[j]? = some v → Value.okWide Try.prog W .any base t v := hval0
  have hW' := hW
  obtain ⟨p, q, hA0, hV, rfl, hfz, hnd⟩ := hW
  have hA : DataW.TrodAll enc Try.prog W 0 (fun _ => true) true Try.f3.params.toList args.toList ds p := hA0
  rw [Try.params3] at hA hval
  obtain ⟨v0, vs0, d0, ds0, p0, q0, hargs, rfl, rfl, h0, r0⟩ := trodAll_cons hA
  obtain ⟨v1, vs1, d1, ds1, p1, q1, rfl, rfl, rfl, h1, r1⟩ := trodAll_cons r0
  obtain ⟨v2, vs2, d2, ds2, p2, q2, rfl, rfl, rfl, h2, r2⟩ := trodAll_cons r1
  obtain ⟨rfl, rfl, rfl⟩ := trodAll_nil r2
  obtain rfl : args = #[v0, v1, v2] := by cases args; simp_all
  obtain ⟨rfl, rfl⟩ := trodVars_none hV
  obtain ⟨a0, len0, cap0, rfl⟩ := okWide_slice Try.underlying23 (hval 0 23 v0 rfl rfl)
  have k0 := h0
  have lt0 : ∀ x ∈ p0, x.block < W.heap.size := by obtain ⟨m, hm⟩ := k0; exact DataW.trod_lt m _ _ _ hm
  obtain ⟨s0, e0, f0, g0, _⟩ := open_name k0
  obtain ⟨a1, len1, cap1, rfl⟩ := okWide_slice Try.underlying23 (hval 1 23 v1 rfl rfl)
  have k1 := h1
  have lt1 : ∀ x ∈ p1, x.block < W.heap.size := by obtain ⟨m, hm⟩ := k1; exact DataW.trod_lt m _ _ _ hm
  obtain ⟨s1, e1, f1, g1, _⟩ := open_name k1
  obtain ⟨a2, rfl, rfl, rfl, w2⟩ := open_int Try.underlying3 (hval 2 3 v2 rfl rfl) h2
  clear hA0 hval0
  refine (calls_walkN a0 a1 len0 len1 cap0 cap1 a2 s0 s1 W e0 e1 ⟨f0, g0⟩).mono fun e W' ⟨he, bel⟩ => ?_
  subst he
  exact ⟨_, rfl, _, _, _, [], _, [], hW', trodAll_mk1 (shut_bool Try.underlying4 _), (trodAll_cons_mk (Below.trod n_laidOut (by kernel_rfl) (of_decide_eq_true (by kernel_rfl)) k0 bel lt0) (trodAll_cons_mk (Below.trod n_laidOut (by kernel_rfl) (of_decide_eq_true (by kernel_rfl)) k1 bel lt1) (trodAll_cons_mk (shut_int Try.underlying3 w2) trodAll_mk0))), rfl, bel.frame _, fun h => by cases h⟩

theorem name_calls_holds : Rows.NameCallsSaid :=
  OpenClaim.holds_of_wide 3 Try.f3 rfl rfl rfl rfl rfl rfl rfl ⟨rfl, rfl, rfl, rfl, rfl⟩ rfl rfl rfl rfl rfl (by kernel_rfl) Try.func3 (by kernel_rfl)
    (of_decide_eq_true (by kernel_rfl)) (by unfold Func.isWrapper; first | (rw [if_pos (by decide +kernel)]; kernel_rfl) | (rw [if_neg (by decide +kernel)]; exact ⟨rfl, rfl⟩))
    (fun os started H enc _ => calln_lifted os started H enc)
#print axioms name_calls_holds
end Go.Proofs.Ytkbpjaojgkpffaa
