/- Proved: for any two names and any text the statement's function about names as texts returns true, and each argument reads as before. No condition. -/
import Derived.Test.YtkbpjaojgkpffaaOpn
import Derived.Test.YtkbpjaojgkpffaaTextN
namespace Go.Proofs.Ytkbpjaojgkpffaa
open Go.ChangeShapes Go.WideShapes Go.ChangeAt Go.RowKit
open Go.ChangeMaps (open_string shut_string)
set_option linter.unusedVariables false

set_option maxRecDepth 100000 in
set_option maxHeartbeats 4000000 in
theorem texts_walkN (a b : Option Addr) (n m c1 c2 : Nat) (ss og : List ByteArray) (s : ByteArray) (w : World) (hs : Arg w a n ss) (ht : Arg w b m og) (hz : s.size ≤ 9223372036854775807) :
    Calls Try.prog 4 #[.slice a n c1, .string s, .slice b m c2] w fun e w' => e = .returned (.bool true) ∧ Below w.heap.size w w' := by
  have K1 := hs.few c1
  have K2 := ht.few c2
  by_cases h1 : fewB ss
  · replace K1 : Hid (Calls Try.prog 9 #[.slice a n c1] w fun e w' => e = .returned (.bool true) ∧ w' = w) := by rw [decide_eq_true h1] at K1; exact K1
    by_cases h2 : fewB og
    · replace K2 : Hid (Calls Try.prog 9 #[.slice b m c2] w fun e w' => e = .returned (.bool true) ∧ w' = w) := by rw [decide_eq_true h2] at K2; exact K2
      by_cases h3 : s.size ≤ 1500
      · exact texts_mainN a b n m c1 c2 ss og s w (few_nm hs.rd hs.len h1) (few_nm ht.rd ht.len h2) h3 K1 K2
      · clear hs ht h1 h2
        have h4 : (1500 : Int) < (s.size : Int) := by omega
        go_enter Try.func4, Try.ntmps4
        go_wp2_with fail
        refine K1.out.mono ?_
        rintro e w1 ⟨rfl, rfl⟩
        go_wp2_with fail
        refine K2.out.mono ?_
        rintro e w1 ⟨rfl, rfl⟩
        go_wp2
        go_ret
        exact ⟨rfl, Below.refl _ _⟩
    · replace K2 : Hid (Calls Try.prog 9 #[.slice b m c2] w fun e w' => e = .returned (.bool false) ∧ w' = w) := by rw [decide_eq_false h2] at K2; exact K2
      clear hs ht h1 h2
      go_enter Try.func4, Try.ntmps4
      go_wp2_with fail
      refine K1.out.mono ?_
      rintro e w1 ⟨rfl, rfl⟩
      go_wp2_with fail
      refine K2.out.mono ?_
      rintro e w1 ⟨rfl, rfl⟩
      go_wp2
      go_ret
      exact ⟨rfl, Below.refl _ _⟩
  · replace K1 : Hid (Calls Try.prog 9 #[.slice a n c1] w fun e w' => e = .returned (.bool false) ∧ w' = w) := by rw [decide_eq_false h1] at K1; exact K1
    clear K2 hs ht h1
    go_enter Try.func4, Try.ntmps4
    go_wp2_with fail
    refine K1.out.mono ?_
    rintro e w1 ⟨rfl, rfl⟩
    go_wp2
    go_ret
    exact ⟨rfl, Below.refl _ _⟩

set_option maxRecDepth 100000 in
theorem textn_lifted (os : Os) (started : os.Started) (H : Type) (enc : TypeId × Value → H) :
    ReturnsInHanded {} Try.checked os 4 .any (Rows.nameTextsSpec.pre6 enc Try.prog Try.f4 Rows.nameTextsRow.domain false) (Rows.nameTextsSpec.post enc Try.prog Try.f4 false true false false) := by
  refine returnsInHanded_of_change (C := Try.checked) n_own started (by kernel_rfl) Try.func4
    (ChangeSpec.witness6 (enc := enc) (C := Try.checked) false ⟨#[], #[.slice none 0 0, .string .empty, .slice none 0 0], []⟩ 8 (by kernel_rfl) (by kernel_rfl) (by kernel_rfl) (by kernel_rfl)) ?_
  intro W base args ds gs before hval0 hW hcnd _
  have hval : ∀ (j : Nat) t v, Try.f4.params[j]? = some t → args[j]? = some v → Value.okWide Try.prog W .any base t v := hval0
  have hW' := hW
  obtain ⟨p, q, hA0, hV, rfl, hfz, hnd⟩ := hW
  have hA : DataW.TrodAll enc Try.prog W 0 (fun _ => true) true Try.f4.params.toList args.toList ds p := hA0
  rw [Try.params4] at hA hval
  obtain ⟨v0, vs0, d0, ds0, p0, q0, hargs, rfl, rfl, h0, r0⟩ := trodAll_cons hA
  obtain ⟨v1, vs1, d1, ds1, p1, q1, rfl, rfl, rfl, h1, r1⟩ := trodAll_cons r0
  obtain ⟨v2, vs2, d2, ds2, p2, q2, rfl, rfl, rfl, h2, r2⟩ := trodAll_cons r1
  obtain ⟨rfl, rfl, rfl⟩ := trodAll_nil r2
  obtain rfl : args = #[v0, v1, v2] := by cases args; simp_all
  obtain ⟨rfl, rfl⟩ := trodVars_none hV
  obtain ⟨a0, len0, cap0, rfl⟩ := okWide_slice Try.underlying23 (hval 0 23 v0 rfl rfl)
  have k0 := h0
  have lt0 : ∀ x ∈ p0, x.block < W.heap.size := by obtain ⟨m, hm⟩ := k0; exact DataW.trod_lt m _ _ _ hm
  obtain ⟨s0, e0, f0, g0, _⟩ := open_name k0
  obtain ⟨a1, rfl, rfl, rfl, w1⟩ := open_string Try.underlying9 (hval 1 9 v1 rfl rfl) h1
  obtain ⟨a2, len2, cap2, rfl⟩ := okWide_slice Try.underlying23 (hval 2 23 v2 rfl rfl)
  have k2 := h2
  have lt2 : ∀ x ∈ p2, x.block < W.heap.size := by obtain ⟨m, hm⟩ := k2; exact DataW.trod_lt m _ _ _ hm
  obtain ⟨s2, e2, f2, g2, _⟩ := open_name k2
  clear hA0 hval0
  refine (texts_walkN a0 a2 len0 len2 cap0 cap2 s0 s2 a1 W e0 e2 (by simp only [maxLen] at w1; omega)).mono fun e W' ⟨he, bel⟩ => ?_
  subst he
  exact ⟨_, rfl, _, _, _, [], _, [], hW', trodAll_mk1 (shut_bool Try.underlying4 _), (trodAll_cons_mk (Below.trod n_laidOut (by kernel_rfl) (of_decide_eq_true (by kernel_rfl)) k0 bel lt0) (trodAll_cons_mk (shut_string Try.underlying9 w1) (trodAll_cons_mk (Below.trod n_laidOut (by kernel_rfl) (of_decide_eq_true (by kernel_rfl)) k2 bel lt2) trodAll_mk0))), rfl, bel.frame _, fun h => by cases h⟩

theorem name_texts_holds : Rows.NameTextsSaid :=
  OpenClaim.holds_of_wide 4 Try.f4 rfl rfl rfl rfl rfl rfl rfl ⟨rfl, rfl, rfl, rfl, rfl⟩ rfl rfl rfl rfl rfl (by kernel_rfl) Try.func4 (by kernel_rfl)
    (of_decide_eq_true (by kernel_rfl)) (by unfold Func.isWrapper; first | (rw [if_pos (by decide +kernel)]; kernel_rfl) | (rw [if_neg (by decide +kernel)]; exact ⟨rfl, rfl⟩))
    (fun os started H enc _ => textn_lifted os started H enc)
#print axioms name_texts_holds
end Go.Proofs.Ytkbpjaojgkpffaa
