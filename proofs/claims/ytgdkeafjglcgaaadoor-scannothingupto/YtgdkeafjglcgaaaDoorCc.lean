/- strings.ContainsAny of a remark with the three bytes, and the law's plain. -/
import Derived.Test.YtgdkeafjglcgaaaDoorCb
namespace Go.Proofs.YtgdkeafjglcgaaaDoor
open Go.ChangeShapes Go.WideShapes Go.ChangeAt Go.RowKit
set_option linter.unusedVariables false
set_option linter.unusedSimpArgs false

theorem idxAny_neg (ch : List UInt8) : ∀ l : List UInt8, Lib.indexAny l ch < 0 → ∀ x ∈ l, ch.contains x = false
  | [], _, x, hx => by cases hx
  | b :: l, h, x, hx => by
    have hg := Lib.indexAny_ge ch l
    have ih := idxAny_neg ch l
    unfold Lib.indexAny at h
    cases hb : ch.contains b with
    | true => rw [hb] at h; simp at h
    | false =>
      rw [hb] at h
      simp only [Bool.false_eq_true, if_false] at h
      have h2 : Lib.indexAny l ch < 0 := by
        split at h
        · rename_i h1; simp at h1; omega
        · omega
      rcases List.mem_cons.1 hx with rfl | hx
      · exact hb
      · exact ih h2 x hx
theorem any28 (s : ByteArray) (w : World) (hs : s.size < 4294967281) : Calls Tryd.prog 28 #[.string s, .string C3] w fun e w' => ∃ z : Int, e = .returned (.int .i64 z) ∧ (z < 0 → ∀ x ∈ s.data.toList, x ≠ 10) ∧ Below w.heap.size w w' := by
  by_cases h8 : s.size ≤ 8
  · exact any28_short s w h8
  · refine (Tryd.strings_IndexAny_long (fun w => by kernel_rfl) s C3 w (by decide) (by omega) hs (by decide) ?_).mono ?_
    · intro j b hb
      have : b ∈ [10, 34, 92] := List.mem_of_getElem? hb
      simp at this
      rcases this with rfl | rfl | rfl <;> decide
    · rintro e w' ⟨rfl, rfl⟩
      refine ⟨_, rfl, fun h x hx h10 => ?_, ((Below.refl _ _).alloc (Nat.le_refl _) _).alloc (by simp) _⟩
      have := idxAny_neg _ _ h x hx
      subst h10
      revert this; decide
theorem has14 (s : ByteArray) (w : World) (hs : s.size < 4294967281) : Calls Tryd.prog 14 #[.string s, .string C3] w fun e w' => ∃ b : Bool, e = .returned (.bool b) ∧ (b = false → ∀ x ∈ s.data.toList, x ≠ 10) ∧ Below w.heap.size w w' := by
  have K := Lib.hid (any28 s w hs)
  go_enter Tryd.func14, Tryd.ntmps14
  go_wp2_with fail
  refine K.out.mono ?_
  rintro e w1 ⟨z, rfl, hz, hb⟩
  have HZ := Lib.hid hz
  clear hz
  go_wp2_with fail
  go_ret
  exact ⟨_, rfl, fun h => HZ.out (by simpa using h), hb⟩
theorem plain6 (s : ByteArray) (w : World) (hs : s.size < 4294967281) : Calls Tryd.prog 6 #[.string s] w fun e w' => ∃ b : Bool, e = .returned (.bool b) ∧ (b = true → (∀ x ∈ s.data.toList, x ≠ 10) ∧ s.size ≤ 300) ∧ Below w.heap.size w w' := by
  have K := Lib.hid (has14 s w hs)
  unfold C3 at K
  go_enter Tryd.func6, Tryd.ntmps6
  go_wp2_with fail
  refine K.out.mono ?_
  rintro e w1 ⟨b, rfl, hz, hb⟩
  have HZ := Lib.hid hz
  clear hz
  cases b with
  | true =>
    go_wp2_with fail
    go_ret
    exact ⟨_, rfl, fun h => absurd h (by simp), hb⟩
  | false =>
    go_wp2_with fail
    go_ret
    exact ⟨_, rfl, fun h => ⟨HZ.out trivial, by simp at h; omega⟩, hb⟩
end Go.Proofs.YtgdkeafjglcgaaaDoor
