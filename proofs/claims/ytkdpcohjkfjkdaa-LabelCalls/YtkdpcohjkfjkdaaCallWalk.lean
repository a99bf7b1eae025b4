/- The statement's function about how labels are folded, compared and written returns true and leaves what was there. -/
import Derived.Test.YtkdpcohjkfjkdaaRtxt
import Derived.Test.YtkdpcohjkfjkdaaPar
namespace Go.Proofs.Ytkdpcohjkfjkdaa
open Go.ChangeShapes Go.WideShapes Go.ChangeAt Go.RowKit
set_option linter.unusedVariables false
set_option linter.unusedSimpArgs false

set_option maxHeartbeats 400000 in
theorem star_any (s : ByteArray) (w : World) : Calls Try.prog 16 #[.string s] w fun e w' => e = .returned (.bool (s.toList == [42])) ∧ w' = w := by
  go_enter Try.func16, Try.ntmps16
  go_wp2
  go_ret
  exact ⟨rfl, rfl⟩

set_option maxRecDepth 100000 in
set_option maxHeartbeats 2000000 in
theorem calls_walk (a b : ByteArray) (w : World) (ha : a.size ≤ 9223372036854775807) (hb : b.size ≤ 9223372036854775807) :
    Calls Try.prog 3 #[.string a, .string b] w fun e w' => e = .returned (.bool true) ∧ Below w.heap.size w w' := by
  by_cases hl : 400 < a.size ∨ 400 < b.size
  · have hl' : (400 : Int) < (a.size : Int) ∨ (¬ (400 : Int) < (a.size : Int) ∧ (400 : Int) < (b.size : Int)) := by omega
    clear hl
    rcases hl' with h1 | ⟨h1, h2⟩
    all_goals
      go_enter Try.func3, Try.ntmps3
      go_wp2
      go_ret
      exact ⟨rfl, Below.refl _ _⟩
  · have h1 : ¬ (400 : Int) < (a.size : Int) := by omega
    have h2 : ¬ (400 : Int) < (b.size : Int) := by omega
    have K1 : Hid (∀ W, Calls Try.prog 7 #[.string a] W fun e w' => e = .returned (.int .i64 (chk a.size)) ∧ w' = W) := fun W => chk_any a W ha
    have K2 : Hid (∀ W, Calls Try.prog 8 #[.string a] W fun e w' => e = .returned (.int .i64 (chk a.size)) ∧ w' = W) := fun W => rchk_any a W ha
    have K3 : Hid (∀ W, Calls Try.prog 9 #[.string a] W fun e w' => e = .returned (.string (fb a)) ∧ Hid (Below W.heap.size W w')) := fun W => fold_any a W ha
    have K4 : Hid (∀ W, Calls Try.prog 10 #[.string a] W fun e w' => e = .returned (.string (fb a)) ∧ Hid (Below W.heap.size W w')) := fun W => rfold_any a W (by omega)
    have K5 : Hid (∀ W, Calls Try.prog 11 #[.string a, .string b] W fun e w' => e = .returned (.bool (cmp a b == 0)) ∧ Hid (Below W.heap.size W w')) := fun W => same_any a b W ha hb
    have K6 : Hid (∀ W, Calls Try.prog 12 #[.string a, .string b] W fun e w' => e = .returned (.int .i64 (cmp a b)) ∧ Hid (Below W.heap.size W w')) := fun W => rcompare_any a b W (by omega) (by omega)
    have K7 : Hid (∀ W, Calls Try.prog 13 #[.string a, .string b] W fun e w' => e = .returned (.int .i64 (cmp a b)) ∧ Hid (Below W.heap.size W w')) := fun W => compare_any a b W ha hb
    have K8 : Hid (∀ W, Calls Try.prog 14 #[.string a] W fun e w' => e = .returned (.string ⟨(txt (tx (nums a))).toArray⟩) ∧ Hid (Below W.heap.size W w')) := fun W => text_any a W (by omega)
    have K9 : Hid (∀ W, Calls Try.prog 15 #[.string a] W fun e w' => e = .returned (.string ⟨(txt (tx (nums a))).toArray⟩) ∧ Hid (Below W.heap.size W w')) := fun W => rtext_any a W (by omega)
    clear hl
    generalize chk a.size = ck at *
    generalize fb a = fa at *
    generalize cmp a b = x at *
    generalize txt (tx (nums a)) = tt at *
    go_enter Try.func3, Try.ntmps3
    go_wp2_with fail
    refine (K1.out _).mono ?_
    rintro e w1 ⟨rfl, rfl⟩
    go_wp2_with fail
    refine (K2.out _).mono ?_
    rintro e w2 ⟨rfl, rfl⟩
    go_wp2_with fail
    refine (K3.out _).mono ?_
    rintro e w3 ⟨rfl, B3⟩
    go_wp2_with fail
    refine (K4.out _).mono ?_
    rintro e w4 ⟨rfl, B4⟩
    go_wp2_with fail
    refine (K5.out _).mono ?_
    rintro e w5 ⟨rfl, B5⟩
    go_wp2_with fail
    refine (K6.out _).mono ?_
    rintro e w6 ⟨rfl, B6⟩
    go_wp2_with fail
    refine (K7.out _).mono ?_
    rintro e w7 ⟨rfl, B7⟩
    go_wp2_with fail
    refine (K6.out _).mono ?_
    rintro e w8 ⟨rfl, B8⟩
    go_wp2_with fail
    refine (K8.out _).mono ?_
    rintro e w9 ⟨rfl, B9⟩
    go_wp2_with fail
    refine (K9.out _).mono ?_
    rintro e w10 ⟨rfl, B10⟩
    have B : Hid (Below w2.heap.size w2 w10) := by
      have s3 := B3.out.size; have s4 := B4.out.size; have s5 := B5.out.size; have s6 := B6.out.size; have s7 := B7.out.size; have s8 := B8.out.size; have s9 := B9.out.size
      exact (((((((B3.out.trans (B4.out.mono (by omega))).trans (B5.out.mono (by omega))).trans (B6.out.mono (by omega))).trans (B7.out.mono (by omega))).trans (B8.out.mono (by omega))).trans (B9.out.mono (by omega))).trans (B10.out.mono (by omega)))
    clear B3 B4 B5 B6 B7 B8 B9 B10 K1 K2 K3 K4 K5 K6 K7 K8 K9
    go_wp2_with fail
    refine (star_any a _).mono ?_
    rintro e w11 ⟨rfl, rfl⟩
    by_cases hq : a.toList = [42]
    · go_wp2
      go_ret
      exact ⟨rfl, B.out⟩
    · go_wp2
      go_ret
      exact ⟨rfl, B.out⟩
end Go.Proofs.Ytkdpcohjkfjkdaa
