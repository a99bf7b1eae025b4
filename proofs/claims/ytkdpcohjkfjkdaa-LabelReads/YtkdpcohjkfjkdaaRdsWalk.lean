/- The statement's function about which label a text begins with returns true and leaves what was there. -/
import Derived.Test.YtkdpcohjkfjkdaaRpar
namespace Go.Proofs.Ytkdpcohjkfjkdaa
open Go.ChangeShapes Go.WideShapes Go.ChangeAt Go.RowKit
set_option linter.unusedVariables false
set_option linter.unusedSimpArgs false

set_option maxHeartbeats 1000000 in
theorem reads_walk (s : ByteArray) (w : World) (hs : s.size ≤ 9223372036854775807) : Calls Try.prog 4 #[.string s] w fun e w' => e = .returned (.bool true) ∧ Below w.heap.size w w' := by
  by_cases h : 600 < s.size
  · have h' : (600 : Int) < (s.size : Int) := by omega
    go_enter Try.func4, Try.ntmps4
    go_wp2
    go_ret
    exact ⟨rfl, Below.refl _ _⟩
  · have h' : ¬ (600 : Int) < (s.size : Int) := by omega
    go_enter Try.func4, Try.ntmps4
    go_wp2_with fail
    refine (parse_any s _ (by omega)).mono ?_
    rintro e w1 ⟨rfl, H1⟩
    have H2 : Hid (∀ W, Calls Try.prog 18 #[.string s] W (PPost s W)) := fun W => rparse_any s W (by omega)
    unfold PPost at H2
    generalize txt (pres (nums s)).1 = t at *
    generalize (pres (nums s)).2.1 = n at *
    generalize (pres (nums s)).2.2 = k at *
    go_wp2_with fail
    refine (H2.out _).mono ?_
    rintro e w2 ⟨rfl, H3⟩
    go_wp2
    go_ret
    exact ⟨rfl, H1.out.trans (H3.out.mono H1.out.size)⟩
end Go.Proofs.Ytkdpcohjkfjkdaa
