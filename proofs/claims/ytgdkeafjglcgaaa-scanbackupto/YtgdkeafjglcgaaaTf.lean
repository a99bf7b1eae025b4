/- ScanBack: its walk, a text that is too long. -/
import Derived.Test.YtgdkeafjglcgaaaTe
import Derived.Deep.QuietTactic
namespace Go.Proofs.Ytgdkeafjglcgaaa
open Go.ChangeShapes Go.WideShapes Go.ChangeAt Go.RowKit
set_option linter.unusedVariables false
set_option linter.unusedSimpArgs false

set_option maxRecDepth 100000 in
set_option maxHeartbeats 8000000 in
theorem back_long (xa : Option Addr) (n xc : Nat) (es : List En) (s : ByteArray) (w : World) (h : LE w ⟨xa, n, xc⟩ es) (hf : Few es) (hs : 3000 < s.size) :
    Calls Try.prog 4 #[.slice xa n xc, .string s] w fun e w' => e = .returned (.bool true) ∧ Below w.heap.size w w' := by
  have HR : Hid (LE w ⟨xa, n, xc⟩ es) := h
  have HFW : Hid (Few es) := hf
  have hl : es.length = n := h.1.symm
  clear h hf
  have hs1 : (3000 : Int) < (s.size : Int) := by omega
  have K10 := Lib.hid (awake10 w)
  go_enter Try.func4, Try.ntmps4
  go_wp2_with fail
  refine K10.out.mono ?_
  rintro e w1 ⟨rfl, H1⟩
  have K11 := Lib.hid (small11 ⟨xa, n, xc⟩ es w1 (HR.out.below H1.out) HFW.out)
  clear K10
  go_wp2_with fail
  refine K11.out.mono ?_
  rintro e w2 ⟨b, rfl, rfl, hb⟩
  clear K11
  cases b with
  | false =>
    go_wp2_with fail
    go_ret
    exact ⟨rfl, H1.out⟩
  | true =>
    have H30 : Hid (es.length ≤ 30) := hb rfl
    clear hb
    go_wp2_with fail
    go_ret
    exact ⟨rfl, H1.out⟩
end Go.Proofs.Ytgdkeafjglcgaaa
