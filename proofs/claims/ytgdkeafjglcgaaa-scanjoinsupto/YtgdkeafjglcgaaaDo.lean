/- ScanJoins, whole. -/
import Derived.Test.YtgdkeafjglcgaaaDn
import Derived.Test.YtgdkeafjglcgaaaDj
import Derived.Test.YtgdkeafjglcgaaaDl
namespace Go.Proofs.Ytgdkeafjglcgaaa
open Go.ChangeShapes Go.WideShapes Go.ChangeAt Go.RowKit
theorem joins_all (xa : Option Addr) (n xc : Nat) (es : List En) (w : World) (h : LE w ⟨xa, n, xc⟩ es) (hf : Few es) :
    Calls Try.prog 3 #[.slice xa n xc] w fun e w' => e = .returned (.bool true) ∧ Below w.heap.size w w' :=
  joinsL xa n xc es w h hf (fun W hW => rjoin8 xa n xc es W hW (fun e he v hv => Nat.le_trans ((hf.2 e he).2 v hv) (by omega)) alone44)
end Go.Proofs.Ytgdkeafjglcgaaa
