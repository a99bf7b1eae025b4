/- The program's names, first part: size, check, copy, fold, parent, above. -/
import Derived.Test.YtmlccnpondemiaaNp
namespace Go.Proofs.Ytmlccnpondemiaa
open Go.ChangeShapes Go.WideShapes Go.ChangeAt Go.RowKit
set_option linter.unusedVariables false
set_option linter.unusedSimpArgs false




end Go.Proofs.Ytmlccnpondemiaa
