/- Appends that fit. -/
import Derived.Test.YtmlccnpondemiaaNxh
import Derived.Test.YtmlccnpondemiaaKb
import Derived.Test.YtmlccnpondemiaaTm
import Derived.Test.YtmlccnpondemiaaNum
namespace Go.Proofs.Ytmlccnpondemiaa
end Go.Proofs.Ytmlccnpondemiaa
