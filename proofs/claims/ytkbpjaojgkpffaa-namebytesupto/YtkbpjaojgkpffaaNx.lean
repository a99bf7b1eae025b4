/- The program's calls about names, but for the reading of bytes. -/
import Derived.Test.YtkbpjaojgkpffaaNxb
import Derived.Test.YtkbpjaojgkpffaaNxe
import Derived.Test.YtkbpjaojgkpffaaNxg
import Derived.Test.YtkbpjaojgkpffaaNxh
import Derived.Test.YtkbpjaojgkpffaaNxi
import Derived.Test.YtkbpjaojgkpffaaNxk
