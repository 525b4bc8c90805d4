import Derived.Test.YtongiohdomacoaaBmY
import Derived.Test.YtongiohdomacoaaBmJ
import Derived.Test.YtongiohdomacoaaBmA
import Derived.Test.YtongiohdomacoaaQTail
/- The document's Within, Bits, Count, Union. -/
namespace Go.Proofs.Ytongiohdomacoaa
open Go.RowKit Go.Sort

end Go.Proofs.Ytongiohdomacoaa
