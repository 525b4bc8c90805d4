import Derived.Test.YtongiohdomacoaaBmY
import Derived.Great.BuildSlice
import Derived.Great.FillDense
import Derived.Deep.RegionHeld
/- BloomBack. -/
namespace Go.Proofs.Ytongiohdomacoaa
open Go.RowKit Go.Sort

end Go.Proofs.Ytongiohdomacoaa
