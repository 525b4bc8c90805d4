import Derived.Test.YtongiohdomacoaaBmA
/- Filters as sets of bits. -/
namespace Go.Proofs.Ytongiohdomacoaa
open Go.RowKit Go.Sort

end Go.Proofs.Ytongiohdomacoaa
