import Derived.Test.YtongiohdomacoaaBmN
/- isSet. -/
namespace Go.Proofs.Ytongiohdomacoaa
open Go.RowKit Go.Sort

end Go.Proofs.Ytongiohdomacoaa
