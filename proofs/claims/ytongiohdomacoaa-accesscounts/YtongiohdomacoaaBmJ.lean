import Derived.Test.YtongiohdomacoaaBmN
/- The document's bit. -/
namespace Go.Proofs.Ytongiohdomacoaa
open Go.RowKit Go.Sort

end Go.Proofs.Ytongiohdomacoaa
