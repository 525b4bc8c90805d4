import Derived.Test.YtecjfddolamknaaSRProd
/- The document's limbs and atMost. -/
namespace Go.Proofs.Ytecjfddolamknaa
open Go.RowKit Go.Sort

end Go.Proofs.Ytecjfddolamknaa
