import Derived.Test.YtecjfddolamknaaSRLim
/- The document's bits: roots by halving. -/
namespace Go.Proofs.Ytecjfddolamknaa
open Go.RowKit Go.Sort

end Go.Proofs.Ytecjfddolamknaa
