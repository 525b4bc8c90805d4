import Derived.Test.YtecjfddolamknaaSRRow
import Derived.Test.YtecjfddolamknaaTail
/- The document's product of rows of 16-bit digits. -/
namespace Go.Proofs.Ytecjfddolamknaa
open Go.RowKit Go.Sort

end Go.Proofs.Ytecjfddolamknaa
