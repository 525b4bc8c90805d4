import Derived.Test.YtecjfddolamknaaSRRoots
import Derived.Test.YtecjfddolamknaaSComp
/- The document's turned and word; what the words of a block are. -/
namespace Go.Proofs.Ytecjfddolamknaa
open Go.RowKit Go.Sort

end Go.Proofs.Ytecjfddolamknaa
