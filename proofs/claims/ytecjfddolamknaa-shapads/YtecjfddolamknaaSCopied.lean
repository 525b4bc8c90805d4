import Derived.Test.YtecjfddolamknaaSBase
namespace Go.Proofs.Ytecjfddolamknaa
open Go.RowKit Go.Sort

end Go.Proofs.Ytecjfddolamknaa
