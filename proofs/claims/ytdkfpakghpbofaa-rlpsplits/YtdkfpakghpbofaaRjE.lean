import Derived.Test.YtdkfpakghpbofaaRjD
/- Layer 7: the program's Join. -/
namespace Go.Proofs.Ytdkfpakghpbofaa
open Go.RowKit Go.Sort

end Go.Proofs.Ytdkfpakghpbofaa
