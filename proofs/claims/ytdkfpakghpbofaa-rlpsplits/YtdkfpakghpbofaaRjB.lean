import Derived.Test.YtdkfpakghpbofaaRjA
/- Layer 7: withHead, the document's before. -/
namespace Go.Proofs.Ytdkfpakghpbofaa
open Go.RowKit Go.Sort

end Go.Proofs.Ytdkfpakghpbofaa
