import Derived.Test.YtdkfpakghpbofaaUbA
/- Layer 1: the document's Bytes. -/
namespace Go.Proofs.Ytdkfpakghpbofaa
open Go.RowKit

end Go.Proofs.Ytdkfpakghpbofaa
