import Derived.Test.YtdkfpakghpbofaaUpAny
import Derived.Test.YtdkfpakghpbofaaShelf
import Derived.Lib.ItoaNum
import Derived.Test.YtdkfpakghpbofaaMulNum
namespace Go.Proofs.Ytdkfpakghpbofaa
open Go.RowKit

end Go.Proofs.Ytdkfpakghpbofaa

/- Powers, bit by bit of the exponent. -/
namespace Go.Proofs.Ytdkfpakghpbofaa

end Go.Proofs.Ytdkfpakghpbofaa
