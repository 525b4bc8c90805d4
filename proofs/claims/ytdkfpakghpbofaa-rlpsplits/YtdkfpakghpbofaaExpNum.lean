import Derived.Test.YtdkfpakghpbofaaRingNum
import Derived.Test.YtdkfpakghpbofaaLen
/- Powers, bit by bit of the exponent. -/
namespace Go.Proofs.Ytdkfpakghpbofaa

end Go.Proofs.Ytdkfpakghpbofaa
