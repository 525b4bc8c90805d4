import Derived.Test.YtdkfpakghpbofaaRowB
import Derived.Test.YtdkfpakghpbofaaLen
import Derived.Deep.LoopGhost
namespace Go.Proofs.Ytdkfpakghpbofaa
open Go.RowKit

end Go.Proofs.Ytdkfpakghpbofaa
