import Derived.Test.YtdkfpakghpbofaaUbB
import Derived.Test.YtdkfpakghpbofaaUbC
import Derived.Test.YtdkfpakghpbofaaShelf
import Derived.Deep.OwnRows
import Derived.Laws.CopyOwn
/- Layer 7: the head of a list, as both write it. -/
namespace Go.Proofs.Ytdkfpakghpbofaa
open Go.RowKit Go.Sort

end Go.Proofs.Ytdkfpakghpbofaa
