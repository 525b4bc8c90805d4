import Derived.Test.YtdkfpakghpbofaaShl
import Derived.Test.YtdkfpakghpbofaaShelf
import Derived.Lib.ItoaNum
namespace Go.Proofs.Ytdkfpakghpbofaa
open Go.RowKit

end Go.Proofs.Ytdkfpakghpbofaa
