import Derived.Test.YtdkfpakghpbofaaGet
import Derived.Test.YtdkfpakghpbofaaReduce
import Derived.Test.YtdkfpakghpbofaaRowHold
import Derived.Test.YtdkfpakghpbofaaLen
import Derived.Test.YtdkfpakghpbofaaCmp
import Derived.Test.YtdkfpakghpbofaaTail
import Derived.Test.YtdkfpakghpbofaaMulNum
import Derived.Test.YtdkfpakghpbofaaOut
namespace Go.Proofs.Ytdkfpakghpbofaa
open Go.RowKit

end Go.Proofs.Ytdkfpakghpbofaa
