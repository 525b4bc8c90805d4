import Derived.Test.YtahekhamhdfkdaaLen
import Derived.Test.YtahekhamhdfkdaaDigit
import Derived.Test.YtahekhamhdfkdaaCmp
import Derived.Test.YtahekhamhdfkdaaHold
import Derived.Deep.RegionWith
import Derived.Test.YtahekhamhdfkdaaNum
namespace Go.Proofs.Ytahekhamhdfkdaa
open Go.RowKit

end Go.Proofs.Ytahekhamhdfkdaa

namespace Go.Proofs.Ytahekhamhdfkdaa
open Go.RowKit

end Go.Proofs.Ytahekhamhdfkdaa
