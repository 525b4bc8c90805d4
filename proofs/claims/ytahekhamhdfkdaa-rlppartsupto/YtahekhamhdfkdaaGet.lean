import Derived.Test.YtahekhamhdfkdaaRowB
import Derived.Test.YtahekhamhdfkdaaOut
import Derived.Test.YtahekhamhdfkdaaLen
import Derived.Test.YtahekhamhdfkdaaCmp
import Derived.Test.YtahekhamhdfkdaaTail
import Derived.Test.YtahekhamhdfkdaaNum
import Derived.Test.YtahekhamhdfkdaaUpAny
import Derived.Deep.LoopGhost
namespace Go.Proofs.Ytahekhamhdfkdaa
open Go.RowKit

end Go.Proofs.Ytahekhamhdfkdaa

namespace Go.Proofs.Ytahekhamhdfkdaa
open Go.RowKit

end Go.Proofs.Ytahekhamhdfkdaa
