import Derived.Test.YtahekhamhdfkdaaGetNum
import Derived.Test.YtahekhamhdfkdaaOut
import Derived.Test.YtahekhamhdfkdaaLen
import Derived.Test.YtahekhamhdfkdaaCmp
import Derived.Test.YtahekhamhdfkdaaTail
import Derived.Test.YtahekhamhdfkdaaNum
import Derived.Test.YtahekhamhdfkdaaUpAny
import Derived.Deep.LoopGhost
import Derived.Test.YtahekhamhdfkdaaRowB
namespace Go.Proofs.Ytahekhamhdfkdaa
open Go.RowKit

end Go.Proofs.Ytahekhamhdfkdaa

namespace Go.Proofs.Ytahekhamhdfkdaa
open Go.RowKit

end Go.Proofs.Ytahekhamhdfkdaa
