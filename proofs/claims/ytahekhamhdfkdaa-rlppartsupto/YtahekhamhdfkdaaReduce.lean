import Derived.Test.YtahekhamhdfkdaaDivAny
import Derived.Test.YtahekhamhdfkdaaQTail
import Derived.Test.YtahekhamhdfkdaaCmp
import Derived.Test.YtahekhamhdfkdaaTail
import Derived.Test.YtahekhamhdfkdaaNum
import Derived.Test.YtahekhamhdfkdaaHold
import Derived.Deep.RegionHeld3
namespace Go.Proofs.Ytahekhamhdfkdaa
open Go.RowKit Go.Sort

end Go.Proofs.Ytahekhamhdfkdaa
