import Derived.Test.YtmpggpkokniemaaDoorDivAny
import Derived.Test.YtmpggpkokniemaaDoorQTail
import Derived.Test.YtmpggpkokniemaaDoorAdd
import Derived.Test.YtmpggpkokniemaaDoorTail
import Derived.Test.YtmpggpkokniemaaDoorNum
import Derived.Test.YtmpggpkokniemaaDoorHold
import Derived.Deep.RegionHeld3
namespace Go.Proofs.YtmpggpkokniemaaDoor
open Go.RowKit Go.Sort

end Go.Proofs.YtmpggpkokniemaaDoor
