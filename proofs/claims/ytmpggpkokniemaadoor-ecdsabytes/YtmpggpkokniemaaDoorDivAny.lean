import Derived.Test.YtmpggpkokniemaaDoorLen
import Derived.Test.YtmpggpkokniemaaDoorDigit
import Derived.Test.YtmpggpkokniemaaDoorAdd
import Derived.Test.YtmpggpkokniemaaDoorHold
import Derived.Deep.RegionWith
import Derived.Test.YtmpggpkokniemaaDoorNum
namespace Go.Proofs.YtmpggpkokniemaaDoor
open Go.RowKit

end Go.Proofs.YtmpggpkokniemaaDoor

namespace Go.Proofs.YtmpggpkokniemaaDoor
open Go.RowKit

end Go.Proofs.YtmpggpkokniemaaDoor

namespace Go.Proofs.YtmpggpkokniemaaDoor
open Go.RowKit

end Go.Proofs.YtmpggpkokniemaaDoor

/- A number's bits, as the doublings take them. -/
namespace Go.Proofs.YtmpggpkokniemaaDoor
namespace EC
end EC
end Go.Proofs.YtmpggpkokniemaaDoor

namespace Go.Proofs.YtmpggpkokniemaaDoor
open Go.RowKit Go.Sort

end Go.Proofs.YtmpggpkokniemaaDoor
