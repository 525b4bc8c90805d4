import Derived.Test.YtfhakamheidcnaaDoorLen
import Derived.Test.YtfhakamheidcnaaDoorDigit
import Derived.Test.YtfhakamheidcnaaDoorAdd
import Derived.Test.YtfhakamheidcnaaDoorHold
import Derived.Deep.RegionWith
import Derived.Test.YtfhakamheidcnaaDoorNum
import Derived.Test.YtfhakamheidcnaaDoorOut
namespace Go.Proofs.YtfhakamheidcnaaDoor
open Go.RowKit

end Go.Proofs.YtfhakamheidcnaaDoor

namespace Go.Proofs.YtfhakamheidcnaaDoor
open Go.RowKit

end Go.Proofs.YtfhakamheidcnaaDoor

namespace Go.Proofs.YtfhakamheidcnaaDoor
open Go.RowKit

end Go.Proofs.YtfhakamheidcnaaDoor

/- A number's bits, as the doublings take them. -/
namespace Go.Proofs.YtfhakamheidcnaaDoor
namespace EC
end EC
end Go.Proofs.YtfhakamheidcnaaDoor

namespace Go.Proofs.YtfhakamheidcnaaDoor
open Go.RowKit Go.Sort

end Go.Proofs.YtfhakamheidcnaaDoor
