import Derived.Test.YtmpggpkokniemaaDoorFLaid
import Derived.Test.YtmpggpkokniemaaDoorCSumK
import Derived.Test.YtmpggpkokniemaaDoorDivAny
namespace Go.Proofs.YtmpggpkokniemaaDoor
open Go.ChangeShapes Go.WideShapes Go.ChangeAt Go.RowKit

end Go.Proofs.YtmpggpkokniemaaDoor

/- Multiples, bit by bit: what the table of columns holds, and the numbers that a doubling carries on. -/
namespace Go.Proofs.YtmpggpkokniemaaDoor
open Go.RowKit Go.Sort

namespace EC
end EC

end Go.Proofs.YtmpggpkokniemaaDoor
