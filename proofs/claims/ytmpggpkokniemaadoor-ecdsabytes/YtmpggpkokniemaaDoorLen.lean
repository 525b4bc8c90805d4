import Derived.Test.YtmpggpkokniemaaDoorUp
import Derived.Test.YtmpggpkokniemaaDoorShelf
import Derived.Lib.ItoaNum
import Derived.Test.YtmpggpkokniemaaDoorLongNum
namespace Go.Proofs.YtmpggpkokniemaaDoor
open Go.RowKit

end Go.Proofs.YtmpggpkokniemaaDoor

/- Powers, bit by bit of the exponent. -/
namespace Go.Proofs.YtmpggpkokniemaaDoor

end Go.Proofs.YtmpggpkokniemaaDoor

/- The bits of a number that is moved. -/
namespace Go.Proofs.YtmpggpkokniemaaDoor

end Go.Proofs.YtmpggpkokniemaaDoor
