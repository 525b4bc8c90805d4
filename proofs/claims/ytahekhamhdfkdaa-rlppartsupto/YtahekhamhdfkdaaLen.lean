import Derived.Test.YtahekhamhdfkdaaUpAny
import Derived.Test.YtahekhamhdfkdaaShelf
import Derived.Lib.ItoaNum
import Derived.Test.YtahekhamhdfkdaaNum
namespace Go.Proofs.Ytahekhamhdfkdaa
open Go.RowKit

end Go.Proofs.Ytahekhamhdfkdaa

/- Powers, bit by bit of the exponent. -/
namespace Go.Proofs.Ytahekhamhdfkdaa

end Go.Proofs.Ytahekhamhdfkdaa
