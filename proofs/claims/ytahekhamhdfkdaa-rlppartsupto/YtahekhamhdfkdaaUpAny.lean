import Derived.Test.YtahekhamhdfkdaaCmp
import Derived.Test.YtahekhamhdfkdaaTail
import Derived.Test.YtahekhamhdfkdaaShiftNum
namespace Go.Proofs.Ytahekhamhdfkdaa
open Go.RowKit

end Go.Proofs.Ytahekhamhdfkdaa

namespace Go.Proofs.Ytahekhamhdfkdaa
open Go.RowKit

end Go.Proofs.Ytahekhamhdfkdaa
