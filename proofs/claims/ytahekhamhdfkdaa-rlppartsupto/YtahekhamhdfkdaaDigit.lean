import Derived.Test.YtahekhamhdfkdaaSets
import Derived.Test.YtahekhamhdfkdaaLeaf
import Derived.LoopN
import Derived.BigRegion
import Derived.Test.YtahekhamhdfkdaaDiv64
import Derived.Test.YtahekhamhdfkdaaNum
namespace Go.Proofs.Ytahekhamhdfkdaa
open Go.RowKit

end Go.Proofs.Ytahekhamhdfkdaa
