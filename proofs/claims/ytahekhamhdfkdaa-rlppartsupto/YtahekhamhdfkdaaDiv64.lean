import Derived.Test.YtahekhamhdfkdaaLeaf
import Derived.Test.YtahekhamhdfkdaaShelf
import Derived.Test.YtahekhamhdfkdaaTail
import Derived.Test.YtahekhamhdfkdaaNum
import Derived.LoopN
import Derived.Lib.ItoaNum
namespace Go.Proofs.Ytahekhamhdfkdaa
open Go.RowKit

end Go.Proofs.Ytahekhamhdfkdaa
