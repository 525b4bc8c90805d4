import Derived.Test.YtahekhamhdfkdaaGet
import Derived.Test.YtahekhamhdfkdaaReduce
import Derived.Test.YtahekhamhdfkdaaOut
import Derived.Test.YtahekhamhdfkdaaLen
import Derived.Test.YtahekhamhdfkdaaCmp
import Derived.Test.YtahekhamhdfkdaaTail
import Derived.Test.YtahekhamhdfkdaaNum
namespace Go.Proofs.Ytahekhamhdfkdaa
open Go.RowKit

end Go.Proofs.Ytahekhamhdfkdaa
