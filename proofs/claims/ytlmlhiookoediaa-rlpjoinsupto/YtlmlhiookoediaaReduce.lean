import Derived.Test.YtlmlhiookoediaaDivAny
import Derived.Test.YtlmlhiookoediaaQTail
import Derived.Test.YtlmlhiookoediaaCmp
import Derived.Test.YtlmlhiookoediaaTail
import Derived.Test.YtlmlhiookoediaaMulNum
import Derived.Test.YtlmlhiookoediaaHold
import Derived.Test.YtlmlhiookoediaaRow2
import Derived.Deep.RegionHeld3
namespace Go.Proofs.Ytlmlhiookoediaa
open Go.RowKit Go.Sort

end Go.Proofs.Ytlmlhiookoediaa
