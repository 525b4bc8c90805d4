import Derived.Test.YtlmlhiookoediaaGetNum
import Derived.Test.YtlmlhiookoediaaVars
import Derived.Test.YtlmlhiookoediaaExpNum
import Derived.Test.YtlmlhiookoediaaRowHold
import Derived.Test.YtlmlhiookoediaaLen
import Derived.Test.YtlmlhiookoediaaCmp
import Derived.Test.YtlmlhiookoediaaTail
import Derived.Test.YtlmlhiookoediaaMulNum
import Derived.Test.YtlmlhiookoediaaOut
import Derived.Test.YtlmlhiookoediaaShl
import Derived.Deep.LoopGhost
namespace Go.Proofs.Ytlmlhiookoediaa
open Go.RowKit

end Go.Proofs.Ytlmlhiookoediaa
