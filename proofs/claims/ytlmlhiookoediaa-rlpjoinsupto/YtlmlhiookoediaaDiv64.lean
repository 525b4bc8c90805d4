import Derived.Test.YtlmlhiookoediaaLeaf
import Derived.Test.YtlmlhiookoediaaShelf
import Derived.Test.YtlmlhiookoediaaTail
import Derived.Test.YtlmlhiookoediaaDivNum
import Derived.LoopN
import Derived.Lib.ItoaNum
namespace Go.Proofs.Ytlmlhiookoediaa
open Go.RowKit

end Go.Proofs.Ytlmlhiookoediaa
