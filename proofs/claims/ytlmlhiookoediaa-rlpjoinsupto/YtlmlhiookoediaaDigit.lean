import Derived.Test.YtlmlhiookoediaaSets
import Derived.Test.YtlmlhiookoediaaLeaf
import Derived.LoopN
import Derived.BigRegion
import Derived.Test.YtlmlhiookoediaaDiv64
import Derived.Test.YtlmlhiookoediaaDigitNum
namespace Go.Proofs.Ytlmlhiookoediaa
open Go.RowKit

end Go.Proofs.Ytlmlhiookoediaa
