import Derived.Test.YtlmlhiookoediaaCmp
import Derived.Test.YtlmlhiookoediaaTail
import Derived.Test.YtlmlhiookoediaaShiftNum
namespace Go.Proofs.Ytlmlhiookoediaa
open Go.RowKit

end Go.Proofs.Ytlmlhiookoediaa
