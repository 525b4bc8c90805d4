import Derived.Test.YtlmlhiookoediaaLen
import Derived.Test.YtlmlhiookoediaaDigit
import Derived.Test.YtlmlhiookoediaaLift
import Derived.Test.YtlmlhiookoediaaRow2
import Derived.Deep.RegionWith
namespace Go.Proofs.Ytlmlhiookoediaa
open Go.RowKit

end Go.Proofs.Ytlmlhiookoediaa
