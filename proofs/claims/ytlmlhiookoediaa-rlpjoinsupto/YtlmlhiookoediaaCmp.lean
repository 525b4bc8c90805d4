import Derived.Test.YtlmlhiookoediaaLeaf
import Derived.LoopN
import Derived.BigRegion
import Derived.Deep.RegionWith
namespace Go.Proofs.Ytlmlhiookoediaa
open Go.RowKit

end Go.Proofs.Ytlmlhiookoediaa
