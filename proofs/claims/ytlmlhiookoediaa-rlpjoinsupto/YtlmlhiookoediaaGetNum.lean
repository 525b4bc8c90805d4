import Derived.Test.YtlmlhiookoediaaRowB
import Derived.Test.YtlmlhiookoediaaShiftNum
/- Bytes put into limbs. -/
namespace Go.Proofs.Ytlmlhiookoediaa

end Go.Proofs.Ytlmlhiookoediaa
