import Derived.Test.YtlmlhiookoediaaRingNum
import Derived.Test.YtlmlhiookoediaaLen
/- Powers, bit by bit of the exponent. -/
namespace Go.Proofs.Ytlmlhiookoediaa

end Go.Proofs.Ytlmlhiookoediaa
