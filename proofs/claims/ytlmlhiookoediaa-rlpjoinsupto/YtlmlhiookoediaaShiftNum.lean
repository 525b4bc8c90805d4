import Derived.Test.YtlmlhiookoediaaMulNum
import Derived.WalkKit
/- Shifts of a number of four limbs. -/
namespace Go.Proofs.Ytlmlhiookoediaa
open Go.RowKit

end Go.Proofs.Ytlmlhiookoediaa
