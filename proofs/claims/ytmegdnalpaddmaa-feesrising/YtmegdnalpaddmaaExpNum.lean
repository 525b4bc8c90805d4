import Derived.Test.YtmegdnalpaddmaaDigitNum
import Derived.Test.YtmegdnalpaddmaaLen
import Derived.Test.YtmegdnalpaddmaaShl
/- Powers, bit by bit of the exponent. -/
namespace Go.Proofs.Ytmegdnalpaddmaa

end Go.Proofs.Ytmegdnalpaddmaa

/- The bits of a number that is moved. -/
namespace Go.Proofs.Ytmegdnalpaddmaa

end Go.Proofs.Ytmegdnalpaddmaa

/- The whole part of the square root, by Newton's steps from above. -/
namespace Go.Proofs.Ytmegdnalpaddmaa

end Go.Proofs.Ytmegdnalpaddmaa
