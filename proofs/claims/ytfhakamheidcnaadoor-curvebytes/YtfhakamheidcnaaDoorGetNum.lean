import Derived.Test.YtfhakamheidcnaaDoorRowB
import Derived.Test.YtfhakamheidcnaaDoorShiftNum
/- Bytes put into limbs. -/
namespace Go.Proofs.YtfhakamheidcnaaDoor

end Go.Proofs.YtfhakamheidcnaaDoor
