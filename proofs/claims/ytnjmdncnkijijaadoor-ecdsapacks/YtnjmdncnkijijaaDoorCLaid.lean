import Derived.Test.YtnjmdncnkijijaaDoorFLaid
import Derived.Test.YtnjmdncnkijijaaDoorCSumK
import Derived.Test.YtnjmdncnkijijaaDoorDivAny
namespace Go.Proofs.YtnjmdncnkijijaaDoor
open Go.ChangeShapes Go.WideShapes Go.ChangeAt Go.RowKit

end Go.Proofs.YtnjmdncnkijijaaDoor

/- Multiples, bit by bit: what the table of columns holds, and the numbers that a doubling carries on. -/
namespace Go.Proofs.YtnjmdncnkijijaaDoor
open Go.RowKit Go.Sort

namespace EC
end EC

end Go.Proofs.YtnjmdncnkijijaaDoor
