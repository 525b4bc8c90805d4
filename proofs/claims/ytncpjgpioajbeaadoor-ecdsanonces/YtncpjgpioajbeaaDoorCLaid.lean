import Derived.Test.YtncpjgpioajbeaaDoorFLaid
import Derived.Test.YtncpjgpioajbeaaDoorCSumK
import Derived.Test.YtncpjgpioajbeaaDoorFNum
namespace Go.Proofs.YtncpjgpioajbeaaDoor
open Go.ChangeShapes Go.WideShapes Go.ChangeAt Go.RowKit

end Go.Proofs.YtncpjgpioajbeaaDoor

/- Multiples, bit by bit: what the table of columns holds, and the numbers that a doubling carries on. -/
namespace Go.Proofs.YtncpjgpioajbeaaDoor
open Go.RowKit Go.Sort

namespace EC
end EC

end Go.Proofs.YtncpjgpioajbeaaDoor
