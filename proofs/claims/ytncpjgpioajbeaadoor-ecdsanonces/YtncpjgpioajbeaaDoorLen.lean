import Derived.Test.YtncpjgpioajbeaaDoorMul2
import Derived.Test.YtncpjgpioajbeaaDoorShelf
import Derived.Lib.ItoaNum
import Derived.Test.YtncpjgpioajbeaaDoorFNum
namespace Go.Proofs.YtncpjgpioajbeaaDoor
open Go.RowKit

end Go.Proofs.YtncpjgpioajbeaaDoor

/- The bits of a number that is moved. -/
namespace Go.Proofs.YtncpjgpioajbeaaDoor

end Go.Proofs.YtncpjgpioajbeaaDoor

/- Powers, bit by bit of the exponent. -/
namespace Go.Proofs.YtncpjgpioajbeaaDoor

end Go.Proofs.YtncpjgpioajbeaaDoor
