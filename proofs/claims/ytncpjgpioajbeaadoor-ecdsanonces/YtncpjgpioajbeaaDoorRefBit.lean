import Derived.Test.YtncpjgpioajbeaaDoorLen
import Derived.Test.YtncpjgpioajbeaaDoorHold
import Derived.Test.YtncpjgpioajbeaaDoorFNum
namespace Go.Proofs.YtncpjgpioajbeaaDoor
open Go.RowKit

end Go.Proofs.YtncpjgpioajbeaaDoor

namespace Go.Proofs.YtncpjgpioajbeaaDoor
open Go.RowKit

end Go.Proofs.YtncpjgpioajbeaaDoor

namespace Go.Proofs.YtncpjgpioajbeaaDoor
open Go.RowKit Go.Sort

end Go.Proofs.YtncpjgpioajbeaaDoor
