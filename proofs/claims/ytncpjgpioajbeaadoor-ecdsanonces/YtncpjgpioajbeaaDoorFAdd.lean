import Derived.Test.YtncpjgpioajbeaaDoorFReduce
import Derived.Deep.RegionHeld3
namespace Go.Proofs.YtncpjgpioajbeaaDoor
open Go.RowKit Go.Sort

end Go.Proofs.YtncpjgpioajbeaaDoor
