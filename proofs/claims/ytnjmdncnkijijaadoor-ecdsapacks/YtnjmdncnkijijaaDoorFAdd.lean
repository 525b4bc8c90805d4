import Derived.Test.YtnjmdncnkijijaaDoorFReduce
import Derived.Deep.RegionHeld3
namespace Go.Proofs.YtnjmdncnkijijaaDoor
open Go.RowKit Go.Sort

end Go.Proofs.YtnjmdncnkijijaaDoor
