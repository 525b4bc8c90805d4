import Derived.Test.YtjlijohdobknoaaDoorFReduce
import Derived.Deep.RegionHeld3
namespace Go.Proofs.YtjlijohdobknoaaDoor
open Go.RowKit Go.Sort

end Go.Proofs.YtjlijohdobknoaaDoor
