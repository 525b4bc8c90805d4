import Derived.Test.YtagcbcmbojggkaaDoorFReduce
import Derived.Deep.RegionHeld3
namespace Go.Proofs.YtagcbcmbojggkaaDoor
open Go.RowKit Go.Sort

end Go.Proofs.YtagcbcmbojggkaaDoor
