import Derived.Test.YtmpggpkokniemaaDoorFReduce
import Derived.Deep.RegionHeld3
namespace Go.Proofs.YtmpggpkokniemaaDoor
open Go.RowKit Go.Sort

end Go.Proofs.YtmpggpkokniemaaDoor
