import Derived.Test.YtfhakamheidcnaaDoorFAdd
import Derived.Test.YtfhakamheidcnaaDoorFExp
import Derived.Deep.RegionHeld3
import Derived.Test.YtfhakamheidcnaaDoorFFermat
import Derived.Test.YtfhakamheidcnaaDoorFBin
import Derived.Test.YtfhakamheidcnaaDoorFInv
namespace Go.Proofs.YtfhakamheidcnaaDoor
open Go.RowKit Go.Sort

def rootE (x : Int) : Int := if modN pN (powN pN x qN * powN pN x qN) = modN pN x then 0 else 41
end Go.Proofs.YtfhakamheidcnaaDoor

namespace Go.Proofs.YtfhakamheidcnaaDoor
open Go.RowKit

end Go.Proofs.YtfhakamheidcnaaDoor

namespace Go.Proofs.YtfhakamheidcnaaDoor
open Go.RowKit Go.Sort

end Go.Proofs.YtfhakamheidcnaaDoor
