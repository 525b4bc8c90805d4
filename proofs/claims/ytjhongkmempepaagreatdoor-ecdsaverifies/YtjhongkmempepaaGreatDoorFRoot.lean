import Derived.Test.YtjhongkmempepaaGreatDoorFAdd
import Derived.Test.YtjhongkmempepaaGreatDoorFExp
import Derived.Test.YtjhongkmempepaaGreatDoorFFermat
import Derived.Test.YtjhongkmempepaaGreatDoorFBin
import Derived.Test.YtjhongkmempepaaGreatDoorFRefY
namespace Go.Proofs.YtjhongkmempepaaGreatDoor
open Go.RowKit Go.Sort

end Go.Proofs.YtjhongkmempepaaGreatDoor

namespace Go.Proofs.YtjhongkmempepaaGreatDoor
open Go.RowKit Go.Sort

def rootE (x : Int) : Int := if modN pN (powN pN x qN * powN pN x qN) = modN pN x then 0 else 41
end Go.Proofs.YtjhongkmempepaaGreatDoor

namespace Go.Proofs.YtjhongkmempepaaGreatDoor
open Go.RowKit

end Go.Proofs.YtjhongkmempepaaGreatDoor

namespace Go.Proofs.YtjhongkmempepaaGreatDoor
open Go.RowKit Go.Sort

end Go.Proofs.YtjhongkmempepaaGreatDoor

namespace Go.Proofs.YtjhongkmempepaaGreatDoor
open Go.RowKit Go.Sort

end Go.Proofs.YtjhongkmempepaaGreatDoor
