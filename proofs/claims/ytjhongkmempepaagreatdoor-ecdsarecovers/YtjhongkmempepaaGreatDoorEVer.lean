import Derived.Test.YtjhongkmempepaaGreatDoorERec
namespace Go.Proofs.YtjhongkmempepaaGreatDoor
open Go.RowKit Go.Sort

end Go.Proofs.YtjhongkmempepaaGreatDoor
