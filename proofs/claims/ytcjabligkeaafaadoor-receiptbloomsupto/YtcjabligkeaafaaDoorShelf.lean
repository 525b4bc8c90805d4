import Derived.Shelf.Lay
import Derived.Shelf.LaySoft
import Derived.Test.YtcjabligkeaafaaDoorProg
namespace Go.Proofs
open Go.Shelf
shelf_tried
end Go.Proofs
