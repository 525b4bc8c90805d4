import Derived.Shelf.Lay
import Derived.Shelf.LaySoft

import Derived.Test.YtanokeeffbiijaaDoorProg
namespace Go.Proofs
open Go.Shelf
shelf_tried
end Go.Proofs
