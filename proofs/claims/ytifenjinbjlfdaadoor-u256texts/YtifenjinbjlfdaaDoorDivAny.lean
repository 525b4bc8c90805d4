import Derived.Test.YtifenjinbjlfdaaDoorLen
import Derived.Test.YtifenjinbjlfdaaDoorDigit
import Derived.Test.YtifenjinbjlfdaaDoorCmp
import Derived.Test.YtifenjinbjlfdaaDoorRow2
import Derived.Deep.RegionWith
namespace Go.Proofs.YtifenjinbjlfdaaDoor
open Go.RowKit

end Go.Proofs.YtifenjinbjlfdaaDoor
