import Derived.Test.YtnokgnhcnhfkpaaDoorLen
import Derived.Test.YtnokgnhcnhfkpaaDoorDigit
import Derived.Test.YtnokgnhcnhfkpaaDoorCmp
import Derived.Test.YtnokgnhcnhfkpaaDoorRow
import Derived.Deep.RegionWith
namespace Go.Proofs.YtnokgnhcnhfkpaaDoor
open Go.RowKit

end Go.Proofs.YtnokgnhcnhfkpaaDoor
