import Derived.Test.YtnokgnhcnhfkpaaDoorLen
import Derived.Test.YtnokgnhcnhfkpaaDoorHold
import Derived.Test.YtnokgnhcnhfkpaaDoorRootNum
namespace Go.Proofs.YtnokgnhcnhfkpaaDoor
open Go.RowKit

end Go.Proofs.YtnokgnhcnhfkpaaDoor

/- A bit put in below all that are there. -/
namespace Go.Proofs.YtnokgnhcnhfkpaaDoor
open Go.RowKit

end Go.Proofs.YtnokgnhcnhfkpaaDoor

/- Division bit by bit, in numbers. -/
namespace Go.Proofs.YtnokgnhcnhfkpaaDoor

end Go.Proofs.YtnokgnhcnhfkpaaDoor
