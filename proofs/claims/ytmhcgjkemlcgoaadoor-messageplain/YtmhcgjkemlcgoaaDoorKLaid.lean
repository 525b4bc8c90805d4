import Derived.Test.YtmhcgjkemlcgoaaDoorCards
import Derived.Test.YtmhcgjkemlcgoaaDoorTie
import Derived.Test.YtmhcgjkemlcgoaaDoorKOpen
import Derived.WalkKit
import Derived.ProofKit
import Derived.OpenShut
import Derived.Deep.DeepHandedRow
import Derived.Lib.LaidTab
/- The world of the witness: the tables hold what the program's text lays. -/
namespace Go.Proofs.YtmhcgjkemlcgoaaDoor.K
open Go.ChangeShapes Go.WideShapes Go.ChangeAt Go.RowKit

/-- A block's cells put anew. -/
def lay (cs : Array Value) : Obj → Obj
  | .cells _ t frozen => .cells cs t frozen
  | o => o
end Go.Proofs.YtmhcgjkemlcgoaaDoor.K
