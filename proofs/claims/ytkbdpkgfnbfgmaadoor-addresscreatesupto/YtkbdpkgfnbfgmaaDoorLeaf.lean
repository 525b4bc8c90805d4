import Derived.Test.YtkbdpkgfnbfgmaaDoorRows
import Derived.Test.YtkbdpkgfnbfgmaaDoorNum
import Derived.WalkKit
import Derived.WalkSpells
import Derived.WalkLawsBesides
import Derived.Laws.Externs
import Derived.Shelf.Spec.BitsCarry
import Derived.Lib.Mul64
import Derived.Laws.Bits64b
namespace Go.Proofs.YtkbdpkgfnbfgmaaDoor
open Go.RowKit

end Go.Proofs.YtkbdpkgfnbfgmaaDoor
