import Derived.Test.YtidchaaahgnabaaDoorRows
import Derived.Test.YtidchaaahgnabaaDoorNum
import Derived.WalkKit
import Derived.WalkSpells
import Derived.WalkLawsBesides
import Derived.Laws.Externs
import Derived.Shelf.Spec.BitsCarry
import Derived.Lib.Mul64
import Derived.Laws.Bits64b
namespace Go.Proofs.YtidchaaahgnabaaDoor
open Go.RowKit

end Go.Proofs.YtidchaaahgnabaaDoor
