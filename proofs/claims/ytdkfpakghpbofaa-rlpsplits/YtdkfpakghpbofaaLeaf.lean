import Derived.Test.YtdkfpakghpbofaaRows
import Derived.Test.YtdkfpakghpbofaaNum
import Derived.WalkKit
import Derived.WalkSpells
import Derived.WalkLawsBesides
import Derived.Laws.Externs
import Derived.Shelf.Spec.BitsCarry
import Derived.Lib.Mul64
import Derived.Laws.Bits64b
namespace Go.Proofs.Ytdkfpakghpbofaa
open Go.RowKit

end Go.Proofs.Ytdkfpakghpbofaa
