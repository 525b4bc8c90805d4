import Derived.Test.YtkmkkcnlafbboaaRefAddSub
import Derived.Test.YtkmkkcnlafbboaaRefCmp
import Derived.Test.YtkmkkcnlafbboaaVars
import Derived.Test.YtkmkkcnlafbboaaExpNum
import Derived.Test.YtkmkkcnlafbboaaRowHold
import Derived.Test.YtkmkkcnlafbboaaLen
import Derived.Test.YtkmkkcnlafbboaaCmp
import Derived.Test.YtkmkkcnlafbboaaTail
import Derived.Test.YtkmkkcnlafbboaaMulNum
import Derived.Test.YtkmkkcnlafbboaaOut
namespace Go.Proofs.Ytkmkkcnlafbboaa
open Go.RowKit

theorem twice_limbs (n : Int) : l0 (sumN n n) + 1 < 18446744073709551616 ∧ l0 (sumN n n + 1) = l0 (sumN n n) + 1 ∧ l1 (sumN n n + 1) = l1 (sumN n n) ∧ l2 (sumN n n + 1) = l2 (sumN n n) ∧ l3 (sumN n n + 1) = l3 (sumN n n) := by
  unfold sumN l0 l1 l2 l3
  refine ⟨by omega, by omega, by omega, by omega, by omega⟩

end Go.Proofs.Ytkmkkcnlafbboaa
