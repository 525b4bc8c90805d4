import Derived.Test.YtkmkkcnlafbboaaRefLong
import Derived.Test.YtkmkkcnlafbboaaRef1
import Derived.Test.YtkmkkcnlafbboaaVars
import Derived.Test.YtkmkkcnlafbboaaLen
import Derived.Deep.LoopGhost
import Derived.Deep.RegionHeld3
namespace Go.Proofs.Ytkmkkcnlafbboaa
open Go.RowKit Go.Sort

theorem mul_two (h n : Int) : loN h n + hiN h n * 115792089237316195423570985008687907853269984665640564039457584007913129639936 = h * n := by
  unfold loN hiN
  generalize h * n = p
  omega

end Go.Proofs.Ytkmkkcnlafbboaa
