import Derived.Test.YtahekhamhdfkdaaLeaf
import Derived.LoopN
import Derived.BigRegion
import Derived.Deep.RegionWith
import Derived.Test.YtahekhamhdfkdaaShiftNum
import Derived.Test.YtahekhamhdfkdaaNum
namespace Go.Proofs.Ytahekhamhdfkdaa
open Go.RowKit

theorem from_val {v : Int} (h : Word v) : l0 v = v ∧ l1 v = 0 ∧ l2 v = 0 ∧ l3 v = 0 := by
  obtain ⟨_, _⟩ := h
  unfold l0 l1 l2 l3; refine ⟨by omega, by omega, by omega, by omega⟩

end Go.Proofs.Ytahekhamhdfkdaa

namespace Go.Proofs.Ytahekhamhdfkdaa
open Go.RowKit

end Go.Proofs.Ytahekhamhdfkdaa
