import Derived.Test.YtdkfpakghpbofaaLeaf
import Derived.LoopN
import Derived.BigRegion
import Derived.Deep.RegionWith
import Derived.Test.YtdkfpakghpbofaaShiftNum
import Derived.Test.YtdkfpakghpbofaaMulNum
namespace Go.Proofs.Ytdkfpakghpbofaa
open Go.RowKit

theorem from_val {v : Int} (h : Word v) : l0 v = v ∧ l1 v = 0 ∧ l2 v = 0 ∧ l3 v = 0 := by
  obtain ⟨_, _⟩ := h
  unfold l0 l1 l2 l3; refine ⟨by omega, by omega, by omega, by omega⟩

end Go.Proofs.Ytdkfpakghpbofaa

namespace Go.Proofs.Ytdkfpakghpbofaa
open Go.RowKit

end Go.Proofs.Ytdkfpakghpbofaa
