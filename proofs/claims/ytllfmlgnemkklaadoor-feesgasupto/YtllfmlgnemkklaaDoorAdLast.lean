import Derived.Test.YtllfmlgnemkklaaDoorRowB
import Derived.StillTail
import Derived.BigQuiet
import Derived.Lib.QuietBelow
import Derived.Test.YtllfmlgnemkklaaDoorHold
import Derived.LoopN
import Derived.Test.YtllfmlgnemkklaaDoorCmp
import Derived.Test.YtllfmlgnemkklaaDoorTail
import Derived.Test.YtllfmlgnemkklaaDoorNum
import Derived.Laws.Cover3
import Derived.Great.Walk
namespace Go.Proofs.YtllfmlgnemkklaaDoor
open Go.RowKit Go.Sort

theorem range_keep {W W' : World} {n b o : Nat} {M : List Value} (h : W.rangeAt b o M) (hb : Below n W W') (hl : b < n) : W'.rangeAt b o M := fun j v hv => by
  rw [hb.cell (p := ⟨b, o + j, none⟩) hl]; exact h j v hv
end Go.Proofs.YtllfmlgnemkklaaDoor
