import Derived.Test.YtcjabligkeaafaaDoorHold
import Derived.Deep.MidRow
import Derived.Lib.LazyBuf
/- Rows of bytes. -/
namespace Go.Proofs.YtcjabligkeaafaaDoor
open Go.RowKit

theorem extB {l l' : List Int} (h : l.length = l'.length) (e : ∀ t, t < l.length → l.getD t 0 = l'.getD t 0) : l = l' := by
  apply List.ext_getElem h
  intro t h1 h2
  have := e t h1
  simpa [List.getD, h1, h2] using this
end Go.Proofs.YtcjabligkeaafaaDoor
