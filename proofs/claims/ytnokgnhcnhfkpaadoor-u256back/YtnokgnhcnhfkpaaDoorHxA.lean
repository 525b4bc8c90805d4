import Derived.Test.YtnokgnhcnhfkpaaDoorLeaf
import Derived.Deep.LoopGhost
import Derived.Laws.IdiomStrings
namespace Go.Proofs.YtnokgnhcnhfkpaaDoor
open Go.RowKit

end Go.Proofs.YtnokgnhcnhfkpaaDoor

namespace Go.Proofs.YtnokgnhcnhfkpaaDoor
open Go.RowKit

/-- A text's byte. -/
def bt (s : ByteArray) (i : Nat) : Int := ((s.data.toList.getD i 0).toNat : Int)
/-- What follows. -/
def tl (s : ByteArray) : ByteArray := s.extract 2 s.size
theorem bt_get (s : ByteArray) (i : Nat) (h : i < s.size) : ((s[i]'h).toNat : Int) = bt s i := by
  have h' : i < s.data.size := h
  unfold bt
  congr 2
  rw [List.getD, Array.getElem?_toList, Array.getElem?_eq_getElem h']
  rfl
end Go.Proofs.YtnokgnhcnhfkpaaDoor
