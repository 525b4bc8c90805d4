import Derived.Test.YtjlijohdobknoaaDoorCmp
import Derived.Test.YtjlijohdobknoaaDoorTail
import Derived.Test.YtjlijohdobknoaaDoorShiftNum
namespace Go.Proofs.YtjlijohdobknoaaDoor
open Go.RowKit

theorem pow_split {n s : Int} (q : Nat) (hs : 0 ≤ s) (h : n = 64 * q + s) : (2 : Int) ^ n.toNat = 2 ^ (64 * q) * 2 ^ s.toNat := by
  rw [← Int.pow_add]; congr 1; omega
end Go.Proofs.YtjlijohdobknoaaDoor
