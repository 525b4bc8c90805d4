import Derived.Test.YtjhljoanhlodeaaDoorKKnown
import Derived.Maps.AppendAt
namespace Go.Proofs.YtjhljoanhlodeaaDoor
open Go.RowKit Go.Sort

/-- A slice of the call's own memory, of these bytes. -/
def Own (B : Nat) (W : World) (v : Value) (X : List (BitVec 8)) : Prop := W.ownsRow B 5 1 v X.length (byts X)
theorem Own.row {B : Nat} {W : World} {v : Value} {X : List (BitVec 8)} (h : Own B W v X) : W.ownsRow B 5 1 v X.length (byts X) := h
theorem byts_snoc (X : List (BitVec 8)) (x : BitVec 8) : byts X ++ [.int .u8 (Y x)] = byts (X ++ [x]) := by simp [byts]
end Go.Proofs.YtjhljoanhlodeaaDoor
