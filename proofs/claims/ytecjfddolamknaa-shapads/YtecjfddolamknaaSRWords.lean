import Derived.Test.YtecjfddolamknaaSRWord
import Derived.Deep.AppendLies
/- The document's words of a block. -/
namespace Go.Proofs.Ytecjfddolamknaa
open Go.RowKit Go.Sort

/-- The old list's words, and the new one's. -/
theorem OwW.cell {B : Nat} {W : World} {g c : Nat} {L : List (BitVec 32)} (h : OwW B W (.slice (some ⟨g, 0, none⟩) L.length c) L) {j : Nat} (hj : j < L.length) : W.cell? ⟨g, j, none⟩ = some (.int .u32 (U (L.getD j 0))) := by
  rw [World.ownsRow.cellAt h j (by omega), wrds, List.getElem?_map, List.getElem?_eq_getElem hj, List.getD, List.getElem?_eq_getElem hj]; rfl
end Go.Proofs.Ytecjfddolamknaa
