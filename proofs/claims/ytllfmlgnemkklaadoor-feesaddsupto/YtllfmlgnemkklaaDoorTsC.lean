import Derived.Test.YtllfmlgnemkklaaDoorTsB
/- waybillplay: Same, Still, StillHashes; the document's sameBytes. -/
namespace Go.Proofs.YtllfmlgnemkklaaDoor.tq
open Go.RowKit Go.Sort
theorem cell_hC {W : World} {b o : Nat} {A : List Int} (h : W.rangeAt b o (hC A)) {i : Nat} (hi : i < A.length) : W.cell? ⟨b, o + i, none⟩ = some (.int .u8 (A.getD i 0)) := h i _ (by simp [hC, List.getD, List.getElem?_eq_getElem hi])
theorem bz_hC {W : World} {b o : Nat} {A : List Int} (h : W.rangeAt b o (hC A)) : Bz W b o A := fun _ hi => cell_hC h hi
theorem hC_app (A D : List Int) : hC (A ++ D) = hC A ++ hC D := List.map_append
end Go.Proofs.YtllfmlgnemkklaaDoor.tq
