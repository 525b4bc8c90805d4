import Derived.Test.YtanokeeffbiijaaDoorRcB
import Derived.Test.YtanokeeffbiijaaDoorTsN
/- A receipt lent: what LentReceipt makes. -/
namespace Go.Proofs.YtanokeeffbiijaaDoor.tq
open Go.RowKit Go.Sort
theorem rI_g : rowInfo Tryd.prog 44 22 72 = true := by kernel_rfl
theorem size_lg : (Tryd.prog.info? 44).map (·.size) = some 22 := by kernel_rfl
theorem lgC_one (l : Lg) : ∀ u ∈ lgC l, u.oneCell' = true := fun u hu => by
  unfold lgC at hu
  simp only [List.mem_append, List.mem_cons, List.not_mem_nil, or_false] at hu
  rcases hu with h | h | h
  · exact hC_one _ u h
  · subst h; rfl
  · subst h; rfl
theorem LgG.keep {W W' : World} {l : Lg} (h : LgG W l) (B : Below W.heap.size W W') : LgG W' l := ⟨h.adr, h.T.keep B, h.D.keep B⟩
theorem LsG.keep {W W' : World} {a : Option Addr} {b o c : Nat} {ls : List Lg} (h : LsG W a b o c ls) (B : Below W.heap.size W W') : LsG W' a b o c ls := ⟨h.1, h.2.1, fun i hi => ⟨(h.2.2 i hi).1.keep B, range_keep (h.2.2 i hi).2 B⟩⟩
end Go.Proofs.YtanokeeffbiijaaDoor.tq
