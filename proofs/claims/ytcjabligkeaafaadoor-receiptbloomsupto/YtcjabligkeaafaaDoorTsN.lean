import Derived.Test.YtcjabligkeaafaaDoorTsM
import Derived.Test.YtcjabligkeaafaaDoorTsF
/- waybillplay.LentTx. -/
namespace Go.Proofs.YtcjabligkeaafaaDoor.tq
open Go.RowKit Go.Sort
theorem size_1b : (Tryd.prog.info? 31).map (·.size) = some 1 := by kernel_rfl
end Go.Proofs.YtcjabligkeaafaaDoor.tq

/- A receipt lent: what LentReceipt makes. -/
namespace Go.Proofs.YtcjabligkeaafaaDoor.tq
open Go.RowKit Go.Sort
theorem rI_g : rowInfo Tryd.prog 33 22 72 = true := by kernel_rfl
theorem size_lg : (Tryd.prog.info? 33).map (·.size) = some 22 := by kernel_rfl
theorem lgC_one (l : Lg) : ∀ u ∈ lgC l, u.oneCell' = true := fun u hu => by
  unfold lgC at hu
  simp only [List.mem_append, List.mem_cons, List.not_mem_nil, or_false] at hu
  rcases hu with h | h | h
  · exact hC_one _ u h
  · subst h; rfl
  · subst h; rfl
theorem LgG.keep {W W' : World} {l : Lg} (h : LgG W l) (B : Below W.heap.size W W') : LgG W' l := ⟨h.adr, h.T.keep B, h.D.keep B⟩
theorem LsG.keep {W W' : World} {a : Option Addr} {b o c : Nat} {ls : List Lg} (h : LsG W a b o c ls) (B : Below W.heap.size W W') : LsG W' a b o c ls := ⟨h.1, h.2.1, fun i hi => ⟨(h.2.2 i hi).1.keep B, range_keep (h.2.2 i hi).2 B⟩⟩
end Go.Proofs.YtcjabligkeaafaaDoor.tq

/- waybilllaw17: same, sameLog, sameLogs. -/
namespace Go.Proofs.YtcjabligkeaafaaDoor.tq
open Go.RowKit Go.Sort
theorem lg_parts {l : Lg} (h : l.adr.length = 20) {W : World} {b o : Nat} (hr : W.rangeAt b o (lgC l)) : W.rangeAt b o (hC l.adr) ∧ W.cell? ⟨b, o + 20, none⟩ = some (.slice l.Ta l.Tl.length l.Tc) ∧ W.cell? ⟨b, o + 21, none⟩ = some (.slice l.Da l.Dl.length l.Dc) := by
  unfold lgC at hr
  have h1 := range_app.1 hr
  rw [hC_len, h] at h1
  have h2 := range_app.1 h1.2
  exact ⟨h1.1, h2.1 0 _ rfl, by have := h2.2 0 _ rfl; simpa [Nat.add_assoc] using this⟩
end Go.Proofs.YtcjabligkeaafaaDoor.tq

/- waybilllaw17: sameLogs, sameReceipt. -/
namespace Go.Proofs.YtcjabligkeaafaaDoor.tq
open Go.RowKit Go.Sort
theorem size_bl : (Tryd.prog.info? 28).map (·.size) = some 256 := by kernel_rfl
theorem KsG.cons {W : World} {a : Option Addr} {b o c : Nat} {ks : List (List Int)} (h : KsG W a b o c ks) (hi : 0 < ks.length) : a = some ⟨b, o, none⟩ := by
  rcases h.2.1 with e | e
  · rw [e] at hi; exact absurd hi (Nat.not_lt_zero _)
  · exact e
theorem LsG.cons {W : World} {a : Option Addr} {b o c : Nat} {ks : List Lg} (h : LsG W a b o c ks) (hi : 0 < ks.length) : a = some ⟨b, o, none⟩ := by
  rcases h.2.1 with e | e
  · rw [e] at hi; exact absurd hi (Nat.not_lt_zero _)
  · exact e
def BdL (x : Lg) : Prop := x.Tl.length < 1000000000 ∧ x.Dl.length < 1000000000
end Go.Proofs.YtcjabligkeaafaaDoor.tq
