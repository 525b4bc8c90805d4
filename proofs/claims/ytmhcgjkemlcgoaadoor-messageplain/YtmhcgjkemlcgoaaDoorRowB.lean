import Derived.Test.YtmhcgjkemlcgoaaDoorHold
import Derived.Test.YtmhcgjkemlcgoaaDoorOut
import Derived.Deep.MidRow
import Derived.Lib.LazyBuf
/- Rows of bytes. -/
namespace Go.Proofs.YtmhcgjkemlcgoaaDoor
open Go.RowKit

/-- Block b holds these bytes, from its first cell on. -/
def RowB (W : World) (b : Nat) (l : List Int) : Prop := ∀ i, i < l.length → W.cell? ⟨b, i, none⟩ = some (.int .u8 (l.getD i 0))
theorem RowB.lt {W : World} {b : Nat} {l : List Int} (h : RowB W b l) (hl : 0 < l.length) : b < W.heap.size := World.block_lt_of_cell? W ⟨b, 0, none⟩ (h 0 hl)
/-- Block b holds these bytes and may be written. -/
def Bts (W : World) (b : Nat) (l : List Int) : Prop := RowB W b l ∧ Loose W b l.length
theorem Bts.keep {W w1 : World} {b : Nat} {l : List Int} (h : Bts W b l) (hl : 0 < l.length) (hb : Below W.heap.size W w1) : Bts w1 b l := ⟨fun i hi => cell_keep hb (h.1 i hi), h.2.keep hb (h.1.lt hl)⟩
theorem Bts.alloc {W : World} {b : Nat} {l : List Int} (h : Bts W b l) (hl : 0 < l.length) (o : Obj) : Bts (W.alloc o) b l := h.keep hl ((Below.refl _ _).alloc (Nat.le_refl _) o)
theorem Bts.new {W : World} {b : Nat} (l : List Int) (t : TypeId) (e : b = W.heap.size) : Bts (W.alloc (.cells (l.map (Value.int .u8)).toArray t)) b l := by
  subst e
  refine ⟨?_, Loose.new _ _ _ _⟩
  intro i hi
  rw [World.cell?_alloc_mark]
  simp [List.getElem?_map, List.getD, List.getElem?_eq_getElem hi]
theorem Bts.other {W : World} {b b' i : Nat} {l : List Int} (h : Bts W b l) (ne : b' ≠ b) (v : Value) : Bts (W.setCell ⟨b', i, none⟩ v) b l := ⟨fun j hj => by rw [World.cell?_setCell_far _ _ _ _ ne]; exact h.1 j hj, h.2.set _ _⟩
theorem extB {l l' : List Int} (h : l.length = l'.length) (e : ∀ t, t < l.length → l.getD t 0 = l'.getD t 0) : l = l' := by
  apply List.ext_getElem h
  intro t h1 h2
  have := e t h1
  simpa [List.getD, h1, h2] using this
theorem Bts.there {W : World} {b : Nat} {l : List Int} (h : Bts W b l) {k : Nat} (e : l.length = k) : W.there b 0 k := by
  subst e
  intro j hj
  rw [Nat.zero_add]
  exact ⟨by rw [h.1 j hj]; rfl, h.2 j hj⟩
theorem one_cells (l : List Int) : (l.map (Value.int .u8)).toArray.all (·.oneCell') = true := all_oneCell_toArray (by
  intro v hv
  obtain ⟨x, _, rfl⟩ := List.mem_map.1 hv
  rfl)

end Go.Proofs.YtmhcgjkemlcgoaaDoor
