import Derived.Test.YtecjfddolamknaaSRWords
import Derived.Test.YtecjfddolamknaaSComp2
/- The document's rounds. -/
namespace Go.Proofs.Ytecjfddolamknaa
open Go.RowKit Go.Sort

/-- Words in a row somewhere. -/
def Rw (W : World) (g : Nat) (L : List (BitVec 32)) : Prop := ∀ t, t < L.length → W.cell? ⟨g, t, none⟩ = some (.int .u32 (U (L.getD t 0)))
theorem Rw.keep {W w1 : World} {g : Nat} {L : List (BitVec 32)} (h : Rw W g L) (hb : Below W.heap.size W w1) : Rw w1 g L := fun t ht => cell_keep hb (h t ht)
theorem Rw.lt {W : World} {g : Nat} {L : List (BitVec 32)} (h : Rw W g L) (hl : 0 < L.length) : g < W.heap.size := World.block_lt_of_cell? W _ (h 0 hl)
theorem Rw.other {W : World} {g b' i : Nat} {L : List (BitVec 32)} (h : Rw W g L) (ne : b' ≠ g) (v : Value) : Rw (W.setCell ⟨b', i, none⟩ v) g L := fun t ht => by rw [World.cell?_setCell_far _ _ _ _ ne]; exact h t ht
theorem Rw.otherCells {W : World} {g b' i : Nat} {L : List (BitVec 32)} (h : Rw W g L) (ne : b' ≠ g) (cs : List Value) : Rw (W.setCells b' i cs) g L := fun t ht => by rw [World.cell?_setCells_out _ _ _ _ _ (fun e => absurd e.symm ne)]; exact h t ht
theorem Rw.alloc {W : World} {g : Nat} {L : List (BitVec 32)} (h : Rw W g L) (o : Obj) : Rw (W.alloc o) g L := h.keep ((Below.refl _ _).alloc (Nat.le_refl _) o)
end Go.Proofs.Ytecjfddolamknaa
