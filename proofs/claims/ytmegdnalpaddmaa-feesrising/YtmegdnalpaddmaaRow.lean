import Derived.Test.YtmegdnalpaddmaaSets
import Derived.Test.YtmegdnalpaddmaaHold
namespace Go.Proofs.Ytmegdnalpaddmaa
open Go.RowKit

/-- Block b holds these limbs, from its first cell on. -/
def Row (W : World) (b : Nat) (l : List Int) : Prop := ∀ i, i < l.length → W.cell? ⟨b, i, none⟩ = some (.int .u64 (l.getD i 0))
/-- The first n cells of block b may be written. -/
def Loose (W : World) (b n : Nat) : Prop := ∀ i, i < n → W.frozen? ⟨b, i, none⟩ = false

theorem Row.lt {W : World} {b : Nat} {l : List Int} (h : Row W b l) (hl : 0 < l.length) : b < W.heap.size := World.block_lt_of_cell? W ⟨b, 0, none⟩ (h 0 hl)
theorem Row.keep {W w1 : World} {b : Nat} {l : List Int} (h : Row W b l) (hb : Below W.heap.size W w1) : Row w1 b l := fun i hi => cell_keep hb (h i hi)
theorem Loose.keep {W w1 : World} {b n : Nat} (h : Loose W b n) (hb : Below W.heap.size W w1) (hlt : b < W.heap.size) : Loose w1 b n := fun i hi => by rw [hb.frozen (p := ⟨b, i, none⟩) hlt]; exact h i hi
theorem Row.alloc {W : World} {b : Nat} {l : List Int} (h : Row W b l) (o : Obj) : Row (W.alloc o) b l := h.keep ((Below.refl _ _).alloc (Nat.le_refl _) o)
theorem Loose.alloc {W : World} {b n : Nat} (h : Loose W b n) (hlt : b < W.heap.size) (o : Obj) : Loose (W.alloc o) b n := h.keep ((Below.refl _ _).alloc (Nat.le_refl _) o) hlt
theorem Row.other {W W' : World} {b b' o : Nat} {l vs : List Int} (h : Row W b l) (s : Sets b' o vs W W') (ne : b ≠ b') : Row W' b l := fun i hi => by rw [s.other (p := ⟨b, i, none⟩) ne]; exact h i hi
theorem Loose.sets {W W' : World} {b b' o n : Nat} {vs : List Int} (h : Loose W b n) (s : Sets b' o vs W W') : Loose W' b n := fun i hi => by rw [s.frozen]; exact h i hi
/-- What is written takes its place. -/
theorem Row.sets {W W' : World} {b o : Nat} {l vs : List Int} (h : Row W b l) (s : Sets b o vs W W') (hl : o + vs.length ≤ l.length) : Row W' b (l.take o ++ (vs ++ l.drop (o + vs.length))) := by
  intro i hi
  simp at hi
  by_cases h1 : i < o
  · rw [s.out i (.inl h1), h i (by omega)]
    simp [List.getD, List.getElem?_append_left (show i < (l.take o).length by simp; omega), h1]
  · by_cases h2 : i < o + vs.length
    · obtain ⟨j, rfl⟩ : ∃ j, i = o + j := ⟨i - o, by omega⟩
      rw [s.inn j (by omega)]
      have e : (l.take o).length = o := by simp; omega
      simp [List.getD, List.getElem?_append_right (show (l.take o).length ≤ o + j by omega), List.getElem?_append_left (show j < vs.length by omega), e]
    · rw [s.out i (.inr (by omega)), h i (by omega)]
      have e : (l.take o).length = o := by simp; omega
      rw [List.getD, List.getD, List.getElem?_append_right (show (l.take o).length ≤ i by omega), e, List.getElem?_append_right (show vs.length ≤ i - o by omega), List.getElem?_drop, show o + vs.length + (i - o - vs.length) = i by omega]
theorem Row.drewN {W : World} {b : Nat} {l : List Int} (h : Row W b l) (n : Nat) : Row (W.drewN n) b l := h
theorem Loose.drewN {W : World} {b n : Nat} (h : Loose W b n) (k : Nat) : Loose (W.drewN k) b n := h

end Go.Proofs.Ytmegdnalpaddmaa
