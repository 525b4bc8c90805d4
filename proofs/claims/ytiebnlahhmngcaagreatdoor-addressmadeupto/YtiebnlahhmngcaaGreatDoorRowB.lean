import Derived.Test.YtiebnlahhmngcaaGreatDoorHold
import Derived.Deep.MidRow
import Derived.Lib.LazyBuf
/- Rows of bytes. -/
namespace Go.Proofs.YtiebnlahhmngcaaGreatDoor
open Go.RowKit

/-- Block b holds these bytes, from its first cell on. -/
def RowB (W : World) (b : Nat) (l : List Int) : Prop := ∀ i, i < l.length → W.cell? ⟨b, i, none⟩ = some (.int .u8 (l.getD i 0))
theorem RowB.lt {W : World} {b : Nat} {l : List Int} (h : RowB W b l) (hl : 0 < l.length) : b < W.heap.size := World.block_lt_of_cell? W ⟨b, 0, none⟩ (h 0 hl)
/-- Block b holds these bytes and may be written. -/
def Bts (W : World) (b : Nat) (l : List Int) : Prop := RowB W b l ∧ Loose W b l.length
theorem Bts.keep {W w1 : World} {b : Nat} {l : List Int} (h : Bts W b l) (hl : 0 < l.length) (hb : Below W.heap.size W w1) : Bts w1 b l := ⟨fun i hi => cell_keep hb (h.1 i hi), h.2.keep hb (h.1.lt hl)⟩
theorem Bts.alloc {W : World} {b : Nat} {l : List Int} (h : Bts W b l) (hl : 0 < l.length) (o : Obj) : Bts (W.alloc o) b l := h.keep hl ((Below.refl _ _).alloc (Nat.le_refl _) o)
theorem Bts.new {W : World} {b : Nat} (l : List Int) (t : TypeId) (e : b = W.heap.size) : Bts (W.alloc (.cells (l.map (Value.int .u8)).toArray t)) b l := by
  subst e
  refine ⟨?_, Loose.new _ _ _ _⟩
  intro i hi
  rw [World.cell?_alloc_mark]
  simp [List.getElem?_map, List.getD, List.getElem?_eq_getElem hi]
theorem Bts.set {W : World} {b : Nat} {l : List Int} (h : Bts W b l) (i : Nat) (hi : i < l.length) (v : Int) : Bts (W.setCell ⟨b, i, none⟩ (.int .u8 v)) b (l.set i v) := by
  refine ⟨?_, by rw [List.length_set]; exact h.2.set _ _⟩
  intro j hj
  simp at hj
  by_cases e : i = j
  · subst e
    rw [World.cell?_setCell_same _ _ _ (h.1 i hi)]
    simp [List.getD, hi]
  · have ne : (⟨b, i, none⟩ : Addr) ≠ ⟨b, j, none⟩ := by first | (simp; done) | (simp; omega)
    rw [World.cell?_setCell_other _ _ _ _ ne, h.1 j hj]
    simp [List.getD, List.getElem?_set_ne e]
theorem Bts.other {W : World} {b b' i : Nat} {l : List Int} (h : Bts W b l) (ne : b' ≠ b) (v : Value) : Bts (W.setCell ⟨b', i, none⟩ v) b l := ⟨fun j hj => by rw [World.cell?_setCell_far _ _ _ _ ne]; exact h.1 j hj, h.2.set _ _⟩
theorem extB {l l' : List Int} (h : l.length = l'.length) (e : ∀ t, t < l.length → l.getD t 0 = l'.getD t 0) : l = l' := by
  apply List.ext_getElem h
  intro t h1 h2
  have := e t h1
  simpa [List.getD, h1, h2] using this
theorem setB_ne {l : List Int} {i t : Nat} (h : t ≠ i) (v : Int) : (l.set i v).getD t 0 = l.getD t 0 := by
  simp [List.getD, List.getElem?_set_ne (Ne.symm h)]
theorem setB_eq {l : List Int} {i : Nat} (h : i < l.length) (v : Int) : (l.set i v).getD i 0 = v := by
  simp [List.getD, h]
theorem RowB.range {W : World} {b : Nat} {l : List Int} (h : RowB W b l) : W.rangeAt b 0 (l.map (Value.int .u8)) := by
  intro j v hv
  rw [List.getElem?_map] at hv
  obtain ⟨x, hx, rfl⟩ := Option.map_eq_some_iff.1 hv
  have hj : j < l.length := (List.getElem?_eq_some_iff.1 hx).1
  rw [Nat.zero_add, h j hj]
  simp [List.getD, hx]
theorem Bts.there {W : World} {b : Nat} {l : List Int} (h : Bts W b l) {k : Nat} (e : l.length = k) : W.there b 0 k := by
  subst e
  intro j hj
  rw [Nat.zero_add]
  exact ⟨by rw [h.1 j hj]; rfl, h.2 j hj⟩
theorem one_cells (l : List Int) : (l.map (Value.int .u8)).toArray.all (·.oneCell') = true := all_oneCell_toArray (by
  intro v hv
  obtain ⟨x, _, rfl⟩ := List.mem_map.1 hv
  rfl)

/-- The 32 bytes of a number, the highest first. -/
def putL (n : Int) : List Int := (List.range 32).map fun t => n / 256 ^ (31 - t) % 256
theorem putL_len (n : Int) : (putL n).length = 32 := by simp [putL]
theorem putL_getD (n : Int) {t : Nat} (h : t < 32) : (putL n).getD t 0 = n / 256 ^ (31 - t) % 256 := by
  simp [putL, List.getD, List.getElem?_map, List.getElem?_range h]

theorem byte_mod {y : Int} {s : Nat} (hs : s ≤ 56) : y % 18446744073709551616 / 2 ^ s % 256 = y / 2 ^ s % 256 := by
  obtain ⟨T, eT⟩ : ∃ T : Int, 2 ^ s * (256 * T) = 18446744073709551616 := ⟨2 ^ (56 - s), by
    rw [show (256 : Int) = 2 ^ 8 by decide, ← Int.pow_add, ← Int.pow_add, show s + (8 + (56 - s)) = 64 by omega]; decide⟩
  have p0 : (0 : Int) < 2 ^ s := Int.pow_pos (by decide)
  rw [Int.emod_def y 18446744073709551616]
  generalize y / 18446744073709551616 = q
  rw [← eT, Int.mul_assoc, Int.sub_eq_add_neg, ← Int.mul_neg, Int.add_mul_ediv_left _ _ (by omega), Int.mul_assoc 256, ← Int.mul_neg, Int.add_mul_emod_self_left]

theorem limb_byte {n : Int} {i : Nat} (hi : i < 32) : [l0 n, l1 n, l2 n, l3 n].getD (i / 8) 0 / 2 ^ (i % 8 * 8) % 256 = n / 256 ^ i % 256 := by
  have e256 : (256 : Int) ^ i = 2 ^ (8 * i) := by rw [show (256 : Int) = 2 ^ 8 by decide, ← Int.pow_mul]
  rw [e256]
  have hs : i % 8 * 8 ≤ 56 := by omega
  rcases (show i / 8 = 0 ∨ i / 8 = 1 ∨ i / 8 = 2 ∨ i / 8 = 3 by omega) with h | h | h | h
  · rw [h]; show l0 n / _ % 256 = _; unfold l0; rw [byte_mod hs, show 8 * i = i % 8 * 8 by omega]
  · rw [h]; show l1 n / _ % 256 = _; unfold l1; rw [byte_mod hs, Int.ediv_ediv_of_nonneg (by decide), show (18446744073709551616 : Int) = 2 ^ 64 by decide, ← Int.pow_add, show 64 + i % 8 * 8 = 8 * i by omega]
  · rw [h]; show l2 n / _ % 256 = _; unfold l2; rw [byte_mod hs, Int.ediv_ediv_of_nonneg (by decide), show (340282366920938463463374607431768211456 : Int) = 2 ^ 128 by decide, ← Int.pow_add, show 128 + i % 8 * 8 = 8 * i by omega]
  · rw [h]; show l3 n / _ % 256 = _; unfold l3; rw [byte_mod hs, Int.ediv_ediv_of_nonneg (by decide), show (6277101735386680763835789423207666416102355444464034512896 : Int) = 2 ^ 192 by decide, ← Int.pow_add, show 192 + i % 8 * 8 = 8 * i by omega]

end Go.Proofs.YtiebnlahhmngcaaGreatDoor
