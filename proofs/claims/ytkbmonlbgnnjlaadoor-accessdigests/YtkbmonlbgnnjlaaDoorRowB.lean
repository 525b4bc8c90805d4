import Derived.Test.YtkbmonlbgnnjlaaDoorHold
import Derived.Deep.MidRow
import Derived.Lib.LazyBuf
import Derived.Test.YtkbmonlbgnnjlaaDoorShiftNum
/- Rows of bytes. -/
namespace Go.Proofs.YtkbmonlbgnnjlaaDoor
open Go.RowKit

/-- Block b holds these bytes, from its first cell on. -/
def RowB (W : World) (b : Nat) (l : List Int) : Prop := ∀ i, i < l.length → W.cell? ⟨b, i, none⟩ = some (.int .u8 (l.getD i 0))
theorem RowB.lt {W : World} {b : Nat} {l : List Int} (h : RowB W b l) (hl : 0 < l.length) : b < W.heap.size := World.block_lt_of_cell? W ⟨b, 0, none⟩ (h 0 hl)
/-- Block b holds these bytes and may be written. -/
def Bts (W : World) (b : Nat) (l : List Int) : Prop := RowB W b l ∧ Loose W b l.length
theorem Bts.keep {W w1 : World} {b : Nat} {l : List Int} (h : Bts W b l) (hl : 0 < l.length) (hb : Below W.heap.size W w1) : Bts w1 b l := ⟨fun i hi => cell_keep hb (h.1 i hi), h.2.keep hb (h.1.lt hl)⟩
theorem Bts.alloc {W : World} {b : Nat} {l : List Int} (h : Bts W b l) (hl : 0 < l.length) (o : Obj) : Bts (W.alloc o) b l := h.keep hl ((Below.refl _ _).alloc (Nat.le_refl _) o)
theorem Bts.new {W : World} {b : Nat} (l : List Int) (t : TypeId) (e : b = W.heap.size) : Bts (W.alloc (.cells (l.map (Value.int .u8)).toArray t)) b l := by
  subst e
  refine ⟨?_, Loose.new _ _ _ _⟩
  intro i hi
  rw [World.cell?_alloc_mark]
  simp [List.getElem?_map, List.getD, List.getElem?_eq_getElem hi]
theorem Bts.set {W : World} {b : Nat} {l : List Int} (h : Bts W b l) (i : Nat) (hi : i < l.length) (v : Int) : Bts (W.setCell ⟨b, i, none⟩ (.int .u8 v)) b (l.set i v) := by
  refine ⟨?_, by rw [List.length_set]; exact h.2.set _ _⟩
  intro j hj
  simp at hj
  by_cases e : i = j
  · subst e
    rw [World.cell?_setCell_same _ _ _ (h.1 i hi)]
    simp [List.getD, hi]
  · have ne : (⟨b, i, none⟩ : Addr) ≠ ⟨b, j, none⟩ := by first | (simp; done) | (simp; omega)
    rw [World.cell?_setCell_other _ _ _ _ ne, h.1 j hj]
    simp [List.getD, List.getElem?_set_ne e]
theorem Bts.other {W : World} {b b' i : Nat} {l : List Int} (h : Bts W b l) (ne : b' ≠ b) (v : Value) : Bts (W.setCell ⟨b', i, none⟩ v) b l := ⟨fun j hj => by rw [World.cell?_setCell_far _ _ _ _ ne]; exact h.1 j hj, h.2.set _ _⟩
theorem Bts.drew {W : World} {b : Nat} {l : List Int} (h : Bts W b l) : Bts W.drew b l := h

theorem extB {l l' : List Int} (h : l.length = l'.length) (e : ∀ t, t < l.length → l.getD t 0 = l'.getD t 0) : l = l' := by
  apply List.ext_getElem h
  intro t h1 h2
  have := e t h1
  simpa [List.getD, h1, h2] using this
theorem setB_ne {l : List Int} {i t : Nat} (h : t ≠ i) (v : Int) : (l.set i v).getD t 0 = l.getD t 0 := by
  simp [List.getD, List.getElem?_set_ne (Ne.symm h)]
theorem setB_eq {l : List Int} {i : Nat} (h : i < l.length) (v : Int) : (l.set i v).getD i 0 = v := by
  simp [List.getD, h]
theorem RowB.all32 {W : World} {b : Nat} {x0 x1 x2 x3 x4 x5 x6 x7 x8 x9 x10 x11 x12 x13 x14 x15 x16 x17 x18 x19 x20 x21 x22 x23 x24 x25 x26 x27 x28 x29 x30 x31 : Int} (h : RowB W b [x0, x1, x2, x3, x4, x5, x6, x7, x8, x9, x10, x11, x12, x13, x14, x15, x16, x17, x18, x19, x20, x21, x22, x23, x24, x25, x26, x27, x28, x29, x30, x31]) : W.cell? ⟨b, 0, none⟩ = some (.int .u8 x0) ∧ W.cell? ⟨b, 1, none⟩ = some (.int .u8 x1) ∧ W.cell? ⟨b, 2, none⟩ = some (.int .u8 x2) ∧ W.cell? ⟨b, 3, none⟩ = some (.int .u8 x3) ∧ W.cell? ⟨b, 4, none⟩ = some (.int .u8 x4) ∧ W.cell? ⟨b, 5, none⟩ = some (.int .u8 x5) ∧ W.cell? ⟨b, 6, none⟩ = some (.int .u8 x6) ∧ W.cell? ⟨b, 7, none⟩ = some (.int .u8 x7) ∧ W.cell? ⟨b, 8, none⟩ = some (.int .u8 x8) ∧ W.cell? ⟨b, 9, none⟩ = some (.int .u8 x9) ∧ W.cell? ⟨b, 10, none⟩ = some (.int .u8 x10) ∧ W.cell? ⟨b, 11, none⟩ = some (.int .u8 x11) ∧ W.cell? ⟨b, 12, none⟩ = some (.int .u8 x12) ∧ W.cell? ⟨b, 13, none⟩ = some (.int .u8 x13) ∧ W.cell? ⟨b, 14, none⟩ = some (.int .u8 x14) ∧ W.cell? ⟨b, 15, none⟩ = some (.int .u8 x15) ∧ W.cell? ⟨b, 16, none⟩ = some (.int .u8 x16) ∧ W.cell? ⟨b, 17, none⟩ = some (.int .u8 x17) ∧ W.cell? ⟨b, 18, none⟩ = some (.int .u8 x18) ∧ W.cell? ⟨b, 19, none⟩ = some (.int .u8 x19) ∧ W.cell? ⟨b, 20, none⟩ = some (.int .u8 x20) ∧ W.cell? ⟨b, 21, none⟩ = some (.int .u8 x21) ∧ W.cell? ⟨b, 22, none⟩ = some (.int .u8 x22) ∧ W.cell? ⟨b, 23, none⟩ = some (.int .u8 x23) ∧ W.cell? ⟨b, 24, none⟩ = some (.int .u8 x24) ∧ W.cell? ⟨b, 25, none⟩ = some (.int .u8 x25) ∧ W.cell? ⟨b, 26, none⟩ = some (.int .u8 x26) ∧ W.cell? ⟨b, 27, none⟩ = some (.int .u8 x27) ∧ W.cell? ⟨b, 28, none⟩ = some (.int .u8 x28) ∧ W.cell? ⟨b, 29, none⟩ = some (.int .u8 x29) ∧ W.cell? ⟨b, 30, none⟩ = some (.int .u8 x30) ∧ W.cell? ⟨b, 31, none⟩ = some (.int .u8 x31) :=
  ⟨h 0 (by simp), h 1 (by simp), h 2 (by simp), h 3 (by simp), h 4 (by simp), h 5 (by simp), h 6 (by simp), h 7 (by simp), h 8 (by simp), h 9 (by simp), h 10 (by simp), h 11 (by simp), h 12 (by simp), h 13 (by simp), h 14 (by simp), h 15 (by simp), h 16 (by simp), h 17 (by simp), h 18 (by simp), h 19 (by simp), h 20 (by simp), h 21 (by simp), h 22 (by simp), h 23 (by simp), h 24 (by simp), h 25 (by simp), h 26 (by simp), h 27 (by simp), h 28 (by simp), h 29 (by simp), h 30 (by simp), h 31 (by simp)⟩
theorem Loose.all32 {W : World} {b : Nat} (h : Loose W b 32) : W.frozen? ⟨b, 0, none⟩ = false ∧ W.frozen? ⟨b, 1, none⟩ = false ∧ W.frozen? ⟨b, 2, none⟩ = false ∧ W.frozen? ⟨b, 3, none⟩ = false ∧ W.frozen? ⟨b, 4, none⟩ = false ∧ W.frozen? ⟨b, 5, none⟩ = false ∧ W.frozen? ⟨b, 6, none⟩ = false ∧ W.frozen? ⟨b, 7, none⟩ = false ∧ W.frozen? ⟨b, 8, none⟩ = false ∧ W.frozen? ⟨b, 9, none⟩ = false ∧ W.frozen? ⟨b, 10, none⟩ = false ∧ W.frozen? ⟨b, 11, none⟩ = false ∧ W.frozen? ⟨b, 12, none⟩ = false ∧ W.frozen? ⟨b, 13, none⟩ = false ∧ W.frozen? ⟨b, 14, none⟩ = false ∧ W.frozen? ⟨b, 15, none⟩ = false ∧ W.frozen? ⟨b, 16, none⟩ = false ∧ W.frozen? ⟨b, 17, none⟩ = false ∧ W.frozen? ⟨b, 18, none⟩ = false ∧ W.frozen? ⟨b, 19, none⟩ = false ∧ W.frozen? ⟨b, 20, none⟩ = false ∧ W.frozen? ⟨b, 21, none⟩ = false ∧ W.frozen? ⟨b, 22, none⟩ = false ∧ W.frozen? ⟨b, 23, none⟩ = false ∧ W.frozen? ⟨b, 24, none⟩ = false ∧ W.frozen? ⟨b, 25, none⟩ = false ∧ W.frozen? ⟨b, 26, none⟩ = false ∧ W.frozen? ⟨b, 27, none⟩ = false ∧ W.frozen? ⟨b, 28, none⟩ = false ∧ W.frozen? ⟨b, 29, none⟩ = false ∧ W.frozen? ⟨b, 30, none⟩ = false ∧ W.frozen? ⟨b, 31, none⟩ = false :=
  ⟨h 0 (by decide), h 1 (by decide), h 2 (by decide), h 3 (by decide), h 4 (by decide), h 5 (by decide), h 6 (by decide), h 7 (by decide), h 8 (by decide), h 9 (by decide), h 10 (by decide), h 11 (by decide), h 12 (by decide), h 13 (by decide), h 14 (by decide), h 15 (by decide), h 16 (by decide), h 17 (by decide), h 18 (by decide), h 19 (by decide), h 20 (by decide), h 21 (by decide), h 22 (by decide), h 23 (by decide), h 24 (by decide), h 25 (by decide), h 26 (by decide), h 27 (by decide), h 28 (by decide), h 29 (by decide), h 30 (by decide), h 31 (by decide)⟩

theorem RowB.range {W : World} {b : Nat} {l : List Int} (h : RowB W b l) : W.rangeAt b 0 (l.map (Value.int .u8)) := by
  intro j v hv
  rw [List.getElem?_map] at hv
  obtain ⟨x, hx, rfl⟩ := Option.map_eq_some_iff.1 hv
  have hj : j < l.length := (List.getElem?_eq_some_iff.1 hx).1
  rw [Nat.zero_add, h j hj]
  simp [List.getD, hx]
theorem Bts.there {W : World} {b : Nat} {l : List Int} (h : Bts W b l) {k : Nat} (e : l.length = k) : W.there b 0 k := by
  subst e
  intro j hj
  rw [Nat.zero_add]
  exact ⟨by rw [h.1 j hj]; rfl, h.2 j hj⟩
theorem one_cells (l : List Int) : (l.map (Value.int .u8)).toArray.all (·.oneCell') = true := all_oneCell_toArray (by
  intro v hv
  obtain ⟨x, _, rfl⟩ := List.mem_map.1 hv
  rfl)

/-- The 32 bytes of a number, the highest first. -/
def putL (n : Int) : List Int := (List.range 32).map fun t => n / 256 ^ (31 - t) % 256
theorem putL_len (n : Int) : (putL n).length = 32 := by simp [putL]
theorem putL_getD (n : Int) {t : Nat} (h : t < 32) : (putL n).getD t 0 = n / 256 ^ (31 - t) % 256 := by
  simp [putL, List.getD, List.getElem?_map, List.getElem?_range h]

theorem byte_mod {y : Int} {s : Nat} (hs : s ≤ 56) : y % 18446744073709551616 / 2 ^ s % 256 = y / 2 ^ s % 256 := by
  obtain ⟨T, eT⟩ : ∃ T : Int, 2 ^ s * (256 * T) = 18446744073709551616 := ⟨2 ^ (56 - s), by
    rw [show (256 : Int) = 2 ^ 8 by decide, ← Int.pow_add, ← Int.pow_add, show s + (8 + (56 - s)) = 64 by omega]; decide⟩
  have p0 : (0 : Int) < 2 ^ s := Int.pow_pos (by decide)
  rw [Int.emod_def y 18446744073709551616]
  generalize y / 18446744073709551616 = q
  rw [← eT, Int.mul_assoc, Int.sub_eq_add_neg, ← Int.mul_neg, Int.add_mul_ediv_left _ _ (by omega), Int.mul_assoc 256, ← Int.mul_neg, Int.add_mul_emod_self_left]

theorem limb_byte {n : Int} {i : Nat} (hi : i < 32) : [l0 n, l1 n, l2 n, l3 n].getD (i / 8) 0 / 2 ^ (i % 8 * 8) % 256 = n / 256 ^ i % 256 := by
  have e256 : (256 : Int) ^ i = 2 ^ (8 * i) := by rw [show (256 : Int) = 2 ^ 8 by decide, ← Int.pow_mul]
  rw [e256]
  have hs : i % 8 * 8 ≤ 56 := by omega
  rcases (show i / 8 = 0 ∨ i / 8 = 1 ∨ i / 8 = 2 ∨ i / 8 = 3 by omega) with h | h | h | h
  · rw [h]; show l0 n / _ % 256 = _; unfold l0; rw [byte_mod hs, show 8 * i = i % 8 * 8 by omega]
  · rw [h]; show l1 n / _ % 256 = _; unfold l1; rw [byte_mod hs, Int.ediv_ediv_of_nonneg (by decide), show (18446744073709551616 : Int) = 2 ^ 64 by decide, ← Int.pow_add, show 64 + i % 8 * 8 = 8 * i by omega]
  · rw [h]; show l2 n / _ % 256 = _; unfold l2; rw [byte_mod hs, Int.ediv_ediv_of_nonneg (by decide), show (340282366920938463463374607431768211456 : Int) = 2 ^ 128 by decide, ← Int.pow_add, show 128 + i % 8 * 8 = 8 * i by omega]
  · rw [h]; show l3 n / _ % 256 = _; unfold l3; rw [byte_mod hs, Int.ediv_ediv_of_nonneg (by decide), show (6277101735386680763835789423207666416102355444464034512896 : Int) = 2 ^ 192 by decide, ← Int.pow_add, show 192 + i % 8 * 8 = 8 * i by omega]

end Go.Proofs.YtkbmonlbgnnjlaaDoor

/- Bytes put into limbs. -/
namespace Go.Proofs.YtkbmonlbgnnjlaaDoor

/-- The number of the last i bytes of a list. -/
def sufN (A : List Int) : Nat → Int
  | 0 => 0
  | i + 1 => sufN A i + A.getD (A.length - 1 - i) 0 * 256 ^ i
end Go.Proofs.YtkbmonlbgnnjlaaDoor
