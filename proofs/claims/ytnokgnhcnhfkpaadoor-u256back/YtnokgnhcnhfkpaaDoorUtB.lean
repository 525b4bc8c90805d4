import Derived.Test.YtnokgnhcnhfkpaaDoorUtA
import Derived.Test.YtnokgnhcnhfkpaaDoorQLate
import Derived.Test.YtnokgnhcnhfkpaaDoorUpAny
import Derived.Test.YtnokgnhcnhfkpaaDoorVars
import Derived.Test.YtnokgnhcnhfkpaaDoorRefLong
import Derived.Test.YtnokgnhcnhfkpaaDoorCut
import Derived.Deep.RegionHeld3
import Derived.Deep.RegionWith
namespace Go.Proofs.YtnokgnhcnhfkpaaDoor
open Go.RowKit Go.Sort

/-- The table of the powers of ten, as it lies. -/
def Pws (W : World) : Prop := ∀ i, i ≤ 19 → W.cell? ⟨0, i, none⟩ = some (.int .u64 (10 ^ i))
theorem Pws.keep {W w1 : World} (h : Pws W) (hb : Below W.heap.size W w1) : Pws w1 := fun i hi => cell_keep hb (h i hi)
theorem Pws.lt {W : World} (h : Pws W) : 0 < W.heap.size := World.block_lt_of_cell? _ _ (h 0 (by decide))
theorem Pws.alloc {W : World} (h : Pws W) (o : Obj) : Pws (W.alloc o) := h.keep ((Below.refl _ _).alloc (Nat.le_refl _) o)
theorem Pws.set {W : World} (h : Pws W) {p : Addr} (hp : p.block ≠ 0) (v : Value) : Pws (W.setCell p v) := fun i hi => by
  rw [World.cell?_setCell_far _ _ _ _ hp]; exact h i hi
theorem isDigits_yes {s : ByteArray} (hs : s.size ≤ 9223372036854775807) (h : DgA s ∧ s.size ≠ 0) (w : World) : Calls Tryd.prog 13 #[.string s] w fun e w' => e = .returned (.bool true) ∧ w' = w :=
  (isDigits_any hs w).mono fun e w' ⟨h1, h2⟩ => ⟨by rcases h1 with ⟨_, _, h⟩ | ⟨h3, _⟩; exact h; exact absurd h h3, h2⟩
theorem isDigits_no {s : ByteArray} (hs : s.size ≤ 9223372036854775807) (h : ¬ (DgA s ∧ s.size ≠ 0)) (w : World) : Calls Tryd.prog 13 #[.string s] w fun e w' => e = .returned (.bool false) ∧ w' = w :=
  (isDigits_any hs w).mono fun e w' ⟨h1, h2⟩ => ⟨by rcases h1 with ⟨h3, h4, _⟩ | ⟨_, h3⟩; exact absurd ⟨h3, h4⟩ h; exact h3, h2⟩
set_option maxRecDepth 100000 in
theorem parse_digit {s : ByteArray} (hs : s.size ≤ 9223372036854775807) (h : ¬ (DgA s ∧ s.size ≠ 0)) (w : World) : Calls Tryd.prog 8 #[.string s] w fun e w' => e = .returned (.tuple #[.agg #[.int .u64 (l0 0), .int .u64 (l1 0), .int .u64 (l2 0), .int .u64 (l3 0)], .int .i64 12]) ∧ Below w.heap.size w w' := by
  have hd := isDigits_no hs h
  have hb := build_zero
  obtain ⟨z0, z1, z2, z3⟩ := zero_limbs
  rw [z0, z1, z2, z3]
  clear z0 z1 z2 z3 hs h
  go_enter Tryd.func8, Tryd.ntmps8
  go_wp2_with ((with_reducible refine (hd _).mono ?_); rintro e1 w1 ⟨rfl, rfl⟩)
  simp [bodyPost, results, Tryd.results8, go_sem]
  repeat (first | with_reducible exact Below.refl _ _ | with_reducible refine Below.alloc ?_ (by first | omega | (simp; done) | (simp; omega)) _ | with_reducible refine Below.setCell ?_ (by first | omega | (simp; done)) _)
set_option maxRecDepth 100000 in
theorem parse_lead {s : ByteArray} (hs : s.size ≤ 9223372036854775807) (h : DgA s ∧ s.size ≠ 0) (h1 : 1 < s.size ∧ bt s 0 = 48) (w : World) : Calls Tryd.prog 8 #[.string s] w fun e w' => e = .returned (.tuple #[.agg #[.int .u64 (l0 0), .int .u64 (l1 0), .int .u64 (l2 0), .int .u64 (l3 0)], .int .i64 13]) ∧ Below w.heap.size w w' := by
  have hd := isDigits_yes hs h
  have hb := build_zero
  obtain ⟨z0, z1, z2, z3⟩ := zero_limbs
  rw [z0, z1, z2, z3]
  clear z0 z1 z2 z3 hs h
  obtain ⟨h2, h3⟩ := h1
  have h0 : 0 < s.size := by omega
  have hx := get_bt h0
  rw [h3] at hx
  clear h3
  go_enter Tryd.func8, Tryd.ntmps8
  go_wp2_with ((with_reducible refine (hd _).mono ?_); rintro e1 w1 ⟨rfl, rfl⟩)
  simp [bodyPost, results, Tryd.results8, go_sem]
  repeat (first | with_reducible exact Below.refl _ _ | with_reducible refine Below.alloc ?_ (by first | omega | (simp; done) | (simp; omega)) _ | with_reducible refine Below.setCell ?_ (by first | omega | (simp; done)) _)
set_option maxRecDepth 100000 in
theorem parse_78 {s : ByteArray} (hs : s.size ≤ 9223372036854775807) (h : DgA s ∧ s.size ≠ 0) (h1 : bt s 0 ≠ 48) (h2 : 78 < s.size) (w : World) : Calls Tryd.prog 8 #[.string s] w fun e w' => e = .returned (.tuple #[.agg #[.int .u64 (l0 0), .int .u64 (l1 0), .int .u64 (l2 0), .int .u64 (l3 0)], .int .i64 11]) ∧ Below w.heap.size w w' := by
  have hd := isDigits_yes hs h
  have hb := build_zero
  obtain ⟨z0, z1, z2, z3⟩ := zero_limbs
  rw [z0, z1, z2, z3]
  clear z0 z1 z2 z3 hs h
  have h3 : 1 < s.size := by omega
  have h0 : 0 < s.size := by omega
  have hx := get_bt h0
  have h4 : (((s[0]'h0).toNat : Int) == 48) = false := by rw [hx]; simpa using h1
  clear hx h1
  go_enter Tryd.func8, Tryd.ntmps8
  go_wp2_with ((with_reducible refine (hd _).mono ?_); rintro e1 w1 ⟨rfl, rfl⟩)
  simp [bodyPost, results, Tryd.results8, go_sem]
  repeat (first | with_reducible exact Below.refl _ _ | with_reducible refine Below.alloc ?_ (by first | omega | (simp; done) | (simp; omega)) _ | with_reducible refine Below.setCell ?_ (by first | omega | (simp; done)) _)
theorem ext_zero (s : ByteArray) : s.extract 0 s.size = s := by simp
theorem ext_ext {s : ByteArray} {i n : Nat} (_h : i + n ≤ s.size) : (s.extract i s.size).extract n (s.extract i s.size).size = s.extract (i + n) s.size := by
  rw [ByteArray.extract_extract, ByteArray.size_extract]
  congr 1
  omega
theorem bt_ext {s : ByteArray} {a b j : Nat} (h : j < b - a) (hb : b ≤ s.size) : bt (s.extract a b) j = bt s (a + j) := by
  unfold bt
  congr 2
  simp only [ByteArray.data_extract, List.getD, Array.getElem?_toList]
  rw [Array.getElem?_extract]
  rw [if_pos (by have : s.data.size = s.size := rfl; omega)]
theorem dc_ext2 {s : ByteArray} {i n : Nat} (h : i + n ≤ s.size) : dc ((s.extract i s.size).extract 0 n) 0 n = dc s i n := by
  refine dc_ext fun j hj => ?_
  rw [Nat.zero_add, bt_ext (by omega) (by rw [ByteArray.size_extract]; omega), bt_ext (by omega) (Nat.le_refl _), Nat.zero_add]
theorem size_ext2 {s : ByteArray} {i n : Nat} (h : i + n ≤ s.size) : ((s.extract i s.size).extract 0 n).size = n := by
  rw [ByteArray.size_extract, ByteArray.size_extract]; omega
theorem dga_ext2 {s : ByteArray} (hA : DgA s) {i n : Nat} (h : i + n ≤ s.size) : DgA ((s.extract i s.size).extract 0 n) := fun j hj => by
  rw [size_ext2 h] at hj
  rw [bt_ext (by omega) (by rw [ByteArray.size_extract]; omega), bt_ext (by omega) (Nat.le_refl _), Nat.zero_add]
  exact hA _ (by omega)
end Go.Proofs.YtnokgnhcnhfkpaaDoor
