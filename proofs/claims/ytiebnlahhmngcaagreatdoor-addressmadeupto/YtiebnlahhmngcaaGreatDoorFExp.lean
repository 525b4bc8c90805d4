import Derived.Test.YtiebnlahhmngcaaGreatDoorFReduce
import Derived.Test.YtiebnlahhmngcaaGreatDoorLen
namespace Go.Proofs.YtiebnlahhmngcaaGreatDoor
open Go.RowKit

/-- x to the power of e modulo m. -/
def powN (m x e : Int) : Int := x ^ e.toNat % m
theorem powN_Num {m c : Int} (hf : Fit m c) (x e : Int) : Num (powN m x e) := modN_Num hf _
theorem powN_lt {m c : Int} (hf : Fit m c) (x e : Int) : 0 ≤ powN m x e ∧ powN m x e < m := modN_lt hf _
theorem powN_zero {m c : Int} (hf : Fit m c) (x : Int) : powN m x 0 = 1 := by
  have := hf.low
  unfold powN; simp; exact Int.emod_eq_of_lt (by decide) (by omega)
theorem powN_twice (m x : Int) {e : Int} (h : 0 ≤ e) : modN m (powN m x e * powN m x e) = powN m x (2 * e) := by
  unfold modN powN
  rw [← Int.mul_emod, show (2 * e).toNat = e.toNat + e.toNat by omega, Int.pow_add]
theorem powN_next (m x : Int) {e : Int} (h : 0 ≤ e) : modN m (powN m x e * x) = powN m x (e + 1) := by
  unfold modN powN
  rw [Int.mul_emod, Int.emod_emod_of_dvd _ (Int.dvd_refl m), ← Int.mul_emod, show (e + 1).toNat = e.toNat + 1 by omega, Int.pow_succ]

set_option maxRecDepth 100000 in
set_option maxHeartbeats 4000000 in
theorem fexp_any {q c n m : Int} (hf : Fit q c) (hn : Num n) (hm : Num m) (w : World) :
    Calls Tryz.prog 80 #[.agg #[.int .u64 (l0 q), .int .u64 (l1 q), .int .u64 (l2 q), .int .u64 (l3 q), .int .u64 (l0 c), .int .u64 (l1 c), .int .u64 (l2 c), .int .u64 (l3 c)], .agg #[.int .u64 (l0 n), .int .u64 (l1 n), .int .u64 (l2 n), .int .u64 (l3 n)], .agg #[.int .u64 (l0 m), .int .u64 (l1 m), .int .u64 (l2 m), .int .u64 (l3 m)]] w fun e w' => e = .returned (.agg #[.int .u64 (l0 (powN q n m)), .int .u64 (l1 (powN q n m)), .int .u64 (l2 (powN q n m)), .int .u64 (l3 (powN q n m))]) ∧ Below w.heap.size w w' := by
  have one : Word 1 := ⟨by decide, by decide⟩
  go_enter Tryz.func80, Tryz.ntmps80
  go_wp2_with fail
  refine calls_world (fun W => Below w.heap.size w W ∧ HoldM W w.heap.size q c ∧ Hold W (w.heap.size + 1) n ∧ Hold W (w.heap.size + 1 + 1) m ∧ Blank W (w.heap.size + 1 + 1 + 1)) ⟨?_, ?_, ?_, ?_, ?_⟩ ?_
  · repeat (first | with_reducible exact Below.refl _ _ | with_reducible refine Below.alloc ?_ (by first | omega | (simp; done) | (simp; omega)) _)
  · exact (((HoldM.new w q c _).alloc _).alloc _).alloc _
  · exact ((Hold.fresh (by simp)).alloc _).alloc _
  · exact (Hold.fresh (by simp)).alloc _
  · exact Blank.new (by simp)
  rintro W ⟨B, hF, hX, hY, hR⟩
  have o1 : w.heap.size ≤ w.heap.size + 1 + 1 + 1 := by omega
  generalize w.heap.size + 1 + 1 + 1 = br at *
  generalize w.heap.size + 1 + 1 = bw at *
  generalize w.heap.size + 1 = bx at *
  refine (from_any one W).mono ?_
  rintro e w1 ⟨rfl, hb⟩
  replace B := B.trans (hb.mono B.size)
  replace hF := hF.keep hb; replace hX := hX.keep hb; replace hY := hY.keep hb; replace hR := hR.keep hb
  clear hb W
  have gY := hY.allocs
  go_wp2_with fail
  have c0 : w1.heap.size ≠ w.heap.size := by have := hF.lt; omega
  have c1 : w1.heap.size ≠ bx := by have := hX.row.lt (by simp); omega
  have c2 : w1.heap.size ≠ bw := by have := hY.row.lt (by simp); omega
  have c3 : w1.heap.size ≠ br := by have := hR.1.lt (by simp); omega
  have o2 : w.heap.size ≤ w1.heap.size := B.size
  refine calls_world (fun W => Below w.heap.size w W ∧ HoldM W w.heap.size q c ∧ Hold W bx n ∧ Hold W bw m ∧ Blank W br ∧ Var W w1.heap.size 1) ⟨B.alloc B.size _, hF.alloc _, hX.alloc _, hY.alloc _, hR.alloc _, Var.new rfl⟩ ?_
  clear B hF hX hY hR gY
  rintro W ⟨B, hF, hX, hY, hR, hP⟩
  generalize w1.heap.size = bp at *
  refine (len_any hm W).mono ?_
  rintro e w2 ⟨rfl, hb⟩
  replace B := B.trans (hb.mono B.size)
  replace hF := hF.keep hb; replace hX := hX.keep hb; replace hY := hY.keep hb; replace hR := hR.keep hb; replace hP := hP.keep hb
  clear hb W
  obtain ⟨j0, ej, hj0, _, ez⟩ := lenN_bound hm
  rw [ej]
  have hP0 : Var w2 bp (powN q n (m / 2 ^ j0)) := by rw [ez, powN_zero hf]; exact hP
  clear hP ez ej
  go_wp2_with fail
  go_loopw [8] (fun a wr => ∃ j : Nat, j ≤ 256 ∧ a = .int .i64 ((j : Int) - 1) ∧ Below w.heap.size w wr ∧ HoldM wr w.heap.size q c ∧ Hold wr bx n ∧ Hold wr bw m ∧ Blank wr br ∧ Var wr bp (powN q n (m / 2 ^ j))) (fun a _ => (intOf a + 1).toNat)
  case atStart => exact ⟨j0, hj0, by go_num, B, hF, hX, hY, hR, hP0⟩
  case round =>
    clear B hF hX hY hR hP0
    obtain ⟨j, hj, rfl, B, hF, hX, hY, hR, hP⟩ := hrel
    by_cases hz : j = 0
    · subst hz
      rw [show m / 2 ^ 0 = m by simp] at hP
      have gP := hP.1.cells; have gR := hR.1.all4; have fR := hR.2.all4
      go_wp2
      simp [bodyPost, results, Tryz.results80, go_sem, gR]
      exact below_set4 B o1 _ _ _ _
    · obtain ⟨i, rfl⟩ : ∃ i, j = i + 1 := ⟨j - 1, by omega⟩
      have e1 : ((i + 1 : Nat) : Int) - 1 = i := by omega
      have hd := half_bit m i
      have eb := bitN_eq m (show i < 256 by omega)
      have q0 : 0 ≤ m / 2 ^ (i + 1) := Int.ediv_nonneg hm.1 (Int.le_of_lt (Int.pow_pos (by decide)))
      have bt : bitN m i = 0 ∨ bitN m i = 1 := by rw [eb]; omega
      rw [← eb] at hd
      have HD : Hid (m / 2 ^ i = 2 * (m / 2 ^ (i + 1)) + bitN m i) := hd
      have M1 : Hid (∀ W, Calls Tryz.prog 81 #[.agg #[.int .u64 (l0 q), .int .u64 (l1 q), .int .u64 (l2 q), .int .u64 (l3 q), .int .u64 (l0 c), .int .u64 (l1 c), .int .u64 (l2 c), .int .u64 (l3 c)], .agg #[.int .u64 (l0 (powN q n (m / 2 ^ (i + 1)))), .int .u64 (l1 (powN q n (m / 2 ^ (i + 1)))), .int .u64 (l2 (powN q n (m / 2 ^ (i + 1)))), .int .u64 (l3 (powN q n (m / 2 ^ (i + 1))))], .agg #[.int .u64 (l0 (powN q n (m / 2 ^ (i + 1)))), .int .u64 (l1 (powN q n (m / 2 ^ (i + 1)))), .int .u64 (l2 (powN q n (m / 2 ^ (i + 1)))), .int .u64 (l3 (powN q n (m / 2 ^ (i + 1))))]] W fun e w' => e = .returned (.agg #[.int .u64 (l0 (powN q n (2 * (m / 2 ^ (i + 1))))), .int .u64 (l1 (powN q n (2 * (m / 2 ^ (i + 1))))), .int .u64 (l2 (powN q n (2 * (m / 2 ^ (i + 1))))), .int .u64 (l3 (powN q n (2 * (m / 2 ^ (i + 1)))))]) ∧ Below W.heap.size W w') := fun W => by
        have := fmul_any hf (powN_Num hf n (m / 2 ^ (i + 1))) (powN_Num hf n (m / 2 ^ (i + 1))) W
        rw [powN_twice q n q0] at this
        exact this
      have M2 : Hid (∀ W, Calls Tryz.prog 81 #[.agg #[.int .u64 (l0 q), .int .u64 (l1 q), .int .u64 (l2 q), .int .u64 (l3 q), .int .u64 (l0 c), .int .u64 (l1 c), .int .u64 (l2 c), .int .u64 (l3 c)], .agg #[.int .u64 (l0 (powN q n (2 * (m / 2 ^ (i + 1))))), .int .u64 (l1 (powN q n (2 * (m / 2 ^ (i + 1))))), .int .u64 (l2 (powN q n (2 * (m / 2 ^ (i + 1))))), .int .u64 (l3 (powN q n (2 * (m / 2 ^ (i + 1)))))], .agg #[.int .u64 (l0 n), .int .u64 (l1 n), .int .u64 (l2 n), .int .u64 (l3 n)]] W fun e w' => e = .returned (.agg #[.int .u64 (l0 (powN q n (2 * (m / 2 ^ (i + 1)) + 1))), .int .u64 (l1 (powN q n (2 * (m / 2 ^ (i + 1)) + 1))), .int .u64 (l2 (powN q n (2 * (m / 2 ^ (i + 1)) + 1))), .int .u64 (l3 (powN q n (2 * (m / 2 ^ (i + 1)) + 1)))]) ∧ Below W.heap.size W w') := fun W => by
        have := fmul_any hf (powN_Num hf n (2 * (m / 2 ^ (i + 1)))) hn W
        rw [powN_next q n (by omega)] at this
        exact this
      have ea : Hid (((i + 1 : Nat) : Int) - 1 = i) := e1
      rw [e1]
      clear e1 eb hd
      generalize m / 2 ^ (i + 1) = E at *
      have gP := hP.1.cells; have gF := hF.cells
      go_wp2_with fail
      with_reducible refine (M1.out _).mono ?_
      rintro e w3 ⟨rfl, hb⟩
      replace B := B.trans (hb.mono B.size)
      replace hF := hF.keep hb; replace hX := hX.keep hb; replace hY := hY.keep hb; replace hR := hR.keep hb; replace hP := hP.keep hb
      clear hb gP gF
      have gP := hP.1.cells; have fP := hP.2.all4; have gY := hY.cells
      go_wp2_with fail
      refine calls_world (fun W => Below w.heap.size w W ∧ HoldM W w.heap.size q c ∧ Hold W bx n ∧ Hold W bw m ∧ Blank W br ∧ Var W bp (powN q n (2 * E))) ⟨below_set4 B o2 _ _ _ _, hF.set4 c0 _ _ _ _, hX.set4 c1 _ _ _ _, hY.set4 c2 _ _ _ _, hR.set4 c3 _ _ _ _, hP.sets _⟩ ?_
      clear B hF hX hY hR hP gP fP gY
      rintro W ⟨B, hF, hX, hY, hR, hP⟩
      refine (bit_any hm W).mono ?_
      rintro e w4 ⟨rfl, hb⟩
      replace B := B.trans (hb.mono B.size)
      replace hF := hF.keep hb; replace hX := hX.keep hb; replace hY := hY.keep hb; replace hR := hR.keep hb; replace hP := hP.keep hb
      clear hb W
      rcases bt with bt | bt
      · have hP' : Var w4 bp (powN q n (m / 2 ^ i)) := by rw [HD.out, bt, Int.add_zero]; exact hP
        clear hP HD
        go_wp2
        go_roundw
        case rel => exact ⟨i, by omega, by go_num, B, hF, hX, hY, hR, hP'⟩
        case measure => first | (simp [intOf]; done) | (simp [intOf]; omega)
      · have gP := hP.1.cells; have gX := hX.cells; have gF := hF.cells
        have ee : Hid (m / 2 ^ i = 2 * E + 1) := by have := HD.out; rw [bt] at this; exact this
        clear HD
        go_wp2_with fail
        with_reducible refine (M2.out _).mono ?_
        rintro e w5 ⟨rfl, hb⟩
        replace B := B.trans (hb.mono B.size)
        replace hF := hF.keep hb; replace hX := hX.keep hb; replace hY := hY.keep hb; replace hR := hR.keep hb; replace hP := hP.keep hb
        clear hb gP gX gF
        have gP := hP.1.cells; have fP := hP.2.all4
        go_wp2
        go_roundw
        case rel => exact ⟨i, by omega, by go_num, below_set4 B o2 _ _ _ _, hF.set4 c0 _ _ _ _, hX.set4 c1 _ _ _ _, hY.set4 c2 _ _ _ _, hR.set4 c3 _ _ _ _, by rw [ee.out]; exact hP.sets _⟩
        case measure => first | (simp [intOf]; done) | (simp [intOf]; omega)
end Go.Proofs.YtiebnlahhmngcaaGreatDoor

namespace Go.Proofs.YtiebnlahhmngcaaGreatDoor
open Go.RowKit Go.Sort

/-- The table of the two moduli, as it lies. -/
def Mds (W : World) : Prop := Row W 2 [l0 pN, l1 pN, l2 pN, l3 pN, l0 pC, l1 pC, l2 pC, l3 pC, l0 nN, l1 nN, l2 nN, l3 nN, l0 nC, l1 nC, l2 nC, l3 nC]
theorem Mds.keep {W w1 : World} (h : Mds W) (hb : Below W.heap.size W w1) : Mds w1 := Row.keep h hb
theorem Mds.alloc {W : World} (h : Mds W) (o : Obj) : Mds (W.alloc o) := Row.alloc h o
theorem Mds.set {W : World} {b i : Nat} (h : Mds W) (ne : b ≠ 2) (v : Value) : Mds (W.setCell ⟨b, i, none⟩ v) := Row.setOther h ne v
theorem Mds.set4 {W : World} {b : Nat} (h : Mds W) (ne : b ≠ 2) (v0 v1 v2 v3 : Value) : Mds ((((W.setCell ⟨b, 0, none⟩ v0).setCell ⟨b, 1, none⟩ v1).setCell ⟨b, 2, none⟩ v2).setCell ⟨b, 3, none⟩ v3) := (((h.set ne v0).set ne v1).set ne v2).set ne v3
theorem Mds.lt {W : World} (h : Mds W) : 2 < W.heap.size := Row.lt h (by simp)
theorem Mds.p {W : World} (h : Mds W) : HoldM W 2 pN pC := fun i hi => by
  have := h i (by simp at hi ⊢; omega)
  rw [this]
  simp at hi
  match i, hi with
  | 0, _ => rfl
  | 1, _ => rfl
  | 2, _ => rfl
  | 3, _ => rfl
  | 4, _ => rfl
  | 5, _ => rfl
  | 6, _ => rfl
  | 7, _ => rfl
theorem Mds.n {W : World} (h : Mds W) : W.cell? ⟨2, 8, none⟩ = some (.int .u64 (l0 nN)) ∧ W.cell? ⟨2, 9, none⟩ = some (.int .u64 (l1 nN)) ∧ W.cell? ⟨2, 10, none⟩ = some (.int .u64 (l2 nN)) ∧ W.cell? ⟨2, 11, none⟩ = some (.int .u64 (l3 nN)) ∧ W.cell? ⟨2, 12, none⟩ = some (.int .u64 (l0 nC)) ∧ W.cell? ⟨2, 13, none⟩ = some (.int .u64 (l1 nC)) ∧ W.cell? ⟨2, 14, none⟩ = some (.int .u64 (l2 nC)) ∧ W.cell? ⟨2, 15, none⟩ = some (.int .u64 (l3 nC)) :=
  ⟨h 8 (by simp), h 9 (by simp), h 10 (by simp), h 11 (by simp), h 12 (by simp), h 13 (by simp), h 14 (by simp), h 15 (by simp)⟩

/-- What hangs on the kind: modulus, rest, error. -/
def kM (k : Int) : Int := if k = 0 then pN else if k = 1 then nN else 0
def kC (k : Int) : Int := if k = 0 then pC else if k = 1 then nC else 0
def kE (k : Int) : Int := if k = 0 then 0 else if k = 1 then 0 else 1

set_option maxHeartbeats 1000000 in
theorem of_any (k : Int) (w : World) (hm : Mds w) :
    Calls Tryz.prog 67 #[.int .i64 k] w fun e w' => e = .returned (.tuple #[.agg #[.int .u64 (l0 (kM k)), .int .u64 (l1 (kM k)), .int .u64 (l2 (kM k)), .int .u64 (l3 (kM k)), .int .u64 (l0 (kC k)), .int .u64 (l1 (kC k)), .int .u64 (l2 (kC k)), .int .u64 (l3 (kC k))], .int .i64 (kE k)]) ∧ Below w.heap.size w w' := by
  obtain ⟨z0, z1, z2, z3⟩ := zero_limbs
  have gP := fun o => (hm.alloc o).p.cells
  have gN := fun o => (hm.alloc o).n
  have ll := hm.lt
  by_cases h0 : k = 0
  · subst h0
    rw [show kM 0 = pN from rfl, show kC 0 = pC from rfl, show kE 0 = 0 from rfl]
    clear z0 z1 z2 z3 gN
    generalize pN = m at *
    generalize pC = c at *
    go_enter Tryz.func67, Tryz.ntmps67
    go_wp2
    simp [bodyPost, results, Tryz.results67, go_sem]
    repeat (first | with_reducible exact Below.refl _ _ | with_reducible refine Below.drew ?_ | with_reducible refine Below.alloc ?_ (by first | omega | (simp; done) | (simp; omega)) _ | with_reducible refine Below.setCell ?_ (by first | omega | (simp; done)) _)
  by_cases h1 : k = 1
  · subst h1
    rw [show kM 1 = nN from rfl, show kC 1 = nC from rfl, show kE 1 = 0 from rfl]
    clear z0 z1 z2 z3 gP
    generalize nN = m at *
    generalize nC = c at *
    go_enter Tryz.func67, Tryz.ntmps67
    go_wp2
    simp [bodyPost, results, Tryz.results67, go_sem]
    repeat (first | with_reducible exact Below.refl _ _ | with_reducible refine Below.drew ?_ | with_reducible refine Below.alloc ?_ (by first | omega | (simp; done) | (simp; omega)) _ | with_reducible refine Below.setCell ?_ (by first | omega | (simp; done)) _)
  · rw [show kM k = 0 by simp [kM, h0, h1], show kC k = 0 by simp [kC, h0, h1], show kE k = 1 by simp [kE, h0, h1], z0, z1, z2, z3]
    have t0 : (k != 0) = true := by simp [h0]
    have t1 : (k != 1) = true := by simp [h1]
    clear z0 z1 z2 z3 gP gN
    go_enter Tryz.func67, Tryz.ntmps67
    go_wp2
    simp [bodyPost, results, Tryz.results67, go_sem]
    repeat (first | with_reducible exact Below.refl _ _ | with_reducible refine Below.drew ?_ | with_reducible refine Below.alloc ?_ (by first | omega | (simp; done) | (simp; omega)) _ | with_reducible refine Below.setCell ?_ (by first | omega | (simp; done)) _)
end Go.Proofs.YtiebnlahhmngcaaGreatDoor
