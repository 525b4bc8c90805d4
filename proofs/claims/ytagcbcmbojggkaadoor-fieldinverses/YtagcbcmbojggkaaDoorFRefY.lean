import Derived.Test.YtagcbcmbojggkaaDoorFBin
import Derived.Test.YtagcbcmbojggkaaDoorFExp
import Derived.Test.YtagcbcmbojggkaaDoorRefShl
namespace Go.Proofs.YtagcbcmbojggkaaDoor
open Go.RowKit Go.Sort

set_option maxHeartbeats 2000000 in
theorem rbelow_any {k x : Int} (hx : Num x) (w : World) :
    Calls Tryd.prog 19 #[.int .i64 k, .agg #[.int .u64 (l0 x), .int .u64 (l1 x), .int .u64 (l2 x), .int .u64 (l3 x)]] w fun e w' => e = .returned (.agg #[.int .u64 (l0 (modN (rM k) x)), .int .u64 (l1 (modN (rM k) x)), .int .u64 (l2 (modN (rM k) x)), .int .u64 (l3 (modN (rM k) x))]) ∧ Below w.heap.size w w' := by
  have R1 : Hid (∀ w, Calls Tryd.prog 31 #[.int .i64 k, .agg #[.int .u64 0, .int .u64 0, .int .u64 0, .int .u64 0], .agg #[.int .u64 (l0 x), .int .u64 (l1 x), .int .u64 (l2 x), .int .u64 (l3 x)]] w fun e w' => e = .returned (.agg #[.int .u64 (l0 (modN (rM k) x)), .int .u64 (l1 (modN (rM k) x)), .int .u64 (l2 (modN (rM k) x)), .int .u64 (l3 (modN (rM k) x))]) ∧ Below w.heap.size w w') := fun w => by
    have := rfold_any (k := k) (h := 0) ⟨by decide, by decide⟩ hx w
    obtain ⟨z0, z1, z2, z3⟩ := zero_limbs
    rw [wide_zero, z0, z1, z2, z3] at this
    exact this
  have bz := build_zero
  generalize modN (rM k) x = R at *
  go_enter Tryd.func19, Tryd.ntmps19
  go_wp2_with fail
  refine calls_world (fun W => Below w.heap.size w W ∧ Blank W (w.heap.size + 1)) ⟨by repeat (first | with_reducible exact Below.refl _ _ | with_reducible refine Below.alloc ?_ (by first | omega | (simp; done) | (simp; omega)) _), Blank.new (by simp)⟩ ?_
  rintro W ⟨B, hR⟩
  have o3 : w.heap.size ≤ w.heap.size + 1 := by omega
  generalize w.heap.size + 1 = br at *
  with_reducible refine (R1.out _).mono ?_
  rintro e w1 ⟨rfl, hb⟩
  replace B := B.trans (hb.mono B.size)
  replace hR := hR.keep hb
  clear hb W
  have gR := hR.1.all4; have fR := hR.2.all4
  go_wp2
  simp [bodyPost, results, Tryd.results19, go_sem, gR]
  exact below_set4 B o3 _ _ _ _

set_option maxRecDepth 100000 in
set_option maxHeartbeats 4000000 in
theorem rpower_any {k n m : Int} (hn : Num n) (hm : Num m) (w : World) :
    Calls Tryd.prog 23 #[.int .i64 k, .agg #[.int .u64 (l0 n), .int .u64 (l1 n), .int .u64 (l2 n), .int .u64 (l3 n)], .agg #[.int .u64 (l0 m), .int .u64 (l1 m), .int .u64 (l2 m), .int .u64 (l3 m)]] w fun e w' => e = .returned (.agg #[.int .u64 (l0 (powN (rM k) n m)), .int .u64 (l1 (powN (rM k) n m)), .int .u64 (l2 (powN (rM k) n m)), .int .u64 (l3 (powN (rM k) n m))]) ∧ Below w.heap.size w w' := by
  have hf := rfit k
  have hT : Hid (∀ {x y : Int}, Num x → Num y → ∀ w, Calls Tryd.prog 35 #[.int .i64 k, .agg #[.int .u64 (l0 x), .int .u64 (l1 x), .int .u64 (l2 x), .int .u64 (l3 x)], .agg #[.int .u64 (l0 y), .int .u64 (l1 y), .int .u64 (l2 y), .int .u64 (l3 y)]] w fun e w' => e = .returned (.agg #[.int .u64 (l0 (modN (rM k) (x * y))), .int .u64 (l1 (modN (rM k) (x * y))), .int .u64 (l2 (modN (rM k) (x * y))), .int .u64 (l3 (modN (rM k) (x * y)))]) ∧ Below w.heap.size w w') := fun hx hy w => rtimes_any hx hy w
  generalize rM k = q at *
  generalize rC k = c at *
  have one : Word 1 := ⟨by decide, by decide⟩
  go_enter Tryd.func23, Tryd.ntmps23
  go_wp2_with fail
  refine calls_world (fun W => Below w.heap.size w W ∧ Hold W w.heap.size n ∧ Hold W (w.heap.size + 1) m ∧ Blank W (w.heap.size + 1 + 1)) ⟨?_, ?_, ?_, ?_⟩ ?_
  · repeat (first | with_reducible exact Below.refl _ _ | with_reducible refine Below.alloc ?_ (by first | omega | (simp; done) | (simp; omega)) _)
  · exact ((Hold.fresh (by simp)).alloc _).alloc _
  · exact (Hold.fresh (by simp)).alloc _
  · exact Blank.new (by simp)
  rintro W ⟨B, hX, hY, hR⟩
  have o1 : w.heap.size ≤ w.heap.size + 1 + 1 := by omega
  generalize w.heap.size + 1 + 1 = br at *
  generalize w.heap.size + 1 = bw at *
  refine (rfrom_any one W).mono ?_
  rintro e w1 ⟨rfl, hb⟩
  replace B := B.trans (hb.mono B.size)
  replace hX := hX.keep hb; replace hY := hY.keep hb; replace hR := hR.keep hb
  clear hb W
  have gY := hY.allocs
  go_wp2_with fail
  have c1 : w1.heap.size ≠ w.heap.size := by have := hX.row.lt (by simp); omega
  have c2 : w1.heap.size ≠ bw := by have := hY.row.lt (by simp); omega
  have c3 : w1.heap.size ≠ br := by have := hR.1.lt (by simp); omega
  have o2 : w.heap.size ≤ w1.heap.size := B.size
  refine calls_world (fun W => Below w.heap.size w W ∧ Hold W w.heap.size n ∧ Hold W bw m ∧ Blank W br ∧ Var W w1.heap.size 1) ⟨B.alloc B.size _, hX.alloc _, hY.alloc _, hR.alloc _, Var.new rfl⟩ ?_
  clear B hX hY hR gY
  rintro W ⟨B, hX, hY, hR, hP⟩
  generalize w1.heap.size = bp at *
  refine (rlen_any hm W).mono ?_
  rintro e w2 ⟨rfl, hb⟩
  replace B := B.trans (hb.mono B.size)
  replace hX := hX.keep hb; replace hY := hY.keep hb; replace hR := hR.keep hb; replace hP := hP.keep hb
  clear hb W
  obtain ⟨j0, ej, hj0, _, ez⟩ := lenN_bound hm
  rw [ej]
  have hP0 : Var w2 bp (powN q n (m / 2 ^ j0)) := by rw [ez, powN_zero hf]; exact hP
  clear hP ez ej
  go_wp2_with fail
  go_loopw [8] (fun a wr => ∃ j : Nat, j ≤ 256 ∧ a = .int .i64 ((j : Int) - 1) ∧ Below w.heap.size w wr ∧ Hold wr w.heap.size n ∧ Hold wr bw m ∧ Blank wr br ∧ Var wr bp (powN q n (m / 2 ^ j))) (fun a _ => (intOf a + 1).toNat)
  case atStart => exact ⟨j0, hj0, by go_num, B, hX, hY, hR, hP0⟩
  case round =>
    clear B hX hY hR hP0
    obtain ⟨j, hj, rfl, B, hX, hY, hR, hP⟩ := hrel
    by_cases hz : j = 0
    · subst hz
      rw [show m / 2 ^ 0 = m by simp] at hP
      have gP := hP.1.cells; have gR := hR.1.all4; have fR := hR.2.all4
      go_wp2
      simp [bodyPost, results, Tryd.results23, go_sem, gR]
      exact below_set4 B o1 _ _ _ _
    · obtain ⟨i, rfl⟩ : ∃ i, j = i + 1 := ⟨j - 1, by omega⟩
      have e1 : ((i + 1 : Nat) : Int) - 1 = i := by omega
      have hd := half_bit m i
      have eb := bitN_eq m (show i < 256 by omega)
      have q0 : 0 ≤ m / 2 ^ (i + 1) := Int.ediv_nonneg hm.1 (Int.le_of_lt (Int.pow_pos (by decide)))
      have bt : bitN m i = 0 ∨ bitN m i = 1 := by rw [eb]; omega
      rw [← eb] at hd
      have HD : Hid (m / 2 ^ i = 2 * (m / 2 ^ (i + 1)) + bitN m i) := hd
      have M1 : Hid (∀ W, Calls Tryd.prog 35 #[.int .i64 k, .agg #[.int .u64 (l0 (powN q n (m / 2 ^ (i + 1)))), .int .u64 (l1 (powN q n (m / 2 ^ (i + 1)))), .int .u64 (l2 (powN q n (m / 2 ^ (i + 1)))), .int .u64 (l3 (powN q n (m / 2 ^ (i + 1))))], .agg #[.int .u64 (l0 (powN q n (m / 2 ^ (i + 1)))), .int .u64 (l1 (powN q n (m / 2 ^ (i + 1)))), .int .u64 (l2 (powN q n (m / 2 ^ (i + 1)))), .int .u64 (l3 (powN q n (m / 2 ^ (i + 1))))]] W fun e w' => e = .returned (.agg #[.int .u64 (l0 (powN q n (2 * (m / 2 ^ (i + 1))))), .int .u64 (l1 (powN q n (2 * (m / 2 ^ (i + 1))))), .int .u64 (l2 (powN q n (2 * (m / 2 ^ (i + 1))))), .int .u64 (l3 (powN q n (2 * (m / 2 ^ (i + 1)))))]) ∧ Below W.heap.size W w') := fun W => by
        have := hT.out (powN_Num hf n (m / 2 ^ (i + 1))) (powN_Num hf n (m / 2 ^ (i + 1))) W
        rw [powN_twice q n q0] at this
        exact this
      have M2 : Hid (∀ W, Calls Tryd.prog 35 #[.int .i64 k, .agg #[.int .u64 (l0 (powN q n (2 * (m / 2 ^ (i + 1))))), .int .u64 (l1 (powN q n (2 * (m / 2 ^ (i + 1))))), .int .u64 (l2 (powN q n (2 * (m / 2 ^ (i + 1))))), .int .u64 (l3 (powN q n (2 * (m / 2 ^ (i + 1)))))], .agg #[.int .u64 (l0 n), .int .u64 (l1 n), .int .u64 (l2 n), .int .u64 (l3 n)]] W fun e w' => e = .returned (.agg #[.int .u64 (l0 (powN q n (2 * (m / 2 ^ (i + 1)) + 1))), .int .u64 (l1 (powN q n (2 * (m / 2 ^ (i + 1)) + 1))), .int .u64 (l2 (powN q n (2 * (m / 2 ^ (i + 1)) + 1))), .int .u64 (l3 (powN q n (2 * (m / 2 ^ (i + 1)) + 1)))]) ∧ Below W.heap.size W w') := fun W => by
        have := hT.out (powN_Num hf n (2 * (m / 2 ^ (i + 1)))) hn W
        rw [powN_next q n (by omega)] at this
        exact this
      have ea : Hid (((i + 1 : Nat) : Int) - 1 = i) := e1
      rw [e1]
      clear e1 eb hd
      generalize m / 2 ^ (i + 1) = E at *
      have gP := hP.1.cells
      go_wp2_with fail
      with_reducible refine (M1.out _).mono ?_
      rintro e w3 ⟨rfl, hb⟩
      replace B := B.trans (hb.mono B.size)
      replace hX := hX.keep hb; replace hY := hY.keep hb; replace hR := hR.keep hb; replace hP := hP.keep hb
      clear hb gP
      have gP := hP.1.cells; have fP := hP.2.all4; have gY := hY.cells
      go_wp2_with fail
      refine calls_world (fun W => Below w.heap.size w W ∧ Hold W w.heap.size n ∧ Hold W bw m ∧ Blank W br ∧ Var W bp (powN q n (2 * E))) ⟨below_set4 B o2 _ _ _ _, hX.set4 c1 _ _ _ _, hY.set4 c2 _ _ _ _, hR.set4 c3 _ _ _ _, hP.sets _⟩ ?_
      clear B hX hY hR hP gP fP gY
      rintro W ⟨B, hX, hY, hR, hP⟩
      refine (rbit_any hm W).mono ?_
      rintro e w4 ⟨rfl, hb⟩
      replace B := B.trans (hb.mono B.size)
      replace hX := hX.keep hb; replace hY := hY.keep hb; replace hR := hR.keep hb; replace hP := hP.keep hb
      clear hb W
      rcases bt with bt | bt
      · have hP' : Var w4 bp (powN q n (m / 2 ^ i)) := by rw [HD.out, bt, Int.add_zero]; exact hP
        clear hP HD
        go_wp2
        go_roundw
        case rel => exact ⟨i, by omega, by go_num, B, hX, hY, hR, hP'⟩
        case measure => first | (simp [intOf]; done) | (simp [intOf]; omega)
      · have gP := hP.1.cells; have gX := hX.cells
        have ee : Hid (m / 2 ^ i = 2 * E + 1) := by have := HD.out; rw [bt] at this; exact this
        clear HD
        go_wp2_with fail
        with_reducible refine (M2.out _).mono ?_
        rintro e w5 ⟨rfl, hb⟩
        replace B := B.trans (hb.mono B.size)
        replace hX := hX.keep hb; replace hY := hY.keep hb; replace hR := hR.keep hb; replace hP := hP.keep hb
        clear hb gP gX
        have gP := hP.1.cells; have fP := hP.2.all4
        go_wp2
        go_roundw
        case rel => exact ⟨i, by omega, by go_num, below_set4 B o2 _ _ _ _, hX.set4 c1 _ _ _ _, hY.set4 c2 _ _ _ _, hR.set4 c3 _ _ _ _, by rw [ee.out]; exact hP.sets _⟩
        case measure => first | (simp [intOf]; done) | (simp [intOf]; omega)

end Go.Proofs.YtagcbcmbojggkaaDoor
