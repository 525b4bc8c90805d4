import Derived.Test.YtjjimkhppoppbabExpNum
import Derived.Test.YtjjimkhppoppbabRowHold
import Derived.Test.YtjjimkhppoppbabLen
import Derived.Test.YtjjimkhppoppbabCmp
import Derived.Test.YtjjimkhppoppbabMul2
import Derived.Test.YtjjimkhppoppbabOut
namespace Go.Proofs.Ytjjimkhppoppbab
open Go.RowKit

theorem Blank.new {W : World} {b : Nat} {t : TypeId} (e : b = W.heap.size) : Blank (W.alloc (.cells #[.int .u64 0, .int .u64 0, .int .u64 0, .int .u64 0] t)) b := by
  subst e; exact ⟨Row.new W [0, 0, 0, 0] t, Loose.new _ _ _ _⟩
theorem Blank.set4 {W : World} {b b' : Nat} (h : Blank W b) (ne : b' ≠ b) (v0 v1 v2 v3 : Value) : Blank ((((W.setCell ⟨b', 0, none⟩ v0).setCell ⟨b', 1, none⟩ v1).setCell ⟨b', 2, none⟩ v2).setCell ⟨b', 3, none⟩ v3) b :=
  (((h.set ne v0).set ne v1).set ne v2).set ne v3
/-- Block b holds the number n and may be written. -/
def Var (W : World) (b : Nat) (n : Int) : Prop := Hold W b n ∧ Loose W b 4
theorem Var.keep {W w1 : World} {b : Nat} {n : Int} (h : Var W b n) (hb : Below W.heap.size W w1) : Var w1 b n := ⟨h.1.keep hb, h.2.keep hb (h.1.row.lt (by simp))⟩
theorem Var.alloc {W : World} {b : Nat} {n : Int} (h : Var W b n) (o : Obj) : Var (W.alloc o) b n := h.keep ((Below.refl _ _).alloc (Nat.le_refl _) o)
theorem Var.new {W : World} {b : Nat} {n : Int} {t : TypeId} (e : b = W.heap.size) : Var (W.alloc (.cells #[.int .u64 (l0 n), .int .u64 (l1 n), .int .u64 (l2 n), .int .u64 (l3 n)] t)) b n := by
  subst e; exact ⟨Hold.new W n t, Loose.new _ _ _ _⟩
theorem Var.sets {W : World} {b : Nat} {n : Int} (h : Var W b n) (k : Int) : Var ((((W.setCell ⟨b, 0, none⟩ (.int .u64 (l0 k))).setCell ⟨b, 1, none⟩ (.int .u64 (l1 k))).setCell ⟨b, 2, none⟩ (.int .u64 (l2 k))).setCell ⟨b, 3, none⟩ (.int .u64 (l3 k))) b k :=
  ⟨Hold.sets4 h.1.has, (((h.2.set _ _).set _ _).set _ _).set _ _⟩
theorem Var.set4 {W : World} {b b' : Nat} {n : Int} (h : Var W b n) (ne : b' ≠ b) (v0 v1 v2 v3 : Value) : Var ((((W.setCell ⟨b', 0, none⟩ v0).setCell ⟨b', 1, none⟩ v1).setCell ⟨b', 2, none⟩ v2).setCell ⟨b', 3, none⟩ v3) b n :=
  ⟨h.1.set4 ne v0 v1 v2 v3, (((h.2.set _ _).set _ _).set _ _).set _ _⟩

set_option maxRecDepth 100000 in
set_option maxHeartbeats 4000000 in
theorem exp_any {n m : Int} (hn : Num n) (hm : Num m) (w : World) :
    Calls Try.prog 6 #[.agg #[.int .u64 (l0 n), .int .u64 (l1 n), .int .u64 (l2 n), .int .u64 (l3 n)], .agg #[.int .u64 (l0 m), .int .u64 (l1 m), .int .u64 (l2 m), .int .u64 (l3 m)]] w fun e w' => e = .returned (.agg #[.int .u64 (l0 (expN n m)), .int .u64 (l1 (expN n m)), .int .u64 (l2 (expN n m)), .int .u64 (l3 (expN n m))]) ∧ Below w.heap.size w w' := by
  have one : Word 1 := ⟨by decide, by decide⟩
  go_enter Try.func6, Try.ntmps6
  go_wp2_with fail
  refine calls_world (fun W => Below w.heap.size w W ∧ Hold W w.heap.size n ∧ Hold W (w.heap.size + 1) m ∧ Blank W (w.heap.size + 1 + 1)) ⟨?_, ?_, ?_, ?_⟩ ?_
  · repeat (first | with_reducible exact Below.refl _ _ | with_reducible refine Below.alloc ?_ (by first | omega | (simp; done) | (simp; omega)) _)
  · exact ((Hold.new w n _).alloc _).alloc _
  · exact (Hold.fresh (by simp)).alloc _
  · exact Blank.new (by simp)
  rintro W ⟨B, hX, hY, hR⟩
  have o1 : w.heap.size ≤ w.heap.size + 1 + 1 := by omega
  generalize w.heap.size + 1 + 1 = br at *
  generalize w.heap.size + 1 = bw at *
  refine (from_any one W).mono ?_
  rintro e w1 ⟨rfl, hb⟩
  replace B := B.trans (hb.mono B.size)
  replace hX := hX.keep hb; replace hY := hY.keep hb; replace hR := hR.keep hb
  clear hb W
  have gY := hY.allocs
  go_wp2_with fail
  have c1 : w1.heap.size ≠ w.heap.size := by have := hX.row.lt (by simp); omega
  have c2 : w1.heap.size ≠ bw := by have := hY.row.lt (by simp); omega
  have c3 : w1.heap.size ≠ br := by have := hR.1.lt (by simp); omega
  have o2 : w.heap.size ≤ w1.heap.size := B.size
  refine calls_world (fun W => Below w.heap.size w W ∧ Hold W w.heap.size n ∧ Hold W bw m ∧ Blank W br ∧ Var W w1.heap.size 1) ⟨B.alloc B.size _, hX.alloc _, hY.alloc _, hR.alloc _, Var.new rfl⟩ ?_
  clear B hX hY hR gY
  rintro W ⟨B, hX, hY, hR, hP⟩
  generalize w1.heap.size = bp at *
  refine (len_any hm W).mono ?_
  rintro e w2 ⟨rfl, hb⟩
  replace B := B.trans (hb.mono B.size)
  replace hX := hX.keep hb; replace hY := hY.keep hb; replace hR := hR.keep hb; replace hP := hP.keep hb
  clear hb W
  obtain ⟨j0, ej, hj0, _, ez⟩ := lenN_bound hm
  rw [ej]
  have hP0 : Var w2 bp (expN n (m / 2 ^ j0)) := by rw [ez, expN_zero]; exact hP
  clear hP ez ej
  go_wp2_with fail
  go_loopw [6] (fun a wr => ∃ j : Nat, j ≤ 256 ∧ a = .int .i64 ((j : Int) - 1) ∧ Below w.heap.size w wr ∧ Hold wr w.heap.size n ∧ Hold wr bw m ∧ Blank wr br ∧ Var wr bp (expN n (m / 2 ^ j))) (fun a _ => (intOf a + 1).toNat)
  case atStart => exact ⟨j0, hj0, by go_num, B, hX, hY, hR, hP0⟩
  case round =>
    clear B hX hY hR hP0
    obtain ⟨j, hj, rfl, B, hX, hY, hR, hP⟩ := hrel
    by_cases hz : j = 0
    · subst hz
      rw [show m / 2 ^ 0 = m by simp] at hP
      have gP := hP.1.cells; have gR := hR.1.all4; have fR := hR.2.all4
      go_wp2
      simp [bodyPost, results, Try.results6, go_sem, gR]
      exact below_set4 B o1 _ _ _ _
    · obtain ⟨i, rfl⟩ : ∃ i, j = i + 1 := ⟨j - 1, by omega⟩
      have e1 : ((i + 1 : Nat) : Int) - 1 = i := by omega
      have hd := half_bit m i
      have eb := bitN_eq m (show i < 256 by omega)
      have q0 : 0 ≤ m / 2 ^ (i + 1) := Int.ediv_nonneg hm.1 (Int.le_of_lt (Int.pow_pos (by decide)))
      have bt : bitN m i = 0 ∨ bitN m i = 1 := by rw [eb]; omega
      rw [← eb] at hd
      have HD : Hid (m / 2 ^ i = 2 * (m / 2 ^ (i + 1)) + bitN m i) := hd
      have M1 : Hid (∀ W, Calls Try.prog 16 #[.agg #[.int .u64 (l0 (expN n (m / 2 ^ (i + 1)))), .int .u64 (l1 (expN n (m / 2 ^ (i + 1)))), .int .u64 (l2 (expN n (m / 2 ^ (i + 1)))), .int .u64 (l3 (expN n (m / 2 ^ (i + 1))))], .agg #[.int .u64 (l0 (expN n (m / 2 ^ (i + 1)))), .int .u64 (l1 (expN n (m / 2 ^ (i + 1)))), .int .u64 (l2 (expN n (m / 2 ^ (i + 1)))), .int .u64 (l3 (expN n (m / 2 ^ (i + 1))))]] W fun e w' => e = .returned (.tuple #[.agg #[.int .u64 (l0 (hiN (expN n (m / 2 ^ (i + 1))) (expN n (m / 2 ^ (i + 1))))), .int .u64 (l1 (hiN (expN n (m / 2 ^ (i + 1))) (expN n (m / 2 ^ (i + 1))))), .int .u64 (l2 (hiN (expN n (m / 2 ^ (i + 1))) (expN n (m / 2 ^ (i + 1))))), .int .u64 (l3 (hiN (expN n (m / 2 ^ (i + 1))) (expN n (m / 2 ^ (i + 1)))))], .agg #[.int .u64 (l0 (expN n (2 * (m / 2 ^ (i + 1))))), .int .u64 (l1 (expN n (2 * (m / 2 ^ (i + 1))))), .int .u64 (l2 (expN n (2 * (m / 2 ^ (i + 1))))), .int .u64 (l3 (expN n (2 * (m / 2 ^ (i + 1)))))]]) ∧ Below W.heap.size W w') := fun W => by
        have := mul_any (expN_Num n (m / 2 ^ (i + 1))) (expN_Num n (m / 2 ^ (i + 1))) W
        rw [expN_twice n q0] at this
        exact this
      have M2 : Hid (∀ W, Calls Try.prog 16 #[.agg #[.int .u64 (l0 (expN n (2 * (m / 2 ^ (i + 1))))), .int .u64 (l1 (expN n (2 * (m / 2 ^ (i + 1))))), .int .u64 (l2 (expN n (2 * (m / 2 ^ (i + 1))))), .int .u64 (l3 (expN n (2 * (m / 2 ^ (i + 1)))))], .agg #[.int .u64 (l0 n), .int .u64 (l1 n), .int .u64 (l2 n), .int .u64 (l3 n)]] W fun e w' => e = .returned (.tuple #[.agg #[.int .u64 (l0 (hiN (expN n (2 * (m / 2 ^ (i + 1)))) n)), .int .u64 (l1 (hiN (expN n (2 * (m / 2 ^ (i + 1)))) n)), .int .u64 (l2 (hiN (expN n (2 * (m / 2 ^ (i + 1)))) n)), .int .u64 (l3 (hiN (expN n (2 * (m / 2 ^ (i + 1)))) n))], .agg #[.int .u64 (l0 (expN n (2 * (m / 2 ^ (i + 1)) + 1))), .int .u64 (l1 (expN n (2 * (m / 2 ^ (i + 1)) + 1))), .int .u64 (l2 (expN n (2 * (m / 2 ^ (i + 1)) + 1))), .int .u64 (l3 (expN n (2 * (m / 2 ^ (i + 1)) + 1)))]]) ∧ Below W.heap.size W w') := fun W => by
        have := mul_any (expN_Num n (2 * (m / 2 ^ (i + 1)))) hn W
        rw [expN_next n (by omega)] at this
        exact this
      have ea : Hid (((i + 1 : Nat) : Int) - 1 = i) := e1
      rw [e1]
      clear e1 eb hd
      generalize m / 2 ^ (i + 1) = E at *
      have gP := hP.1.cells
      go_wp2_with fail
      refine (M1.out _).mono ?_
      rintro e w3 ⟨rfl, hb⟩
      replace B := B.trans (hb.mono B.size)
      replace hX := hX.keep hb; replace hY := hY.keep hb; replace hR := hR.keep hb; replace hP := hP.keep hb
      clear hb gP
      have gP := hP.1.cells; have fP := hP.2.all4; have gY := hY.cells
      go_wp2_with fail
      refine calls_world (fun W => Below w.heap.size w W ∧ Hold W w.heap.size n ∧ Hold W bw m ∧ Blank W br ∧ Var W bp (expN n (2 * E))) ⟨below_set4 B o2 _ _ _ _, hX.set4 c1 _ _ _ _, hY.set4 c2 _ _ _ _, hR.set4 c3 _ _ _ _, hP.sets _⟩ ?_
      clear B hX hY hR hP gP fP gY
      rintro W ⟨B, hX, hY, hR, hP⟩
      refine (bit_any hm W).mono ?_
      rintro e w4 ⟨rfl, hb⟩
      replace B := B.trans (hb.mono B.size)
      replace hX := hX.keep hb; replace hY := hY.keep hb; replace hR := hR.keep hb; replace hP := hP.keep hb
      clear hb W
      rcases bt with bt | bt
      · have hP' : Var w4 bp (expN n (m / 2 ^ i)) := by rw [HD.out, bt, Int.add_zero]; exact hP
        clear hP HD
        go_wp2
        go_roundw
        case rel => exact ⟨i, by omega, by go_num, B, hX, hY, hR, hP'⟩
        case measure => first | (simp [intOf]; done) | (simp [intOf]; omega)
      · have gP := hP.1.cells; have gX := hX.cells
        have ee : Hid (m / 2 ^ i = 2 * E + 1) := by have := HD.out; rw [bt] at this; exact this
        clear HD
        go_wp2_with fail
        refine (M2.out _).mono ?_
        rintro e w5 ⟨rfl, hb⟩
        replace B := B.trans (hb.mono B.size)
        replace hX := hX.keep hb; replace hY := hY.keep hb; replace hR := hR.keep hb; replace hP := hP.keep hb
        clear hb gP gX
        have gP := hP.1.cells; have fP := hP.2.all4
        go_wp2
        go_roundw
        case rel => exact ⟨i, by omega, by go_num, below_set4 B o2 _ _ _ _, hX.set4 c1 _ _ _ _, hY.set4 c2 _ _ _ _, hR.set4 c3 _ _ _ _, by rw [ee.out]; exact hP.sets _⟩
        case measure => first | (simp [intOf]; done) | (simp [intOf]; omega)
end Go.Proofs.Ytjjimkhppoppbab
