import Derived.Test.YtagcbcmbojggkaaDoorRefBit
import Derived.Test.YtagcbcmbojggkaaDoorExpNum
import Derived.Test.YtagcbcmbojggkaaDoorRow
namespace Go.Proofs.YtagcbcmbojggkaaDoor
open Go.RowKit

theorem bit_top {n : Int} {j : Nat} (h0 : 0 ≤ n) (h : n < 2 ^ (j + 1)) : (n / 2 ^ j % 2 = 1 → 2 ^ j ≤ n) ∧ (n / 2 ^ j % 2 = 0 → n < 2 ^ j) := by
  have p := pow_pos' j
  rw [Int.pow_succ] at h
  have q0 : 0 ≤ n / 2 ^ j := Int.ediv_nonneg h0 (by omega)
  have q1 : n / 2 ^ j < 2 := Int.ediv_lt_of_lt_mul p (by rw [Int.mul_comm]; exact h)
  have d := Int.emod_add_mul_ediv n (2 ^ j)
  have m0 := Int.emod_nonneg n (show (2 : Int) ^ j ≠ 0 by omega)
  have m1 := Int.emod_lt_of_pos n p
  constructor
  · intro e
    have : n / 2 ^ j = 1 := by omega
    rw [this] at d; omega
  · intro e
    have : n / 2 ^ j = 0 := by omega
    rw [this] at d; omega

set_option maxRecDepth 100000 in
set_option maxHeartbeats 1000000 in
theorem rlen_any {n : Int} (hn : Num n) (w : World) :
    Calls Tryd.prog 34 #[.agg #[.int .u64 (l0 n), .int .u64 (l1 n), .int .u64 (l2 n), .int .u64 (l3 n)]] w fun e w' => e = .returned (.int .i64 (lenN n)) ∧ Below w.heap.size w w' := by
  have n0 := hn.1
  have top : Hid (n < 2 ^ 256) := by
    have := hn.2
    show n < 2 ^ 256
    rw [show (2 : Int) ^ 256 = 115792089237316195423570985008687907853269984665640564039457584007913129639936 by decide]
    exact this
  go_enter Tryd.func34, Tryd.ntmps34
  go_wp2_with fail
  refine wp_world (fun W => Below w.heap.size w W ∧ Hold W w.heap.size n) ⟨(Below.refl _ _).alloc (Nat.le_refl _) _, Hold.new w n _⟩ ?_
  rintro W ⟨B, hX⟩
  go_loopw [3] (fun a wr => ∃ j : Nat, j ≤ 256 ∧ a = .int .i64 ((j : Int) - 1) ∧ Below w.heap.size w wr ∧ Hold wr w.heap.size n ∧ Hid (n < 2 ^ j)) (fun a _ => (intOf a + 1).toNat)
  case atStart => exact ⟨256, by omega, rfl, B, hX, top⟩
  case round =>
    clear B hX
    obtain ⟨j, hj, rfl, B, hX, hl⟩ := hrel
    by_cases hz : j = 0
    · subst hz
      obtain rfl : n = 0 := by have := hl.out; simp at this; omega
      go_wp2
      go_ret
      rw [show lenN 0 = 0 by rfl]
      exact ⟨rfl, B⟩
    · obtain ⟨i, rfl⟩ : ∃ i, j = i + 1 := ⟨j - 1, by omega⟩
      have e1 : ((i + 1 : Nat) : Int) - 1 = i := by omega
      have bt := bit_top n0 hl.out
      have eb : bitN n i = n / 2 ^ i % 2 := by unfold bitN; rw [if_neg (by omega), Int.toNat_natCast]
      have br : bitN n i = 0 ∨ bitN n i = 1 := by rw [eb]; omega
      rw [← eb] at bt
      have gX := hX.cells
      have ea : Hid (((i + 1 : Nat) : Int) - 1 = i) := e1
      rw [e1]
      clear e1 eb
      rcases br with br | br
      · have lo : Hid (n < 2 ^ i) := bt.2 br
        clear bt
        go_wp2_with fail
        refine (rbit_any hn _).mono ?_
        rintro e w1 ⟨rfl, hb⟩
        replace B := B.trans (hb.mono B.size)
        replace hX := hX.keep hb
        clear hb gX
        go_wp2
        go_roundw
        case rel => exact ⟨i, by omega, by go_num, B, hX, lo⟩
        case measure => first | (simp [intOf]; done) | (simp [intOf]; omega)
      · have le : Hid (lenN n = (i : Int) + 1) := lenN_eq (bt.1 br) hl.out
        clear bt
        go_wp2_with fail
        refine (rbit_any hn _).mono ?_
        rintro e w1 ⟨rfl, hb⟩
        replace B := B.trans (hb.mono B.size)
        clear hb gX
        go_wp2
        go_ret
        rw [le.out]
        exact ⟨rfl, B⟩

end Go.Proofs.YtagcbcmbojggkaaDoor
