import Derived.Test.YtgedkdkaddcmmaaDoorLen
import Derived.Test.YtgedkdkaddcmmaaDoorHold
import Derived.Test.YtgedkdkaddcmmaaDoorNum
import Derived.Test.YtgedkdkaddcmmaaDoorOut
namespace Go.Proofs.YtgedkdkaddcmmaaDoor
open Go.RowKit

set_option maxHeartbeats 1000000 in
theorem rbit_0 {x0 x1 x2 x3 k s : Int} (hx0 : Word x0) (_k0 : 0 ≤ k) (_k1 : k ≤ 255) (_s0 : 0 ≤ s) (_s1 : s ≤ 63) (hq : k / 64 = 0) (hr : k % 64 = s) (w : World) :
    Calls Tryd.prog 73 #[.agg #[.int .u64 x0, .int .u64 x1, .int .u64 x2, .int .u64 x3], .int .i64 k] w fun e w' => e = .returned (.int .i64 (x0 / 2 ^ s.toNat % 2)) ∧ Below w.heap.size w w' := by
  have p : (0 : Int) < 2 ^ s.toNat := Int.pow_pos (by decide)
  have b0 : 0 ≤ x0 / 2 ^ s.toNat := Int.ediv_nonneg hx0.1 (by omega)
  have b1 : x0 / 2 ^ s.toNat ≤ x0 := Int.ediv_le_self _ hx0.1
  obtain ⟨_, _⟩ := hx0
  go_enter Tryd.func73, Tryd.ntmps73
  go_wp2
  go_ret
  exact ⟨rfl, (Below.refl _ _).alloc (Nat.le_refl _) _⟩

set_option maxHeartbeats 1000000 in
theorem rbit_1 {x0 x1 x2 x3 k s : Int} (hx1 : Word x1) (_k0 : 0 ≤ k) (_k1 : k ≤ 255) (_s0 : 0 ≤ s) (_s1 : s ≤ 63) (hq : k / 64 = 1) (hr : k % 64 = s) (w : World) :
    Calls Tryd.prog 73 #[.agg #[.int .u64 x0, .int .u64 x1, .int .u64 x2, .int .u64 x3], .int .i64 k] w fun e w' => e = .returned (.int .i64 (x1 / 2 ^ s.toNat % 2)) ∧ Below w.heap.size w w' := by
  have p : (0 : Int) < 2 ^ s.toNat := Int.pow_pos (by decide)
  have b0 : 0 ≤ x1 / 2 ^ s.toNat := Int.ediv_nonneg hx1.1 (by omega)
  have b1 : x1 / 2 ^ s.toNat ≤ x1 := Int.ediv_le_self _ hx1.1
  obtain ⟨_, _⟩ := hx1
  go_enter Tryd.func73, Tryd.ntmps73
  go_wp2
  go_ret
  exact ⟨rfl, (Below.refl _ _).alloc (Nat.le_refl _) _⟩

set_option maxHeartbeats 1000000 in
theorem rbit_2 {x0 x1 x2 x3 k s : Int} (hx2 : Word x2) (_k0 : 0 ≤ k) (_k1 : k ≤ 255) (_s0 : 0 ≤ s) (_s1 : s ≤ 63) (hq : k / 64 = 2) (hr : k % 64 = s) (w : World) :
    Calls Tryd.prog 73 #[.agg #[.int .u64 x0, .int .u64 x1, .int .u64 x2, .int .u64 x3], .int .i64 k] w fun e w' => e = .returned (.int .i64 (x2 / 2 ^ s.toNat % 2)) ∧ Below w.heap.size w w' := by
  have p : (0 : Int) < 2 ^ s.toNat := Int.pow_pos (by decide)
  have b0 : 0 ≤ x2 / 2 ^ s.toNat := Int.ediv_nonneg hx2.1 (by omega)
  have b1 : x2 / 2 ^ s.toNat ≤ x2 := Int.ediv_le_self _ hx2.1
  obtain ⟨_, _⟩ := hx2
  go_enter Tryd.func73, Tryd.ntmps73
  go_wp2
  go_ret
  exact ⟨rfl, (Below.refl _ _).alloc (Nat.le_refl _) _⟩

set_option maxHeartbeats 1000000 in
theorem rbit_3 {x0 x1 x2 x3 k s : Int} (hx3 : Word x3) (_k0 : 0 ≤ k) (_k1 : k ≤ 255) (_s0 : 0 ≤ s) (_s1 : s ≤ 63) (hq : k / 64 = 3) (hr : k % 64 = s) (w : World) :
    Calls Tryd.prog 73 #[.agg #[.int .u64 x0, .int .u64 x1, .int .u64 x2, .int .u64 x3], .int .i64 k] w fun e w' => e = .returned (.int .i64 (x3 / 2 ^ s.toNat % 2)) ∧ Below w.heap.size w w' := by
  have p : (0 : Int) < 2 ^ s.toNat := Int.pow_pos (by decide)
  have b0 : 0 ≤ x3 / 2 ^ s.toNat := Int.ediv_nonneg hx3.1 (by omega)
  have b1 : x3 / 2 ^ s.toNat ≤ x3 := Int.ediv_le_self _ hx3.1
  obtain ⟨_, _⟩ := hx3
  go_enter Tryd.func73, Tryd.ntmps73
  go_wp2
  go_ret
  exact ⟨rfl, (Below.refl _ _).alloc (Nat.le_refl _) _⟩

theorem rbit_far {n k : Int} (h : k < 0 ∨ 255 < k) (w : World) :
    Calls Tryd.prog 73 #[.agg #[.int .u64 (l0 n), .int .u64 (l1 n), .int .u64 (l2 n), .int .u64 (l3 n)], .int .i64 k] w fun e w' => e = .returned (.int .i64 0) ∧ Below w.heap.size w w' := by
  rcases h with h | h
  · go_enter Tryd.func73, Tryd.ntmps73
    go_wp2
    go_ret
    exact ⟨rfl, (Below.refl _ _).alloc (Nat.le_refl _) _⟩
  · have h' : ¬ k < 0 := by omega
    go_enter Tryd.func73, Tryd.ntmps73
    go_wp2
    go_ret
    exact ⟨rfl, (Below.refl _ _).alloc (Nat.le_refl _) _⟩

theorem rbit_any {n k : Int} (hn : Num n) (w : World) :
    Calls Tryd.prog 73 #[.agg #[.int .u64 (l0 n), .int .u64 (l1 n), .int .u64 (l2 n), .int .u64 (l3 n)], .int .i64 k] w fun e w' => e = .returned (.int .i64 (bitN n k)) ∧ Below w.heap.size w w' := by
  unfold bitN
  split
  · rename_i h; exact rbit_far h w
  · rename_i h
    obtain ⟨r0, r1, r2, r3⟩ := bit_num (x3 := l3 n) (l0_word n) (l1_word n) (k := k) (l2_word n)
    rw [num_l hn] at r0 r1 r2 r3
    rcases (show k / 64 = 0 ∨ k / 64 = 1 ∨ k / 64 = 2 ∨ k / 64 = 3 by omega) with hq | hq | hq | hq
    · rw [r0 hq]; exact rbit_0 (l0_word n) (by omega) (by omega) (by omega) (by omega) hq rfl w
    · rw [r1 hq]; exact rbit_1 (l1_word n) (by omega) (by omega) (by omega) (by omega) hq rfl w
    · rw [r2 hq]; exact rbit_2 (l2_word n) (by omega) (by omega) (by omega) (by omega) hq rfl w
    · rw [r3 hq]; exact rbit_3 (l3_word n) (by omega) (by omega) (by omega) (by omega) hq rfl w

end Go.Proofs.YtgedkdkaddcmmaaDoor

namespace Go.Proofs.YtgedkdkaddcmmaaDoor
open Go.RowKit

theorem bit_top {n : Int} {j : Nat} (h0 : 0 ≤ n) (h : n < 2 ^ (j + 1)) : (n / 2 ^ j % 2 = 1 → 2 ^ j ≤ n) ∧ (n / 2 ^ j % 2 = 0 → n < 2 ^ j) := by
  have p := pow_pos' j
  rw [Int.pow_succ] at h
  have q0 : 0 ≤ n / 2 ^ j := Int.ediv_nonneg h0 (by omega)
  have q1 : n / 2 ^ j < 2 := Int.ediv_lt_of_lt_mul p (by rw [Int.mul_comm]; exact h)
  have d := Int.emod_add_mul_ediv n (2 ^ j)
  have m0 := Int.emod_nonneg n (show (2 : Int) ^ j ≠ 0 by omega)
  have m1 := Int.emod_lt_of_pos n p
  constructor
  · intro e
    have : n / 2 ^ j = 1 := by omega
    rw [this] at d; omega
  · intro e
    have : n / 2 ^ j = 0 := by omega
    rw [this] at d; omega

set_option maxRecDepth 100000 in
set_option maxHeartbeats 1000000 in
theorem rlen_any {n : Int} (hn : Num n) (w : World) :
    Calls Tryd.prog 72 #[.agg #[.int .u64 (l0 n), .int .u64 (l1 n), .int .u64 (l2 n), .int .u64 (l3 n)]] w fun e w' => e = .returned (.int .i64 (lenN n)) ∧ Below w.heap.size w w' := by
  have n0 := hn.1
  have top : Hid (n < 2 ^ 256) := by
    have := hn.2
    show n < 2 ^ 256
    rw [show (2 : Int) ^ 256 = 115792089237316195423570985008687907853269984665640564039457584007913129639936 by decide]
    exact this
  go_enter Tryd.func72, Tryd.ntmps72
  go_wp2_with fail
  refine wp_world (fun W => Below w.heap.size w W ∧ Hold W w.heap.size n) ⟨(Below.refl _ _).alloc (Nat.le_refl _) _, Hold.new w n _⟩ ?_
  rintro W ⟨B, hX⟩
  go_loopw [3] (fun a wr => ∃ j : Nat, j ≤ 256 ∧ a = .int .i64 ((j : Int) - 1) ∧ Below w.heap.size w wr ∧ Hold wr w.heap.size n ∧ Hid (n < 2 ^ j)) (fun a _ => (intOf a + 1).toNat)
  case atStart => exact ⟨256, by omega, rfl, B, hX, top⟩
  case round =>
    clear B hX
    obtain ⟨j, hj, rfl, B, hX, hl⟩ := hrel
    by_cases hz : j = 0
    · subst hz
      obtain rfl : n = 0 := by have := hl.out; simp at this; omega
      go_wp2
      go_ret
      rw [show lenN 0 = 0 by rfl]
      exact ⟨rfl, B⟩
    · obtain ⟨i, rfl⟩ : ∃ i, j = i + 1 := ⟨j - 1, by omega⟩
      have e1 : ((i + 1 : Nat) : Int) - 1 = i := by omega
      have bt := bit_top n0 hl.out
      have eb : bitN n i = n / 2 ^ i % 2 := by unfold bitN; rw [if_neg (by omega), Int.toNat_natCast]
      have br : bitN n i = 0 ∨ bitN n i = 1 := by rw [eb]; omega
      rw [← eb] at bt
      have gX := hX.cells
      have ea : Hid (((i + 1 : Nat) : Int) - 1 = i) := e1
      rw [e1]
      clear e1 eb
      rcases br with br | br
      · have lo : Hid (n < 2 ^ i) := bt.2 br
        clear bt
        go_wp2_with fail
        refine (rbit_any hn _).mono ?_
        rintro e w1 ⟨rfl, hb⟩
        replace B := B.trans (hb.mono B.size)
        replace hX := hX.keep hb
        clear hb gX
        go_wp2
        go_roundw
        case rel => exact ⟨i, by omega, by go_num, B, hX, lo⟩
        case measure => first | (simp [intOf]; done) | (simp [intOf]; omega)
      · have le : Hid (lenN n = (i : Int) + 1) := lenN_eq (bt.1 br) hl.out
        clear bt
        go_wp2_with fail
        refine (rbit_any hn _).mono ?_
        rintro e w1 ⟨rfl, hb⟩
        replace B := B.trans (hb.mono B.size)
        clear hb gX
        go_wp2
        go_ret
        rw [le.out]
        exact ⟨rfl, B⟩

end Go.Proofs.YtgedkdkaddcmmaaDoor

/- A number's bits, as the doublings take them. -/
namespace Go.Proofs.YtgedkdkaddcmmaaDoor
namespace EC
end EC
end Go.Proofs.YtgedkdkaddcmmaaDoor

namespace Go.Proofs.YtgedkdkaddcmmaaDoor
open Go.RowKit Go.Sort

end Go.Proofs.YtgedkdkaddcmmaaDoor
