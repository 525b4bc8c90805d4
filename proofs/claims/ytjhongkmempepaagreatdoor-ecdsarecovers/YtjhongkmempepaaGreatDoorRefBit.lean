import Derived.Test.YtjhongkmempepaaGreatDoorLen
import Derived.Test.YtjhongkmempepaaGreatDoorHold
import Derived.Test.YtjhongkmempepaaGreatDoorNum
namespace Go.Proofs.YtjhongkmempepaaGreatDoor
open Go.RowKit

set_option maxHeartbeats 1000000 in
theorem rbit_0 {x0 x1 x2 x3 k s : Int} (hx0 : Word x0) (_k0 : 0 ≤ k) (_k1 : k ≤ 255) (_s0 : 0 ≤ s) (_s1 : s ≤ 63) (hq : k / 64 = 0) (hr : k % 64 = s) (w : World) :
    Calls Tryz.prog 114 #[.agg #[.int .u64 x0, .int .u64 x1, .int .u64 x2, .int .u64 x3], .int .i64 k] w fun e w' => e = .returned (.int .i64 (x0 / 2 ^ s.toNat % 2)) ∧ Below w.heap.size w w' := by
  have p : (0 : Int) < 2 ^ s.toNat := Int.pow_pos (by decide)
  have b0 : 0 ≤ x0 / 2 ^ s.toNat := Int.ediv_nonneg hx0.1 (by omega)
  have b1 : x0 / 2 ^ s.toNat ≤ x0 := Int.ediv_le_self _ hx0.1
  obtain ⟨_, _⟩ := hx0
  go_enter Tryz.func114, Tryz.ntmps114
  go_wp2
  go_ret
  exact ⟨rfl, (Below.refl _ _).alloc (Nat.le_refl _) _⟩

set_option maxHeartbeats 1000000 in
theorem rbit_1 {x0 x1 x2 x3 k s : Int} (hx1 : Word x1) (_k0 : 0 ≤ k) (_k1 : k ≤ 255) (_s0 : 0 ≤ s) (_s1 : s ≤ 63) (hq : k / 64 = 1) (hr : k % 64 = s) (w : World) :
    Calls Tryz.prog 114 #[.agg #[.int .u64 x0, .int .u64 x1, .int .u64 x2, .int .u64 x3], .int .i64 k] w fun e w' => e = .returned (.int .i64 (x1 / 2 ^ s.toNat % 2)) ∧ Below w.heap.size w w' := by
  have p : (0 : Int) < 2 ^ s.toNat := Int.pow_pos (by decide)
  have b0 : 0 ≤ x1 / 2 ^ s.toNat := Int.ediv_nonneg hx1.1 (by omega)
  have b1 : x1 / 2 ^ s.toNat ≤ x1 := Int.ediv_le_self _ hx1.1
  obtain ⟨_, _⟩ := hx1
  go_enter Tryz.func114, Tryz.ntmps114
  go_wp2
  go_ret
  exact ⟨rfl, (Below.refl _ _).alloc (Nat.le_refl _) _⟩

set_option maxHeartbeats 1000000 in
theorem rbit_2 {x0 x1 x2 x3 k s : Int} (hx2 : Word x2) (_k0 : 0 ≤ k) (_k1 : k ≤ 255) (_s0 : 0 ≤ s) (_s1 : s ≤ 63) (hq : k / 64 = 2) (hr : k % 64 = s) (w : World) :
    Calls Tryz.prog 114 #[.agg #[.int .u64 x0, .int .u64 x1, .int .u64 x2, .int .u64 x3], .int .i64 k] w fun e w' => e = .returned (.int .i64 (x2 / 2 ^ s.toNat % 2)) ∧ Below w.heap.size w w' := by
  have p : (0 : Int) < 2 ^ s.toNat := Int.pow_pos (by decide)
  have b0 : 0 ≤ x2 / 2 ^ s.toNat := Int.ediv_nonneg hx2.1 (by omega)
  have b1 : x2 / 2 ^ s.toNat ≤ x2 := Int.ediv_le_self _ hx2.1
  obtain ⟨_, _⟩ := hx2
  go_enter Tryz.func114, Tryz.ntmps114
  go_wp2
  go_ret
  exact ⟨rfl, (Below.refl _ _).alloc (Nat.le_refl _) _⟩

set_option maxHeartbeats 1000000 in
theorem rbit_3 {x0 x1 x2 x3 k s : Int} (hx3 : Word x3) (_k0 : 0 ≤ k) (_k1 : k ≤ 255) (_s0 : 0 ≤ s) (_s1 : s ≤ 63) (hq : k / 64 = 3) (hr : k % 64 = s) (w : World) :
    Calls Tryz.prog 114 #[.agg #[.int .u64 x0, .int .u64 x1, .int .u64 x2, .int .u64 x3], .int .i64 k] w fun e w' => e = .returned (.int .i64 (x3 / 2 ^ s.toNat % 2)) ∧ Below w.heap.size w w' := by
  have p : (0 : Int) < 2 ^ s.toNat := Int.pow_pos (by decide)
  have b0 : 0 ≤ x3 / 2 ^ s.toNat := Int.ediv_nonneg hx3.1 (by omega)
  have b1 : x3 / 2 ^ s.toNat ≤ x3 := Int.ediv_le_self _ hx3.1
  obtain ⟨_, _⟩ := hx3
  go_enter Tryz.func114, Tryz.ntmps114
  go_wp2
  go_ret
  exact ⟨rfl, (Below.refl _ _).alloc (Nat.le_refl _) _⟩

theorem rbit_far {n k : Int} (h : k < 0 ∨ 255 < k) (w : World) :
    Calls Tryz.prog 114 #[.agg #[.int .u64 (l0 n), .int .u64 (l1 n), .int .u64 (l2 n), .int .u64 (l3 n)], .int .i64 k] w fun e w' => e = .returned (.int .i64 0) ∧ Below w.heap.size w w' := by
  rcases h with h | h
  · go_enter Tryz.func114, Tryz.ntmps114
    go_wp2
    go_ret
    exact ⟨rfl, (Below.refl _ _).alloc (Nat.le_refl _) _⟩
  · have h' : ¬ k < 0 := by omega
    go_enter Tryz.func114, Tryz.ntmps114
    go_wp2
    go_ret
    exact ⟨rfl, (Below.refl _ _).alloc (Nat.le_refl _) _⟩

theorem rbit_any {n k : Int} (hn : Num n) (w : World) :
    Calls Tryz.prog 114 #[.agg #[.int .u64 (l0 n), .int .u64 (l1 n), .int .u64 (l2 n), .int .u64 (l3 n)], .int .i64 k] w fun e w' => e = .returned (.int .i64 (bitN n k)) ∧ Below w.heap.size w w' := by
  unfold bitN
  split
  · rename_i h; exact rbit_far h w
  · rename_i h
    obtain ⟨r0, r1, r2, r3⟩ := bit_num (x3 := l3 n) (l0_word n) (l1_word n) (k := k) (l2_word n)
    rw [num_l hn] at r0 r1 r2 r3
    rcases (show k / 64 = 0 ∨ k / 64 = 1 ∨ k / 64 = 2 ∨ k / 64 = 3 by omega) with hq | hq | hq | hq
    · rw [r0 hq]; exact rbit_0 (l0_word n) (by omega) (by omega) (by omega) (by omega) hq rfl w
    · rw [r1 hq]; exact rbit_1 (l1_word n) (by omega) (by omega) (by omega) (by omega) hq rfl w
    · rw [r2 hq]; exact rbit_2 (l2_word n) (by omega) (by omega) (by omega) (by omega) hq rfl w
    · rw [r3 hq]; exact rbit_3 (l3_word n) (by omega) (by omega) (by omega) (by omega) hq rfl w

set_option maxHeartbeats 1000000 in
theorem with_0 {x0 x1 x2 x3 k s : Int} (_k0 : 0 ≤ k) (_k1 : k ≤ 255) (_s0 : 0 ≤ s) (_s1 : s ≤ 63) (hq : k / 64 = 0) (hr : k % 64 = s) (w : World) :
    Calls Tryz.prog 129 #[.agg #[.int .u64 x0, .int .u64 x1, .int .u64 x2, .int .u64 x3], .int .i64 k] w fun e w' => e = .returned (.agg #[.int .u64 (bits .or .u64 x0 (2 ^ s.toNat)), .int .u64 x1, .int .u64 x2, .int .u64 x3]) ∧ Below w.heap.size w w' := by
  obtain ⟨e, p1, p2⟩ := pow_pair _s0 _s1
  have pw : IntKind.u64.wrap (2 ^ s.toNat) = 2 ^ s.toNat := by
    rw [IntKind.wrap_u64]
    have : (2 : Int) ^ s.toNat * 2 ≤ 2 ^ s.toNat * 2 ^ (64 - s).toNat := Int.mul_le_mul_of_nonneg_left p2 (show (0 : Int) ≤ 2 ^ s.toNat by omega)
    omega
  clear e p1 p2
  go_enter Tryz.func129, Tryz.ntmps129
  go_wp2
  simp [bodyPost, results, Tryz.results129, go_sem]
  repeat (first | with_reducible exact Below.refl _ _ | with_reducible refine Below.drew ?_ | with_reducible refine Below.alloc ?_ (by first | omega | (simp; done) | (simp; omega)) _)

set_option maxHeartbeats 1000000 in
theorem with_1 {x0 x1 x2 x3 k s : Int} (_k0 : 0 ≤ k) (_k1 : k ≤ 255) (_s0 : 0 ≤ s) (_s1 : s ≤ 63) (hq : k / 64 = 1) (hr : k % 64 = s) (w : World) :
    Calls Tryz.prog 129 #[.agg #[.int .u64 x0, .int .u64 x1, .int .u64 x2, .int .u64 x3], .int .i64 k] w fun e w' => e = .returned (.agg #[.int .u64 x0, .int .u64 (bits .or .u64 x1 (2 ^ s.toNat)), .int .u64 x2, .int .u64 x3]) ∧ Below w.heap.size w w' := by
  obtain ⟨e, p1, p2⟩ := pow_pair _s0 _s1
  have pw : IntKind.u64.wrap (2 ^ s.toNat) = 2 ^ s.toNat := by
    rw [IntKind.wrap_u64]
    have : (2 : Int) ^ s.toNat * 2 ≤ 2 ^ s.toNat * 2 ^ (64 - s).toNat := Int.mul_le_mul_of_nonneg_left p2 (show (0 : Int) ≤ 2 ^ s.toNat by omega)
    omega
  clear e p1 p2
  go_enter Tryz.func129, Tryz.ntmps129
  go_wp2
  simp [bodyPost, results, Tryz.results129, go_sem]
  repeat (first | with_reducible exact Below.refl _ _ | with_reducible refine Below.drew ?_ | with_reducible refine Below.alloc ?_ (by first | omega | (simp; done) | (simp; omega)) _)

set_option maxHeartbeats 1000000 in
theorem with_2 {x0 x1 x2 x3 k s : Int} (_k0 : 0 ≤ k) (_k1 : k ≤ 255) (_s0 : 0 ≤ s) (_s1 : s ≤ 63) (hq : k / 64 = 2) (hr : k % 64 = s) (w : World) :
    Calls Tryz.prog 129 #[.agg #[.int .u64 x0, .int .u64 x1, .int .u64 x2, .int .u64 x3], .int .i64 k] w fun e w' => e = .returned (.agg #[.int .u64 x0, .int .u64 x1, .int .u64 (bits .or .u64 x2 (2 ^ s.toNat)), .int .u64 x3]) ∧ Below w.heap.size w w' := by
  obtain ⟨e, p1, p2⟩ := pow_pair _s0 _s1
  have pw : IntKind.u64.wrap (2 ^ s.toNat) = 2 ^ s.toNat := by
    rw [IntKind.wrap_u64]
    have : (2 : Int) ^ s.toNat * 2 ≤ 2 ^ s.toNat * 2 ^ (64 - s).toNat := Int.mul_le_mul_of_nonneg_left p2 (show (0 : Int) ≤ 2 ^ s.toNat by omega)
    omega
  clear e p1 p2
  go_enter Tryz.func129, Tryz.ntmps129
  go_wp2
  simp [bodyPost, results, Tryz.results129, go_sem]
  repeat (first | with_reducible exact Below.refl _ _ | with_reducible refine Below.drew ?_ | with_reducible refine Below.alloc ?_ (by first | omega | (simp; done) | (simp; omega)) _)

set_option maxHeartbeats 1000000 in
theorem with_3 {x0 x1 x2 x3 k s : Int} (_k0 : 0 ≤ k) (_k1 : k ≤ 255) (_s0 : 0 ≤ s) (_s1 : s ≤ 63) (hq : k / 64 = 3) (hr : k % 64 = s) (w : World) :
    Calls Tryz.prog 129 #[.agg #[.int .u64 x0, .int .u64 x1, .int .u64 x2, .int .u64 x3], .int .i64 k] w fun e w' => e = .returned (.agg #[.int .u64 x0, .int .u64 x1, .int .u64 x2, .int .u64 (bits .or .u64 x3 (2 ^ s.toNat))]) ∧ Below w.heap.size w w' := by
  obtain ⟨e, p1, p2⟩ := pow_pair _s0 _s1
  have pw : IntKind.u64.wrap (2 ^ s.toNat) = 2 ^ s.toNat := by
    rw [IntKind.wrap_u64]
    have : (2 : Int) ^ s.toNat * 2 ≤ 2 ^ s.toNat * 2 ^ (64 - s).toNat := Int.mul_le_mul_of_nonneg_left p2 (show (0 : Int) ≤ 2 ^ s.toNat by omega)
    omega
  clear e p1 p2
  go_enter Tryz.func129, Tryz.ntmps129
  go_wp2
  simp [bodyPost, results, Tryz.results129, go_sem]
  repeat (first | with_reducible exact Below.refl _ _ | with_reducible refine Below.drew ?_ | with_reducible refine Below.alloc ?_ (by first | omega | (simp; done) | (simp; omega)) _)

/-- A bit that is not there yet, put in. -/
theorem or_bit {x s : Int} (x0 : 0 ≤ x) (hx : x < 2 ^ s.toNat) (s0 : 0 ≤ s) (s1 : s ≤ 63) : bits .or .u64 x (2 ^ s.toNat) = x + 2 ^ s.toNat := by
  obtain ⟨e, p1, p2⟩ := pow_pair s0 s1
  have h2 : (2 : Int) ^ s.toNat * 2 ≤ 2 ^ s.toNat * 2 ^ (64 - s).toNat := Int.mul_le_mul_of_nonneg_left p2 (show (0 : Int) ≤ 2 ^ s.toNat by omega)
  rw [e] at h2
  obtain ⟨x, rfl⟩ := Int.eq_ofNat_of_zero_le x0
  have c : ((2 : Int) ^ s.toNat) = ((2 ^ s.toNat : Nat) : Int) := by simp
  rw [c] at hx h2 ⊢
  have r := or_sum s.toNat 1 x (by omega) (by omega) (by omega)
  rw [Nat.mul_one] at r
  rw [or_comm _ _ (by omega) (by omega), r, Int.natCast_add, Int.add_comm]

theorem with_any {n k : Int} (hn : Num n) (k0 : 0 ≤ k) (k1 : k ≤ 255) (hk : n < 2 ^ k.toNat) (w : World) :
    Calls Tryz.prog 129 #[.agg #[.int .u64 (l0 n), .int .u64 (l1 n), .int .u64 (l2 n), .int .u64 (l3 n)], .int .i64 k] w fun e w' => e = .returned (.agg #[.int .u64 (l0 (n + 2 ^ k.toNat)), .int .u64 (l1 (n + 2 ^ k.toNat)), .int .u64 (l2 (n + 2 ^ k.toNat)), .int .u64 (l3 (n + 2 ^ k.toNat))]) ∧ Below w.heap.size w w' := by
  have h0 := l0_word n; have h1 := l1_word n; have h2 := l2_word n; have h3 := l3_word n
  have en := num_l hn
  have s0 : 0 ≤ k % 64 := by omega
  have s1 : k % 64 ≤ 63 := by omega
  obtain ⟨e, p1, p2⟩ := pow_pair s0 s1
  have p3 : (2 : Int) ^ (k % 64).toNat * 2 ≤ 2 ^ (k % 64).toNat * 2 ^ (64 - k % 64).toNat := Int.mul_le_mul_of_nonneg_left p2 (show (0 : Int) ≤ 2 ^ (k % 64).toNat by omega)
  rw [e] at p3
  generalize l0 n = x0 at *; generalize l1 n = x1 at *; generalize l2 n = x2 at *; generalize l3 n = x3 at *
  rw [← en] at hk ⊢
  clear en hn e p2
  rcases (show k / 64 = 0 ∨ k / 64 = 1 ∨ k / 64 = 2 ∨ k / 64 = 3 by omega) with hq | hq | hq | hq
  · have hk2 := pow_split 0 s0 (show k = 64 * (0 : Nat) + k % 64 by omega)
    rw [hk2, show (2 : Int) ^ (64 * 0) = 1 by decide] at hk ⊢
    generalize hP : (2 : Int) ^ (k % 64).toNat = P at *
    obtain ⟨rfl, rfl, rfl, lt⟩ : x1 = 0 ∧ x2 = 0 ∧ x3 = 0 ∧ x0 < 2 ^ (k % 64).toNat := by unfold num Word at *; omega
    have wq : Word (x0 + P) := by unfold Word at *; omega
    have o := or_bit (s := k % 64) h0.1 lt s0 s1
    rw [hP] at o
    obtain ⟨r0, r1, r2, r3⟩ := limbs_of (n := num x0 0 0 0 + 1 * P) wq ⟨by decide, by decide⟩ ⟨by decide, by decide⟩ ⟨by decide, by decide⟩ (show _ = num (x0 + P) 0 0 0 by unfold num; omega)
    rw [r0, r1, r2, r3, ← o, ← hP]
    exact with_0 k0 k1 s0 s1 hq rfl w
  · have hk2 := pow_split 1 s0 (show k = 64 * (1 : Nat) + k % 64 by omega)
    rw [hk2, show (2 : Int) ^ (64 * 1) = 18446744073709551616 by decide] at hk ⊢
    generalize hP : (2 : Int) ^ (k % 64).toNat = P at *
    obtain ⟨rfl, rfl, lt⟩ : x2 = 0 ∧ x3 = 0 ∧ x1 < 2 ^ (k % 64).toNat := by unfold num Word at *; omega
    have wq : Word (x1 + P) := by unfold Word at *; omega
    have o := or_bit (s := k % 64) h1.1 lt s0 s1
    rw [hP] at o
    obtain ⟨r0, r1, r2, r3⟩ := limbs_of (n := num x0 x1 0 0 + 18446744073709551616 * P) h0 wq ⟨by decide, by decide⟩ ⟨by decide, by decide⟩ (show _ = num x0 (x1 + P) 0 0 by unfold num; omega)
    rw [r0, r1, r2, r3, ← o, ← hP]
    exact with_1 k0 k1 s0 s1 hq rfl w
  · have hk2 := pow_split 2 s0 (show k = 64 * (2 : Nat) + k % 64 by omega)
    rw [hk2, show (2 : Int) ^ (64 * 2) = 340282366920938463463374607431768211456 by decide] at hk ⊢
    generalize hP : (2 : Int) ^ (k % 64).toNat = P at *
    obtain ⟨rfl, lt⟩ : x3 = 0 ∧ x2 < 2 ^ (k % 64).toNat := by unfold num Word at *; omega
    have wq : Word (x2 + P) := by unfold Word at *; omega
    have o := or_bit (s := k % 64) h2.1 lt s0 s1
    rw [hP] at o
    obtain ⟨r0, r1, r2, r3⟩ := limbs_of (n := num x0 x1 x2 0 + 340282366920938463463374607431768211456 * P) h0 h1 wq ⟨by decide, by decide⟩ (show _ = num x0 x1 (x2 + P) 0 by unfold num; omega)
    rw [r0, r1, r2, r3, ← o, ← hP]
    exact with_2 k0 k1 s0 s1 hq rfl w
  · have hk2 := pow_split 3 s0 (show k = 64 * (3 : Nat) + k % 64 by omega)
    rw [hk2, show (2 : Int) ^ (64 * 3) = 6277101735386680763835789423207666416102355444464034512896 by decide] at hk ⊢
    generalize hP : (2 : Int) ^ (k % 64).toNat = P at *
    obtain lt : x3 < 2 ^ (k % 64).toNat := by unfold num Word at *; omega
    have wq : Word (x3 + P) := by unfold Word at *; omega
    have o := or_bit (s := k % 64) h3.1 lt s0 s1
    rw [hP] at o
    obtain ⟨r0, r1, r2, r3⟩ := limbs_of (n := num x0 x1 x2 x3 + 6277101735386680763835789423207666416102355444464034512896 * P) h0 h1 h2 wq (show _ = num x0 x1 x2 (x3 + P) by unfold num; omega)
    rw [r0, r1, r2, r3, ← o, ← hP]
    exact with_3 k0 k1 s0 s1 hq rfl w

end Go.Proofs.YtjhongkmempepaaGreatDoor

/- A number's bits, as the doublings take them. -/
namespace Go.Proofs.YtjhongkmempepaaGreatDoor
namespace EC
def colK (c : Nat) : Nat := c % 2 + 18446744073709551616 * (c / 2 % 2) + 340282366920938463463374607431768211456 * (c / 4 % 2) + 6277101735386680763835789423207666416102355444464034512896 * (c / 8 % 2)
end EC
/-- What the doublings have carried on of a when i are left. -/
def aAt (a : Int) (i : Nat) : Nat := (l0 a).toNat / 2 ^ i + 18446744073709551616 * ((l1 a).toNat / 2 ^ i) + 340282366920938463463374607431768211456 * ((l2 a).toNat / 2 ^ i) + 6277101735386680763835789423207666416102355444464034512896 * ((l3 a).toNat / 2 ^ i)
/-- And of b. -/
def bAt (b : Nat) (i : Nat) : Nat := b / 2 ^ (4 * ((i + 3) / 4)) * 2 ^ (4 * ((i + 3) / 4) - i)
def colN (a : Int) (i : Nat) : Nat := (l0 a).toNat / 2 ^ i % 2 + 2 * ((l1 a).toNat / 2 ^ i % 2) + 4 * ((l2 a).toNat / 2 ^ i % 2) + 8 * ((l3 a).toNat / 2 ^ i % 2)
theorem colN_lt (a : Int) (i : Nat) : colN a i < 16 := by
  unfold colN
  have h1 := Nat.mod_lt ((l0 a).toNat / 2 ^ i) (show 0 < 2 by decide)
  have h2 := Nat.mod_lt ((l1 a).toNat / 2 ^ i) (show 0 < 2 by decide)
  have h3 := Nat.mod_lt ((l2 a).toNat / 2 ^ i) (show 0 < 2 by decide)
  have h4 := Nat.mod_lt ((l3 a).toNat / 2 ^ i) (show 0 < 2 by decide)
  omega
theorem bits4 {a b c d : Nat} (ha : a < 2) (hb : b < 2) (hc : c < 2) (hd : d < 2) : EC.colK (a + 2 * b + 4 * c + 8 * d) = a + 18446744073709551616 * b + 340282366920938463463374607431768211456 * c + 6277101735386680763835789423207666416102355444464034512896 * d := by
  unfold EC.colK
  have e1 : (a + 2 * b + 4 * c + 8 * d) % 2 = a := by omega
  have e2 : (a + 2 * b + 4 * c + 8 * d) / 2 % 2 = b := by omega
  have e3 : (a + 2 * b + 4 * c + 8 * d) / 4 % 2 = c := by omega
  have e4 : (a + 2 * b + 4 * c + 8 * d) / 8 % 2 = d := by omega
  rw [e1, e2, e3, e4]
theorem half_pow (x i : Nat) : x / 2 ^ i = 2 * (x / 2 ^ (i + 1)) + x / 2 ^ i % 2 := by
  have : x / 2 ^ (i + 1) = x / 2 ^ i / 2 := by rw [Nat.pow_succ, Nat.div_div_eq_div_mul]
  rw [this]; omega
theorem aAt_step (a : Int) (i : Nat) : aAt a i = 2 * aAt a (i + 1) + EC.colK (colN a i) := by
  have h1 := Nat.mod_lt ((l0 a).toNat / 2 ^ i) (show 0 < 2 by decide)
  have h2 := Nat.mod_lt ((l1 a).toNat / 2 ^ i) (show 0 < 2 by decide)
  have h3 := Nat.mod_lt ((l2 a).toNat / 2 ^ i) (show 0 < 2 by decide)
  have h4 := Nat.mod_lt ((l3 a).toNat / 2 ^ i) (show 0 < 2 by decide)
  unfold colN
  rw [bits4 h1 h2 h3 h4]
  unfold aAt
  have k1 := half_pow (l0 a).toNat i
  have k2 := half_pow (l1 a).toNat i
  have k3 := half_pow (l2 a).toNat i
  have k4 := half_pow (l3 a).toNat i
  generalize (l0 a).toNat / 2 ^ i % 2 = r1 at *
  generalize (l1 a).toNat / 2 ^ i % 2 = r2 at *
  generalize (l2 a).toNat / 2 ^ i % 2 = r3 at *
  generalize (l3 a).toNat / 2 ^ i % 2 = r4 at *
  omega
theorem word_shift {x : Int} (h : Word x) {i : Nat} (hi : 64 ≤ i) : x.toNat / 2 ^ i = 0 := by
  apply Nat.div_eq_of_lt
  have h1 : x.toNat < 2 ^ 64 := by obtain ⟨a, b⟩ := h; omega
  exact Nat.lt_of_lt_of_le h1 (Nat.pow_le_pow_right (by decide) hi)
theorem aAt_far (a : Int) {i : Nat} (hi : 64 ≤ i) : aAt a i = 0 := by
  unfold aAt
  rw [word_shift (l0_word a) hi, word_shift (l1_word a) hi, word_shift (l2_word a) hi, word_shift (l3_word a) hi]
theorem aAt_zero {a : Int} (h : Num a) : aAt a 0 = a.toNat := by
  unfold aAt l0 l1 l2 l3
  obtain ⟨h0, h1⟩ := h
  simp only [Nat.pow_zero, Nat.div_one]
  omega
theorem bAt_zero (b : Nat) : bAt b 0 = b := by unfold bAt; simp
theorem bAt_top {b : Nat} (h : b < 2 ^ 256) : bAt b 256 = 0 := by
  unfold bAt
  rw [Nat.div_eq_of_lt (by simpa using h), Nat.zero_mul]
theorem bAt_step0 (b : Nat) {i : Nat} (hi : i % 4 = 0) : bAt b i = 2 * bAt b (i + 1) + b / 2 ^ i % 16 := by
  unfold bAt
  have e1 : 4 * ((i + 3) / 4) = i := by omega
  have e2 : 4 * ((i + 1 + 3) / 4) = i + 4 := by omega
  rw [e1, e2, show i + 4 - (i + 1) = 3 by omega, show i - i = 0 by omega, Nat.pow_add, ← Nat.div_div_eq_div_mul]
  simp only [Nat.pow_zero, Nat.mul_one, Nat.reducePow]
  omega
theorem bAt_step1 (b : Nat) {i : Nat} (hi : i % 4 ≠ 0) : bAt b i = 2 * bAt b (i + 1) := by
  unfold bAt
  have e1 : 4 * ((i + 1 + 3) / 4) = 4 * ((i + 3) / 4) := by omega
  have hle : i + 1 ≤ 4 * ((i + 3) / 4) := by omega
  rw [e1, show 4 * ((i + 3) / 4) - i = (4 * ((i + 3) / 4) - (i + 1)) + 1 by omega, Nat.pow_succ, ← Nat.mul_assoc, Nat.mul_comm 2]
/-- The digit of four bits, out of its limb. -/
def limbAt (b : Int) (k : Nat) : Int := if k = 0 then l0 b else if k = 1 then l1 b else if k = 2 then l2 b else l3 b
theorem nib (x r : Nat) {m : Nat} (hr : r + 4 ≤ m) : x % 2 ^ m / 2 ^ r % 16 = x / 2 ^ r % 16 := by
  have e : 2 ^ m = 2 ^ r * (16 * 2 ^ (m - r - 4)) := by
    rw [show (16 : Nat) = 2 ^ 4 by decide, ← Nat.pow_add, ← Nat.pow_add]; congr 1; omega
  rw [e, Nat.mod_mul_right_div_self, Nat.mod_mul_right_mod]
theorem limbAt_nat {b : Int} (h : Num b) {k : Nat} (hk : k < 4) : (limbAt b k).toNat = b.toNat / 2 ^ (64 * k) % 2 ^ 64 := by
  obtain ⟨n, rfl⟩ := Int.eq_ofNat_of_zero_le h.1
  have hc : k = 0 ∨ k = 1 ∨ k = 2 ∨ k = 3 := by omega
  rcases hc with rfl | rfl | rfl | rfl
  · show (l0 n).toNat = _; unfold l0; simp only [Nat.mul_zero, Nat.pow_zero, Nat.div_one, Nat.reducePow]; omega
  · show (l1 n).toNat = _; unfold l1; simp only [Nat.mul_one, Nat.reducePow]; omega
  · show (l2 n).toNat = _; unfold l2; simp only [Nat.reduceMul, Nat.reducePow]; omega
  · show (l3 n).toNat = _; unfold l3; simp only [Nat.reduceMul, Nat.reducePow]; omega
def digN (b : Int) (i : Nat) : Nat := (limbAt b (i / 64)).toNat / 2 ^ (i % 64) % 16
theorem digN_is {b : Int} (h : Num b) {i : Nat} (hi : i < 256) (h4 : i % 4 = 0) : digN b i = b.toNat / 2 ^ i % 16 := by
  unfold digN
  rw [limbAt_nat h (by omega), nib _ _ (by omega), Nat.div_div_eq_div_mul, ← Nat.pow_add, show 64 * (i / 64) + i % 64 = i by omega]
theorem digN_lt (b : Int) (i : Nat) : digN b i < 16 := Nat.mod_lt _ (by decide)
end Go.Proofs.YtjhongkmempepaaGreatDoor

namespace Go.Proofs.YtjhongkmempepaaGreatDoor
open Go.RowKit Go.Sort

theorem nib_shift {x : Int} (hx : Word x) (s : Nat) : bits .and .u64 (x / 2 ^ s) 15 = ((x.toNat / 2 ^ s % 16 : Nat) : Int) := by
  obtain ⟨n, rfl⟩ := Int.eq_ofNat_of_zero_le hx.1
  have e : ((n : Int) / 2 ^ s) = ((n / 2 ^ s : Nat) : Int) := by rw [Int.natCast_ediv, Int.natCast_pow]; rfl
  have hl : n / 2 ^ s < 18446744073709551616 := Nat.lt_of_le_of_lt (Nat.div_le_self _ _) (by have := hx.2; omega)
  rw [e]
  refine (bits_and_u64_nat _ 15 hl (by decide)).trans ?_
  rw [show (15 : Nat) = 2 ^ 4 - 1 by decide, Nat.and_two_pow_sub_one_eq_mod]
  rfl

set_option maxRecDepth 100000 in
set_option maxHeartbeats 4000000 in
theorem cdigit_0 {b i : Int} (h0 : 0 ≤ i) (h1 : i < 64) (w : World) :
    Calls Tryz.prog 89 #[.agg #[.int .u64 (l0 b), .int .u64 (l1 b), .int .u64 (l2 b), .int .u64 (l3 b)], .int .i64 i] w fun e w' => e = .returned (.int .u64 (digN b i.toNat)) ∧ Below w.heap.size w w' := by
  have q : i.tdiv 64 = 0 := by rw [Int.tdiv_eq_ediv_of_nonneg (by omega)]; omega
  obtain ⟨s, hs⟩ : ∃ s, s = i - 0 := ⟨_, rfl⟩
  have r : i.tmod 64 = s := by rw [Int.tmod_eq_emod_of_nonneg (by omega)]; omega
  have r0 : 0 ≤ s := by omega
  have r1 : s < 64 := by omega
  have hs' : i.toNat / 64 = 0 ∧ i.toNat % 64 = s.toNat := by omega
  clear hs
  go_enter Tryz.func89, Tryz.ntmps89
  go_wp2
  simp [bodyPost, results, Tryz.results89, go_sem]
  refine ⟨?_, (Below.refl _ _).alloc (Nat.le_refl _) _⟩
  have e := nib_shift (l0_word b) s.toNat
  unfold digN
  rw [hs'.1, hs'.2]
  exact e

set_option maxRecDepth 100000 in
set_option maxHeartbeats 4000000 in
theorem cdigit_1 {b i : Int} (h0 : 64 ≤ i) (h1 : i < 128) (w : World) :
    Calls Tryz.prog 89 #[.agg #[.int .u64 (l0 b), .int .u64 (l1 b), .int .u64 (l2 b), .int .u64 (l3 b)], .int .i64 i] w fun e w' => e = .returned (.int .u64 (digN b i.toNat)) ∧ Below w.heap.size w w' := by
  have q : i.tdiv 64 = 1 := by rw [Int.tdiv_eq_ediv_of_nonneg (by omega)]; omega
  obtain ⟨s, hs⟩ : ∃ s, s = i - 64 := ⟨_, rfl⟩
  have r : i.tmod 64 = s := by rw [Int.tmod_eq_emod_of_nonneg (by omega)]; omega
  have r0 : 0 ≤ s := by omega
  have r1 : s < 64 := by omega
  have hs' : i.toNat / 64 = 1 ∧ i.toNat % 64 = s.toNat := by omega
  clear hs
  go_enter Tryz.func89, Tryz.ntmps89
  go_wp2
  simp [bodyPost, results, Tryz.results89, go_sem]
  refine ⟨?_, (Below.refl _ _).alloc (Nat.le_refl _) _⟩
  have e := nib_shift (l1_word b) s.toNat
  unfold digN
  rw [hs'.1, hs'.2]
  exact e

set_option maxRecDepth 100000 in
set_option maxHeartbeats 4000000 in
theorem cdigit_2 {b i : Int} (h0 : 128 ≤ i) (h1 : i < 192) (w : World) :
    Calls Tryz.prog 89 #[.agg #[.int .u64 (l0 b), .int .u64 (l1 b), .int .u64 (l2 b), .int .u64 (l3 b)], .int .i64 i] w fun e w' => e = .returned (.int .u64 (digN b i.toNat)) ∧ Below w.heap.size w w' := by
  have q : i.tdiv 64 = 2 := by rw [Int.tdiv_eq_ediv_of_nonneg (by omega)]; omega
  obtain ⟨s, hs⟩ : ∃ s, s = i - 128 := ⟨_, rfl⟩
  have r : i.tmod 64 = s := by rw [Int.tmod_eq_emod_of_nonneg (by omega)]; omega
  have r0 : 0 ≤ s := by omega
  have r1 : s < 64 := by omega
  have hs' : i.toNat / 64 = 2 ∧ i.toNat % 64 = s.toNat := by omega
  clear hs
  go_enter Tryz.func89, Tryz.ntmps89
  go_wp2
  simp [bodyPost, results, Tryz.results89, go_sem]
  refine ⟨?_, (Below.refl _ _).alloc (Nat.le_refl _) _⟩
  have e := nib_shift (l2_word b) s.toNat
  unfold digN
  rw [hs'.1, hs'.2]
  exact e

set_option maxRecDepth 100000 in
set_option maxHeartbeats 4000000 in
theorem cdigit_3 {b i : Int} (h0 : 192 ≤ i) (h1 : i < 256) (w : World) :
    Calls Tryz.prog 89 #[.agg #[.int .u64 (l0 b), .int .u64 (l1 b), .int .u64 (l2 b), .int .u64 (l3 b)], .int .i64 i] w fun e w' => e = .returned (.int .u64 (digN b i.toNat)) ∧ Below w.heap.size w w' := by
  have q : i.tdiv 64 = 3 := by rw [Int.tdiv_eq_ediv_of_nonneg (by omega)]; omega
  obtain ⟨s, hs⟩ : ∃ s, s = i - 192 := ⟨_, rfl⟩
  have r : i.tmod 64 = s := by rw [Int.tmod_eq_emod_of_nonneg (by omega)]; omega
  have r0 : 0 ≤ s := by omega
  have r1 : s < 64 := by omega
  have hs' : i.toNat / 64 = 3 ∧ i.toNat % 64 = s.toNat := by omega
  clear hs
  go_enter Tryz.func89, Tryz.ntmps89
  go_wp2
  simp [bodyPost, results, Tryz.results89, go_sem]
  refine ⟨?_, (Below.refl _ _).alloc (Nat.le_refl _) _⟩
  have e := nib_shift (l3_word b) s.toNat
  unfold digN
  rw [hs'.1, hs'.2]
  exact e

theorem cdigit_any (b : Int) {i : Int} (h0 : 0 ≤ i) (h1 : i < 256) (w : World) :
    Calls Tryz.prog 89 #[.agg #[.int .u64 (l0 b), .int .u64 (l1 b), .int .u64 (l2 b), .int .u64 (l3 b)], .int .i64 i] w fun e w' => e = .returned (.int .u64 (digN b i.toNat)) ∧ Below w.heap.size w w' := by
  by_cases k1 : i < 64
  · exact cdigit_0 h0 k1 w
  · by_cases k2 : i < 128
    · exact cdigit_1 (by omega) k2 w
    · by_cases k3 : i < 192
      · exact cdigit_2 (by omega) k3 w
      · exact cdigit_3 (by omega) h1 w

theorem bit_shift' {x : Int} (hx : Word x) (s : Nat) : bits .and .u64 (x / 2 ^ s) 1 = ((x.toNat / 2 ^ s % 2 : Nat) : Int) := by
  have := bit_shift (s := (s : Int)) hx
  simp only [Int.toNat_natCast] at this
  rw [this]
  obtain ⟨n, rfl⟩ := Int.eq_ofNat_of_zero_le hx.1
  simp

set_option maxRecDepth 100000 in
set_option maxHeartbeats 4000000 in
theorem ccolumn_any (a : Int) {i : Int} (h0 : 0 ≤ i) (h1 : i < 64) (w : World) :
    Calls Tryz.prog 91 #[.agg #[.int .u64 (l0 a), .int .u64 (l1 a), .int .u64 (l2 a), .int .u64 (l3 a)], .int .i64 i] w fun e w' => e = .returned (.int .u64 (colN a i.toNat)) ∧ Below w.heap.size w w' := by
  have b0 := bit_shift' (l0_word a) i.toNat; have b1 := bit_shift' (l1_word a) i.toNat; have b2 := bit_shift' (l2_word a) i.toNat; have b3 := bit_shift' (l3_word a) i.toNat
  have HB : Hid (colN a i.toNat = (l0 a).toNat / 2 ^ i.toNat % 2 + 2 * ((l1 a).toNat / 2 ^ i.toNat % 2) + 4 * ((l2 a).toNat / 2 ^ i.toNat % 2) + 8 * ((l3 a).toNat / 2 ^ i.toNat % 2)) := rfl
  have c0 := Nat.mod_two_eq_zero_or_one ((l0 a).toNat / 2 ^ i.toNat)
  have c1 := Nat.mod_two_eq_zero_or_one ((l1 a).toNat / 2 ^ i.toNat)
  have c2 := Nat.mod_two_eq_zero_or_one ((l2 a).toNat / 2 ^ i.toNat)
  have c3 := Nat.mod_two_eq_zero_or_one ((l3 a).toNat / 2 ^ i.toNat)
  generalize (l0 a).toNat / 2 ^ i.toNat % 2 = e0 at *
  generalize (l1 a).toNat / 2 ^ i.toNat % 2 = e1 at *
  generalize (l2 a).toNat / 2 ^ i.toNat % 2 = e2 at *
  generalize (l3 a).toNat / 2 ^ i.toNat % 2 = e3 at *
  go_enter Tryz.func91, Tryz.ntmps91
  obtain ⟨s0, s1, s2, s3⟩ : (∀ w, (Instr.index 24 (.agg #[.int .u64 (l0 a), .int .u64 (l1 a), .int .u64 (l2 a), .int .u64 (l3 a)]) (.int .i64 0)).run Tryz.prog w = .ok (.int .u64 (l0 a)) w) ∧ (∀ w, (Instr.index 24 (.agg #[.int .u64 (l0 a), .int .u64 (l1 a), .int .u64 (l2 a), .int .u64 (l3 a)]) (.int .i64 1)).run Tryz.prog w = .ok (.int .u64 (l1 a)) w) ∧ (∀ w, (Instr.index 24 (.agg #[.int .u64 (l0 a), .int .u64 (l1 a), .int .u64 (l2 a), .int .u64 (l3 a)]) (.int .i64 2)).run Tryz.prog w = .ok (.int .u64 (l2 a)) w) ∧ (∀ w, (Instr.index 24 (.agg #[.int .u64 (l0 a), .int .u64 (l1 a), .int .u64 (l2 a), .int .u64 (l3 a)]) (.int .i64 3)).run Tryz.prog w = .ok (.int .u64 (l3 a)) w) := ⟨fun _ => by kernel_rfl, fun _ => by kernel_rfl, fun _ => by kernel_rfl, fun _ => by kernel_rfl⟩
  rcases c0 with rfl | rfl <;> rcases c1 with rfl | rfl <;> rcases c2 with rfl | rfl <;> rcases c3 with rfl | rfl
  all_goals
    go_wp2
    refine wp_loop_rounds 5 ?_
    rw [rounds_succ]; go_wp2
    rw [rounds_succ]; go_wp2
    rw [rounds_succ]; go_wp2
    rw [rounds_succ]; go_wp2
    rw [rounds_succ]; go_wp2
    simp [bodyPost, results, Tryz.results91, go_sem, HB.out]
    exact ⟨by decide, (Below.refl _ _).alloc (Nat.le_refl _) _⟩
end Go.Proofs.YtjhongkmempepaaGreatDoor

namespace Go.Proofs.YtjhongkmempepaaGreatDoor
open Go.RowKit

set_option maxRecDepth 100000 in
set_option maxHeartbeats 4000000 in
theorem rshl_near {n k : Int} (hn : Num n) (k0 : -255 ≤ k) (k1 : k ≤ 255) (w : World) :
    Calls Tryz.prog 96 #[.agg #[.int .u64 (l0 n), .int .u64 (l1 n), .int .u64 (l2 n), .int .u64 (l3 n)], .int .i64 k] w fun e w' => e = .returned (.agg #[.int .u64 (l0 (shlN n k)), .int .u64 (l1 (shlN n k)), .int .u64 (l2 (shlN n k)), .int .u64 (l3 (shlN n k))]) ∧ Below w.heap.size w w' := by
  have hY := shlN_Num hn k
  have hbit : Hid (∀ i : Nat, i ≤ 255 → bitN n (i - k) = shlN n k / 2 ^ i % 2) := fun i hi => shl_bit hn k0 k1 i hi
  generalize shlN n k = Y at *
  have g0 : ¬ k < -255 := by omega
  have g1 : ¬ 255 < k := by omega
  go_enter Tryz.func96, Tryz.ntmps96
  go_wp2_with fail
  refine wp_world (fun W => Below w.heap.size w W ∧ Hold W w.heap.size n ∧ Row W (w.heap.size + 1) [0, 0, 0, 0] ∧ Loose W (w.heap.size + 1) 4 ∧ Hold W (w.heap.size + 1 + 1) 0 ∧ Loose W (w.heap.size + 1 + 1) 4) ⟨?_, ?_, ?_, ?_, ?_, ?_⟩ ?_
  · repeat (first | with_reducible exact Below.refl _ _ | with_reducible refine Below.alloc ?_ (by first | omega | (simp; done) | (simp; omega)) _)
  · exact ((Hold.new w n _).alloc _).alloc _
  · have := Row.new (w.alloc (.cells #[.int .u64 (l0 n), .int .u64 (l1 n), .int .u64 (l2 n), .int .u64 (l3 n)] 24)) [0, 0, 0, 0] 24
    simp at this
    exact this.alloc _
  · have := Loose.new (w.alloc (.cells #[.int .u64 (l0 n), .int .u64 (l1 n), .int .u64 (l2 n), .int .u64 (l3 n)] 24)) #[.int .u64 0, .int .u64 0, .int .u64 0, .int .u64 0] 24 4
    simp at this
    exact this.alloc (by simp) _
  · have := Row.new ((w.alloc (.cells #[.int .u64 (l0 n), .int .u64 (l1 n), .int .u64 (l2 n), .int .u64 (l3 n)] 24)).alloc (.cells #[.int .u64 0, .int .u64 0, .int .u64 0, .int .u64 0] 24)) [0, 0, 0, 0] 24
    simp at this
    exact Row.hold this
  · have := Loose.new ((w.alloc (.cells #[.int .u64 (l0 n), .int .u64 (l1 n), .int .u64 (l2 n), .int .u64 (l3 n)] 24)).alloc (.cells #[.int .u64 0, .int .u64 0, .int .u64 0, .int .u64 0] 24)) #[.int .u64 0, .int .u64 0, .int .u64 0, .int .u64 0] 24 4
    simp at this
    exact this
  rintro W ⟨B, hX, hR, lR, hYY, lY⟩
  have o1 : w.heap.size ≤ w.heap.size + 1 := by omega
  have o2 : w.heap.size ≤ w.heap.size + 1 + 1 := by omega
  have c1 : w.heap.size + 1 + 1 ≠ w.heap.size := by omega
  have c2 : w.heap.size + 1 + 1 ≠ w.heap.size + 1 := by omega
  generalize w.heap.size + 1 + 1 = by' at *
  generalize w.heap.size + 1 = br at *
  go_loopw [6] (fun a wr => ∃ j : Nat, j ≤ 256 ∧ a = .int .i64 j ∧ Below w.heap.size w wr ∧ Hold wr w.heap.size n ∧ Row wr br [0, 0, 0, 0] ∧ Loose wr br 4 ∧ Hold wr by' (Y % 2 ^ j) ∧ Loose wr by' 4) (fun a _ => (256 - intOf a).toNat)
  case atStart => exact ⟨0, by omega, rfl, B, hX, hR, lR, by simpa using hYY, lY⟩
  case round =>
    clear B hX hR lR hYY lY
    obtain ⟨j, hj, rfl, B, hX, hR, lR, hYY, lY⟩ := hrel
    by_cases hlt : j < 256
    · have hm := mod_Num hY j
      have gX := hX.cells
      have hb := hbit.out j (by omega)
      have hs := mod_succ Y j
      have bt : bitN n (j - k) = 0 ∨ bitN n (j - k) = 1 := by rw [hb]; omega
      rw [← hb] at hs
      have HS : Hid (Y % 2 ^ (j + 1) = Y % 2 ^ j + bitN n (j - k) * 2 ^ j) := hs
      clear hb hs
      go_wp2_with fail
      refine (rbit_any hn _).mono ?_
      rintro e w1 ⟨rfl, hb⟩
      have l1' := hR.lt (by simp)
      have l2' := hYY.row.lt (by simp)
      replace B := B.trans (hb.mono B.size)
      replace hX := hX.keep hb; replace hR := hR.keep hb; replace hYY := hYY.keep hb
      replace lR := lR.keep hb l1'; replace lY := lY.keep hb l2'
      clear hb gX l1' l2'
      rcases bt with bt | bt
      · have HS' : Hid (Y % 2 ^ (j + 1) = Y % 2 ^ j) := by have := HS.out; rw [bt] at this; simpa [Hid] using this
        clear HS
        go_wp2
        go_roundw
        case rel => exact ⟨j + 1, by omega, by go_num, B, hX, hR, lR, by rw [HS'.out]; exact hYY, lY⟩
        case measure => simp [intOf]; omega
      · have HS' : Hid (Y % 2 ^ (j + 1) = Y % 2 ^ j + 2 ^ j) := by have := HS.out; rw [bt] at this; simpa [Hid] using this
        clear HS
        have gY := hYY.cells
        go_wp2_with fail
        have wa := fun W => with_any (k := (j : Int)) hm.1 (by omega) (by omega) (by rw [Int.toNat_natCast]; exact hm.2) W
        rw [Int.toNat_natCast] at wa
        refine (wa _).mono ?_
        rw [← HS'.out]
        rintro e w2 ⟨rfl, hb⟩
        have l1' := hR.lt (by simp)
        have l2' := hYY.row.lt (by simp)
        replace B := B.trans (hb.mono B.size)
        replace hX := hX.keep hb; replace hR := hR.keep hb; replace hYY := hYY.keep hb
        replace lR := lR.keep hb l1'; replace lY := lY.keep hb l2'
        clear hb gY l1' l2' wa
        have gY := hYY.cells
        have fY := lY.cells4
        go_wp2
        go_roundw
        case rel =>
          refine ⟨j + 1, by omega, by go_num, ?_, ?_, ?_, ?_, ?_, ?_⟩
          · exact (((B.setCell o2 _).setCell o2 _).setCell o2 _).setCell o2 _
          · exact Row.hold ((((hX.row.setOther c1 _).setOther c1 _).setOther c1 _).setOther c1 _)
          · exact (((hR.setOther c2 _).setOther c2 _).setOther c2 _).setOther c2 _
          · exact (((lR.set _ _).set _ _).set _ _).set _ _
          · exact Row.hold ((((hYY.row.set 0 (by simp) _).set 1 (by simp) _).set 2 (by simp) _).set 3 (by simp) _)
          · exact (((lY.set _ _).set _ _).set _ _).set _ _
        case measure => simp [intOf]; omega
    · obtain rfl : j = 256 := by omega
      rw [mod_all hY] at hYY
      have gY := hYY.cells
      have gR : wr.cell? ⟨br, 0, none⟩ = some (.int .u64 0) ∧ wr.cell? ⟨br, 1, none⟩ = some (.int .u64 0) ∧ wr.cell? ⟨br, 2, none⟩ = some (.int .u64 0) ∧ wr.cell? ⟨br, 3, none⟩ = some (.int .u64 0) := ⟨hR 0 (by simp), hR 1 (by simp), hR 2 (by simp), hR 3 (by simp)⟩
      have fR := lR.cells4
      go_wp2
      simp [bodyPost, results, Tryz.results96, go_sem, gR]
      exact (((B.setCell o1 _).setCell o1 _).setCell o1 _).setCell o1 _

set_option maxHeartbeats 1000000 in
theorem rshl_far {n k : Int} (h : k ≤ -256 ∨ 256 ≤ k) (w : World) :
    Calls Tryz.prog 96 #[.agg #[.int .u64 (l0 n), .int .u64 (l1 n), .int .u64 (l2 n), .int .u64 (l3 n)], .int .i64 k] w fun e w' => e = .returned (.agg #[.int .u64 (l0 0), .int .u64 (l1 0), .int .u64 (l2 0), .int .u64 (l3 0)]) ∧ Below w.heap.size w w' := by
  obtain ⟨z0, z1, z2, z3⟩ := zero_limbs
  rw [z0, z1, z2, z3]
  clear z0 z1 z2 z3
  rcases h with h | h
  · go_enter Tryz.func96, Tryz.ntmps96
    go_wp2
    simp [bodyPost, results, Tryz.results96, go_sem]
    repeat (first | with_reducible exact Below.refl _ _ | with_reducible refine Below.drew ?_ | with_reducible refine Below.alloc ?_ (by first | omega | (simp; done) | (simp; omega)) _)
  · have h' : ¬ k < -255 := by omega
    go_enter Tryz.func96, Tryz.ntmps96
    go_wp2
    simp [bodyPost, results, Tryz.results96, go_sem]
    repeat (first | with_reducible exact Below.refl _ _ | with_reducible refine Below.drew ?_ | with_reducible refine Below.alloc ?_ (by first | omega | (simp; done) | (simp; omega)) _)

theorem rshl_any {n k : Int} (hn : Num n) (w : World) :
    Calls Tryz.prog 96 #[.agg #[.int .u64 (l0 n), .int .u64 (l1 n), .int .u64 (l2 n), .int .u64 (l3 n)], .int .i64 k] w fun e w' => e = .returned (.agg #[.int .u64 (l0 (shlN n k)), .int .u64 (l1 (shlN n k)), .int .u64 (l2 (shlN n k)), .int .u64 (l3 (shlN n k))]) ∧ Below w.heap.size w w' := by
  by_cases h : k ≤ -256 ∨ 256 ≤ k
  · rw [show shlN n k = 0 by unfold shlN; rw [if_pos h]]
    exact rshl_far h w
  · exact rshl_near hn (by omega) (by omega) w

theorem shr_shl {n k : Int} (hn : Num n) (h0 : -255 ≤ k) (h1 : k ≤ 255) : shlN n (-k) = shrN n k := by
  unfold shlN shrN
  rw [if_neg (show ¬ (-k ≤ -256 ∨ 256 ≤ -k) by omega), if_neg (show ¬ (k ≤ -256 ∨ 256 ≤ k) by omega)]
  by_cases h : k = 0
  · subst h
    rw [if_neg (show ¬ (-(0 : Int)) < 0 by decide), if_neg (show ¬ (0 : Int) < 0 by decide)]
    unfold upN downN
    have := hn.1; have := hn.2
    simp
    omega
  · by_cases h2 : k < 0
    · rw [if_neg (show ¬ -k < 0 by omega), if_pos h2]
    · rw [if_pos (show -k < 0 by omega), if_neg h2, Int.neg_neg]

set_option maxHeartbeats 1000000 in
theorem rshr_far {n k : Int} (h : k ≤ -256 ∨ 256 ≤ k) (w : World) :
    Calls Tryz.prog 52 #[.agg #[.int .u64 (l0 n), .int .u64 (l1 n), .int .u64 (l2 n), .int .u64 (l3 n)], .int .i64 k] w fun e w' => e = .returned (.agg #[.int .u64 (l0 0), .int .u64 (l1 0), .int .u64 (l2 0), .int .u64 (l3 0)]) ∧ Below w.heap.size w w' := by
  obtain ⟨z0, z1, z2, z3⟩ := zero_limbs
  rw [z0, z1, z2, z3]
  clear z0 z1 z2 z3
  have hb := build_zero
  rcases h with h | h
  · go_enter Tryz.func52, Tryz.ntmps52
    go_wp2
    simp [bodyPost, results, Tryz.results52, go_sem]
    repeat (first | with_reducible exact Below.refl _ _ | with_reducible refine Below.drew ?_ | with_reducible refine Below.alloc ?_ (by first | omega | (simp; done) | (simp; omega)) _)
  · have h' : ¬ k < -255 := by omega
    go_enter Tryz.func52, Tryz.ntmps52
    go_wp2
    simp [bodyPost, results, Tryz.results52, go_sem]
    repeat (first | with_reducible exact Below.refl _ _ | with_reducible refine Below.drew ?_ | with_reducible refine Below.alloc ?_ (by first | omega | (simp; done) | (simp; omega)) _)

set_option maxHeartbeats 1000000 in
theorem rshr_near {n k : Int} (hn : Num n) (h0 : -255 ≤ k) (h1 : k ≤ 255) (w : World) :
    Calls Tryz.prog 52 #[.agg #[.int .u64 (l0 n), .int .u64 (l1 n), .int .u64 (l2 n), .int .u64 (l3 n)], .int .i64 k] w fun e w' => e = .returned (.agg #[.int .u64 (l0 (shrN n k)), .int .u64 (l1 (shrN n k)), .int .u64 (l2 (shrN n k)), .int .u64 (l3 (shrN n k))]) ∧ Below w.heap.size w w' := by
  rw [← shr_shl hn h0 h1]
  have g0 : ¬ k < -255 := by omega
  have g1 : ¬ 255 < k := by omega
  go_enter Tryz.func52, Tryz.ntmps52
  go_wp2_with fail
  refine (rshl_any hn _).mono ?_
  rintro e w' ⟨rfl, hw⟩
  have hc := oldCells hw
  go_wp2
  simp [bodyPost, results, Tryz.results52, go_sem, hc]
  clear hc
  have hz := hw.size
  simp at hz
  repeat (first | with_reducible exact Below.refl _ _ | with_reducible refine Below.drew ?_ | with_reducible refine Below.setCell ?_ (by first | omega | (simp; done) | (simp; omega)) _ | with_reducible refine Below.alloc ?_ (by first | omega | (simp; done) | (simp; omega)) _ | with_reducible refine Below.trans ?_ (Below.mono hw (by first | omega | (simp; done) | (simp; omega))))

theorem rshr_any {n k : Int} (hn : Num n) (w : World) :
    Calls Tryz.prog 52 #[.agg #[.int .u64 (l0 n), .int .u64 (l1 n), .int .u64 (l2 n), .int .u64 (l3 n)], .int .i64 k] w fun e w' => e = .returned (.agg #[.int .u64 (l0 (shrN n k)), .int .u64 (l1 (shrN n k)), .int .u64 (l2 (shrN n k)), .int .u64 (l3 (shrN n k))]) ∧ Below w.heap.size w w' := by
  by_cases h : k ≤ -256 ∨ 256 ≤ k
  · rw [show shrN n k = 0 by unfold shrN; rw [if_pos h]]
    exact rshr_far h w
  · exact rshr_near hn (by omega) (by omega) w

theorem bit_top {n : Int} {j : Nat} (h0 : 0 ≤ n) (h : n < 2 ^ (j + 1)) : (n / 2 ^ j % 2 = 1 → 2 ^ j ≤ n) ∧ (n / 2 ^ j % 2 = 0 → n < 2 ^ j) := by
  have p := pow_pos' j
  rw [Int.pow_succ] at h
  have q0 : 0 ≤ n / 2 ^ j := Int.ediv_nonneg h0 (by omega)
  have q1 : n / 2 ^ j < 2 := Int.ediv_lt_of_lt_mul p (by rw [Int.mul_comm]; exact h)
  have d := Int.emod_add_mul_ediv n (2 ^ j)
  have m0 := Int.emod_nonneg n (show (2 : Int) ^ j ≠ 0 by omega)
  have m1 := Int.emod_lt_of_pos n p
  constructor
  · intro e
    have : n / 2 ^ j = 1 := by omega
    rw [this] at d; omega
  · intro e
    have : n / 2 ^ j = 0 := by omega
    rw [this] at d; omega

set_option maxRecDepth 100000 in
set_option maxHeartbeats 1000000 in
theorem rlen_any {n : Int} (hn : Num n) (w : World) :
    Calls Tryz.prog 132 #[.agg #[.int .u64 (l0 n), .int .u64 (l1 n), .int .u64 (l2 n), .int .u64 (l3 n)]] w fun e w' => e = .returned (.int .i64 (lenN n)) ∧ Below w.heap.size w w' := by
  have n0 := hn.1
  have top : Hid (n < 2 ^ 256) := by
    have := hn.2
    show n < 2 ^ 256
    rw [show (2 : Int) ^ 256 = 115792089237316195423570985008687907853269984665640564039457584007913129639936 by decide]
    exact this
  go_enter Tryz.func132, Tryz.ntmps132
  go_wp2_with fail
  refine wp_world (fun W => Below w.heap.size w W ∧ Hold W w.heap.size n) ⟨(Below.refl _ _).alloc (Nat.le_refl _) _, Hold.new w n _⟩ ?_
  rintro W ⟨B, hX⟩
  go_loopw [3] (fun a wr => ∃ j : Nat, j ≤ 256 ∧ a = .int .i64 ((j : Int) - 1) ∧ Below w.heap.size w wr ∧ Hold wr w.heap.size n ∧ Hid (n < 2 ^ j)) (fun a _ => (intOf a + 1).toNat)
  case atStart => exact ⟨256, by omega, rfl, B, hX, top⟩
  case round =>
    clear B hX
    obtain ⟨j, hj, rfl, B, hX, hl⟩ := hrel
    by_cases hz : j = 0
    · subst hz
      obtain rfl : n = 0 := by have := hl.out; simp at this; omega
      go_wp2
      go_ret
      rw [show lenN 0 = 0 by rfl]
      exact ⟨rfl, B⟩
    · obtain ⟨i, rfl⟩ : ∃ i, j = i + 1 := ⟨j - 1, by omega⟩
      have e1 : ((i + 1 : Nat) : Int) - 1 = i := by omega
      have bt := bit_top n0 hl.out
      have eb : bitN n i = n / 2 ^ i % 2 := by unfold bitN; rw [if_neg (by omega), Int.toNat_natCast]
      have br : bitN n i = 0 ∨ bitN n i = 1 := by rw [eb]; omega
      rw [← eb] at bt
      have gX := hX.cells
      have ea : Hid (((i + 1 : Nat) : Int) - 1 = i) := e1
      rw [e1]
      clear e1 eb
      rcases br with br | br
      · have lo : Hid (n < 2 ^ i) := bt.2 br
        clear bt
        go_wp2_with fail
        refine (rbit_any hn _).mono ?_
        rintro e w1 ⟨rfl, hb⟩
        replace B := B.trans (hb.mono B.size)
        replace hX := hX.keep hb
        clear hb gX
        go_wp2
        go_roundw
        case rel => exact ⟨i, by omega, by go_num, B, hX, lo⟩
        case measure => first | (simp [intOf]; done) | (simp [intOf]; omega)
      · have le : Hid (lenN n = (i : Int) + 1) := lenN_eq (bt.1 br) hl.out
        clear bt
        go_wp2_with fail
        refine (rbit_any hn _).mono ?_
        rintro e w1 ⟨rfl, hb⟩
        replace B := B.trans (hb.mono B.size)
        clear hb gX
        go_wp2
        go_ret
        rw [le.out]
        exact ⟨rfl, B⟩

end Go.Proofs.YtjhongkmempepaaGreatDoor
