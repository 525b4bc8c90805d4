import Derived.Test.YtncpjgpioajbeaaGreatDoorLen
import Derived.Test.YtncpjgpioajbeaaGreatDoorHold
namespace Go.Proofs.YtncpjgpioajbeaaGreatDoor
open Go.RowKit

set_option maxHeartbeats 1000000 in
theorem rbit_0 {x0 x1 x2 x3 k s : Int} (hx0 : Word x0) (_k0 : 0 ≤ k) (_k1 : k ≤ 255) (_s0 : 0 ≤ s) (_s1 : s ≤ 63) (hq : k / 64 = 0) (hr : k % 64 = s) (w : World) :
    Calls Tryz.prog 143 #[.agg #[.int .u64 x0, .int .u64 x1, .int .u64 x2, .int .u64 x3], .int .i64 k] w fun e w' => e = .returned (.int .i64 (x0 / 2 ^ s.toNat % 2)) ∧ Below w.heap.size w w' := by
  have p : (0 : Int) < 2 ^ s.toNat := Int.pow_pos (by decide)
  have b0 : 0 ≤ x0 / 2 ^ s.toNat := Int.ediv_nonneg hx0.1 (by omega)
  have b1 : x0 / 2 ^ s.toNat ≤ x0 := Int.ediv_le_self _ hx0.1
  obtain ⟨_, _⟩ := hx0
  go_enter Tryz.func143, Tryz.ntmps143
  go_wp2
  go_ret
  exact ⟨rfl, (Below.refl _ _).alloc (Nat.le_refl _) _⟩

set_option maxHeartbeats 1000000 in
theorem rbit_1 {x0 x1 x2 x3 k s : Int} (hx1 : Word x1) (_k0 : 0 ≤ k) (_k1 : k ≤ 255) (_s0 : 0 ≤ s) (_s1 : s ≤ 63) (hq : k / 64 = 1) (hr : k % 64 = s) (w : World) :
    Calls Tryz.prog 143 #[.agg #[.int .u64 x0, .int .u64 x1, .int .u64 x2, .int .u64 x3], .int .i64 k] w fun e w' => e = .returned (.int .i64 (x1 / 2 ^ s.toNat % 2)) ∧ Below w.heap.size w w' := by
  have p : (0 : Int) < 2 ^ s.toNat := Int.pow_pos (by decide)
  have b0 : 0 ≤ x1 / 2 ^ s.toNat := Int.ediv_nonneg hx1.1 (by omega)
  have b1 : x1 / 2 ^ s.toNat ≤ x1 := Int.ediv_le_self _ hx1.1
  obtain ⟨_, _⟩ := hx1
  go_enter Tryz.func143, Tryz.ntmps143
  go_wp2
  go_ret
  exact ⟨rfl, (Below.refl _ _).alloc (Nat.le_refl _) _⟩

set_option maxHeartbeats 1000000 in
theorem rbit_2 {x0 x1 x2 x3 k s : Int} (hx2 : Word x2) (_k0 : 0 ≤ k) (_k1 : k ≤ 255) (_s0 : 0 ≤ s) (_s1 : s ≤ 63) (hq : k / 64 = 2) (hr : k % 64 = s) (w : World) :
    Calls Tryz.prog 143 #[.agg #[.int .u64 x0, .int .u64 x1, .int .u64 x2, .int .u64 x3], .int .i64 k] w fun e w' => e = .returned (.int .i64 (x2 / 2 ^ s.toNat % 2)) ∧ Below w.heap.size w w' := by
  have p : (0 : Int) < 2 ^ s.toNat := Int.pow_pos (by decide)
  have b0 : 0 ≤ x2 / 2 ^ s.toNat := Int.ediv_nonneg hx2.1 (by omega)
  have b1 : x2 / 2 ^ s.toNat ≤ x2 := Int.ediv_le_self _ hx2.1
  obtain ⟨_, _⟩ := hx2
  go_enter Tryz.func143, Tryz.ntmps143
  go_wp2
  go_ret
  exact ⟨rfl, (Below.refl _ _).alloc (Nat.le_refl _) _⟩

set_option maxHeartbeats 1000000 in
theorem rbit_3 {x0 x1 x2 x3 k s : Int} (hx3 : Word x3) (_k0 : 0 ≤ k) (_k1 : k ≤ 255) (_s0 : 0 ≤ s) (_s1 : s ≤ 63) (hq : k / 64 = 3) (hr : k % 64 = s) (w : World) :
    Calls Tryz.prog 143 #[.agg #[.int .u64 x0, .int .u64 x1, .int .u64 x2, .int .u64 x3], .int .i64 k] w fun e w' => e = .returned (.int .i64 (x3 / 2 ^ s.toNat % 2)) ∧ Below w.heap.size w w' := by
  have p : (0 : Int) < 2 ^ s.toNat := Int.pow_pos (by decide)
  have b0 : 0 ≤ x3 / 2 ^ s.toNat := Int.ediv_nonneg hx3.1 (by omega)
  have b1 : x3 / 2 ^ s.toNat ≤ x3 := Int.ediv_le_self _ hx3.1
  obtain ⟨_, _⟩ := hx3
  go_enter Tryz.func143, Tryz.ntmps143
  go_wp2
  go_ret
  exact ⟨rfl, (Below.refl _ _).alloc (Nat.le_refl _) _⟩

theorem rbit_far {n k : Int} (h : k < 0 ∨ 255 < k) (w : World) :
    Calls Tryz.prog 143 #[.agg #[.int .u64 (l0 n), .int .u64 (l1 n), .int .u64 (l2 n), .int .u64 (l3 n)], .int .i64 k] w fun e w' => e = .returned (.int .i64 0) ∧ Below w.heap.size w w' := by
  rcases h with h | h
  · go_enter Tryz.func143, Tryz.ntmps143
    go_wp2
    go_ret
    exact ⟨rfl, (Below.refl _ _).alloc (Nat.le_refl _) _⟩
  · have h' : ¬ k < 0 := by omega
    go_enter Tryz.func143, Tryz.ntmps143
    go_wp2
    go_ret
    exact ⟨rfl, (Below.refl _ _).alloc (Nat.le_refl _) _⟩

theorem rbit_any {n k : Int} (hn : Num n) (w : World) :
    Calls Tryz.prog 143 #[.agg #[.int .u64 (l0 n), .int .u64 (l1 n), .int .u64 (l2 n), .int .u64 (l3 n)], .int .i64 k] w fun e w' => e = .returned (.int .i64 (bitN n k)) ∧ Below w.heap.size w w' := by
  unfold bitN
  split
  · rename_i h; exact rbit_far h w
  · rename_i h
    obtain ⟨r0, r1, r2, r3⟩ := bit_num (x3 := l3 n) (l0_word n) (l1_word n) (k := k) (l2_word n)
    rw [num_l hn] at r0 r1 r2 r3
    rcases (show k / 64 = 0 ∨ k / 64 = 1 ∨ k / 64 = 2 ∨ k / 64 = 3 by omega) with hq | hq | hq | hq
    · rw [r0 hq]; exact rbit_0 (l0_word n) (by omega) (by omega) (by omega) (by omega) hq rfl w
    · rw [r1 hq]; exact rbit_1 (l1_word n) (by omega) (by omega) (by omega) (by omega) hq rfl w
    · rw [r2 hq]; exact rbit_2 (l2_word n) (by omega) (by omega) (by omega) (by omega) hq rfl w
    · rw [r3 hq]; exact rbit_3 (l3_word n) (by omega) (by omega) (by omega) (by omega) hq rfl w

set_option maxHeartbeats 1000000 in
theorem with_0 {x0 x1 x2 x3 k s : Int} (_k0 : 0 ≤ k) (_k1 : k ≤ 255) (_s0 : 0 ≤ s) (_s1 : s ≤ 63) (hq : k / 64 = 0) (hr : k % 64 = s) (w : World) :
    Calls Tryz.prog 150 #[.agg #[.int .u64 x0, .int .u64 x1, .int .u64 x2, .int .u64 x3], .int .i64 k] w fun e w' => e = .returned (.agg #[.int .u64 (bits .or .u64 x0 (2 ^ s.toNat)), .int .u64 x1, .int .u64 x2, .int .u64 x3]) ∧ Below w.heap.size w w' := by
  obtain ⟨e, p1, p2⟩ := pow_pair _s0 _s1
  have pw : IntKind.u64.wrap (2 ^ s.toNat) = 2 ^ s.toNat := by
    rw [IntKind.wrap_u64]
    have : (2 : Int) ^ s.toNat * 2 ≤ 2 ^ s.toNat * 2 ^ (64 - s).toNat := Int.mul_le_mul_of_nonneg_left p2 (show (0 : Int) ≤ 2 ^ s.toNat by omega)
    omega
  clear e p1 p2
  go_enter Tryz.func150, Tryz.ntmps150
  go_wp2
  simp [bodyPost, results, Tryz.results150, go_sem]
  repeat (first | with_reducible exact Below.refl _ _ | with_reducible refine Below.drew ?_ | with_reducible refine Below.alloc ?_ (by first | omega | (simp; done) | (simp; omega)) _)

set_option maxHeartbeats 1000000 in
theorem with_1 {x0 x1 x2 x3 k s : Int} (_k0 : 0 ≤ k) (_k1 : k ≤ 255) (_s0 : 0 ≤ s) (_s1 : s ≤ 63) (hq : k / 64 = 1) (hr : k % 64 = s) (w : World) :
    Calls Tryz.prog 150 #[.agg #[.int .u64 x0, .int .u64 x1, .int .u64 x2, .int .u64 x3], .int .i64 k] w fun e w' => e = .returned (.agg #[.int .u64 x0, .int .u64 (bits .or .u64 x1 (2 ^ s.toNat)), .int .u64 x2, .int .u64 x3]) ∧ Below w.heap.size w w' := by
  obtain ⟨e, p1, p2⟩ := pow_pair _s0 _s1
  have pw : IntKind.u64.wrap (2 ^ s.toNat) = 2 ^ s.toNat := by
    rw [IntKind.wrap_u64]
    have : (2 : Int) ^ s.toNat * 2 ≤ 2 ^ s.toNat * 2 ^ (64 - s).toNat := Int.mul_le_mul_of_nonneg_left p2 (show (0 : Int) ≤ 2 ^ s.toNat by omega)
    omega
  clear e p1 p2
  go_enter Tryz.func150, Tryz.ntmps150
  go_wp2
  simp [bodyPost, results, Tryz.results150, go_sem]
  repeat (first | with_reducible exact Below.refl _ _ | with_reducible refine Below.drew ?_ | with_reducible refine Below.alloc ?_ (by first | omega | (simp; done) | (simp; omega)) _)

set_option maxHeartbeats 1000000 in
theorem with_2 {x0 x1 x2 x3 k s : Int} (_k0 : 0 ≤ k) (_k1 : k ≤ 255) (_s0 : 0 ≤ s) (_s1 : s ≤ 63) (hq : k / 64 = 2) (hr : k % 64 = s) (w : World) :
    Calls Tryz.prog 150 #[.agg #[.int .u64 x0, .int .u64 x1, .int .u64 x2, .int .u64 x3], .int .i64 k] w fun e w' => e = .returned (.agg #[.int .u64 x0, .int .u64 x1, .int .u64 (bits .or .u64 x2 (2 ^ s.toNat)), .int .u64 x3]) ∧ Below w.heap.size w w' := by
  obtain ⟨e, p1, p2⟩ := pow_pair _s0 _s1
  have pw : IntKind.u64.wrap (2 ^ s.toNat) = 2 ^ s.toNat := by
    rw [IntKind.wrap_u64]
    have : (2 : Int) ^ s.toNat * 2 ≤ 2 ^ s.toNat * 2 ^ (64 - s).toNat := Int.mul_le_mul_of_nonneg_left p2 (show (0 : Int) ≤ 2 ^ s.toNat by omega)
    omega
  clear e p1 p2
  go_enter Tryz.func150, Tryz.ntmps150
  go_wp2
  simp [bodyPost, results, Tryz.results150, go_sem]
  repeat (first | with_reducible exact Below.refl _ _ | with_reducible refine Below.drew ?_ | with_reducible refine Below.alloc ?_ (by first | omega | (simp; done) | (simp; omega)) _)

set_option maxHeartbeats 1000000 in
theorem with_3 {x0 x1 x2 x3 k s : Int} (_k0 : 0 ≤ k) (_k1 : k ≤ 255) (_s0 : 0 ≤ s) (_s1 : s ≤ 63) (hq : k / 64 = 3) (hr : k % 64 = s) (w : World) :
    Calls Tryz.prog 150 #[.agg #[.int .u64 x0, .int .u64 x1, .int .u64 x2, .int .u64 x3], .int .i64 k] w fun e w' => e = .returned (.agg #[.int .u64 x0, .int .u64 x1, .int .u64 x2, .int .u64 (bits .or .u64 x3 (2 ^ s.toNat))]) ∧ Below w.heap.size w w' := by
  obtain ⟨e, p1, p2⟩ := pow_pair _s0 _s1
  have pw : IntKind.u64.wrap (2 ^ s.toNat) = 2 ^ s.toNat := by
    rw [IntKind.wrap_u64]
    have : (2 : Int) ^ s.toNat * 2 ≤ 2 ^ s.toNat * 2 ^ (64 - s).toNat := Int.mul_le_mul_of_nonneg_left p2 (show (0 : Int) ≤ 2 ^ s.toNat by omega)
    omega
  clear e p1 p2
  go_enter Tryz.func150, Tryz.ntmps150
  go_wp2
  simp [bodyPost, results, Tryz.results150, go_sem]
  repeat (first | with_reducible exact Below.refl _ _ | with_reducible refine Below.drew ?_ | with_reducible refine Below.alloc ?_ (by first | omega | (simp; done) | (simp; omega)) _)

/-- A bit that is not there yet, put in. -/
theorem or_bit {x s : Int} (x0 : 0 ≤ x) (hx : x < 2 ^ s.toNat) (s0 : 0 ≤ s) (s1 : s ≤ 63) : bits .or .u64 x (2 ^ s.toNat) = x + 2 ^ s.toNat := by
  obtain ⟨e, p1, p2⟩ := pow_pair s0 s1
  have h2 : (2 : Int) ^ s.toNat * 2 ≤ 2 ^ s.toNat * 2 ^ (64 - s).toNat := Int.mul_le_mul_of_nonneg_left p2 (show (0 : Int) ≤ 2 ^ s.toNat by omega)
  rw [e] at h2
  obtain ⟨x, rfl⟩ := Int.eq_ofNat_of_zero_le x0
  have c : ((2 : Int) ^ s.toNat) = ((2 ^ s.toNat : Nat) : Int) := by simp
  rw [c] at hx h2 ⊢
  have r := or_sum s.toNat 1 x (by omega) (by omega) (by omega)
  rw [Nat.mul_one] at r
  rw [or_comm _ _ (by omega) (by omega), r, Int.natCast_add, Int.add_comm]

theorem with_any {n k : Int} (hn : Num n) (k0 : 0 ≤ k) (k1 : k ≤ 255) (hk : n < 2 ^ k.toNat) (w : World) :
    Calls Tryz.prog 150 #[.agg #[.int .u64 (l0 n), .int .u64 (l1 n), .int .u64 (l2 n), .int .u64 (l3 n)], .int .i64 k] w fun e w' => e = .returned (.agg #[.int .u64 (l0 (n + 2 ^ k.toNat)), .int .u64 (l1 (n + 2 ^ k.toNat)), .int .u64 (l2 (n + 2 ^ k.toNat)), .int .u64 (l3 (n + 2 ^ k.toNat))]) ∧ Below w.heap.size w w' := by
  have h0 := l0_word n; have h1 := l1_word n; have h2 := l2_word n; have h3 := l3_word n
  have en := num_l hn
  have s0 : 0 ≤ k % 64 := by omega
  have s1 : k % 64 ≤ 63 := by omega
  obtain ⟨e, p1, p2⟩ := pow_pair s0 s1
  have p3 : (2 : Int) ^ (k % 64).toNat * 2 ≤ 2 ^ (k % 64).toNat * 2 ^ (64 - k % 64).toNat := Int.mul_le_mul_of_nonneg_left p2 (show (0 : Int) ≤ 2 ^ (k % 64).toNat by omega)
  rw [e] at p3
  generalize l0 n = x0 at *; generalize l1 n = x1 at *; generalize l2 n = x2 at *; generalize l3 n = x3 at *
  rw [← en] at hk ⊢
  clear en hn e p2
  rcases (show k / 64 = 0 ∨ k / 64 = 1 ∨ k / 64 = 2 ∨ k / 64 = 3 by omega) with hq | hq | hq | hq
  · have hk2 := pow_split 0 s0 (show k = 64 * (0 : Nat) + k % 64 by omega)
    rw [hk2, show (2 : Int) ^ (64 * 0) = 1 by decide] at hk ⊢
    generalize hP : (2 : Int) ^ (k % 64).toNat = P at *
    obtain ⟨rfl, rfl, rfl, lt⟩ : x1 = 0 ∧ x2 = 0 ∧ x3 = 0 ∧ x0 < 2 ^ (k % 64).toNat := by unfold num Word at *; omega
    have wq : Word (x0 + P) := by unfold Word at *; omega
    have o := or_bit (s := k % 64) h0.1 lt s0 s1
    rw [hP] at o
    obtain ⟨r0, r1, r2, r3⟩ := limbs_of (n := num x0 0 0 0 + 1 * P) wq ⟨by decide, by decide⟩ ⟨by decide, by decide⟩ ⟨by decide, by decide⟩ (show _ = num (x0 + P) 0 0 0 by unfold num; omega)
    rw [r0, r1, r2, r3, ← o, ← hP]
    exact with_0 k0 k1 s0 s1 hq rfl w
  · have hk2 := pow_split 1 s0 (show k = 64 * (1 : Nat) + k % 64 by omega)
    rw [hk2, show (2 : Int) ^ (64 * 1) = 18446744073709551616 by decide] at hk ⊢
    generalize hP : (2 : Int) ^ (k % 64).toNat = P at *
    obtain ⟨rfl, rfl, lt⟩ : x2 = 0 ∧ x3 = 0 ∧ x1 < 2 ^ (k % 64).toNat := by unfold num Word at *; omega
    have wq : Word (x1 + P) := by unfold Word at *; omega
    have o := or_bit (s := k % 64) h1.1 lt s0 s1
    rw [hP] at o
    obtain ⟨r0, r1, r2, r3⟩ := limbs_of (n := num x0 x1 0 0 + 18446744073709551616 * P) h0 wq ⟨by decide, by decide⟩ ⟨by decide, by decide⟩ (show _ = num x0 (x1 + P) 0 0 by unfold num; omega)
    rw [r0, r1, r2, r3, ← o, ← hP]
    exact with_1 k0 k1 s0 s1 hq rfl w
  · have hk2 := pow_split 2 s0 (show k = 64 * (2 : Nat) + k % 64 by omega)
    rw [hk2, show (2 : Int) ^ (64 * 2) = 340282366920938463463374607431768211456 by decide] at hk ⊢
    generalize hP : (2 : Int) ^ (k % 64).toNat = P at *
    obtain ⟨rfl, lt⟩ : x3 = 0 ∧ x2 < 2 ^ (k % 64).toNat := by unfold num Word at *; omega
    have wq : Word (x2 + P) := by unfold Word at *; omega
    have o := or_bit (s := k % 64) h2.1 lt s0 s1
    rw [hP] at o
    obtain ⟨r0, r1, r2, r3⟩ := limbs_of (n := num x0 x1 x2 0 + 340282366920938463463374607431768211456 * P) h0 h1 wq ⟨by decide, by decide⟩ (show _ = num x0 x1 (x2 + P) 0 by unfold num; omega)
    rw [r0, r1, r2, r3, ← o, ← hP]
    exact with_2 k0 k1 s0 s1 hq rfl w
  · have hk2 := pow_split 3 s0 (show k = 64 * (3 : Nat) + k % 64 by omega)
    rw [hk2, show (2 : Int) ^ (64 * 3) = 6277101735386680763835789423207666416102355444464034512896 by decide] at hk ⊢
    generalize hP : (2 : Int) ^ (k % 64).toNat = P at *
    obtain lt : x3 < 2 ^ (k % 64).toNat := by unfold num Word at *; omega
    have wq : Word (x3 + P) := by unfold Word at *; omega
    have o := or_bit (s := k % 64) h3.1 lt s0 s1
    rw [hP] at o
    obtain ⟨r0, r1, r2, r3⟩ := limbs_of (n := num x0 x1 x2 x3 + 6277101735386680763835789423207666416102355444464034512896 * P) h0 h1 h2 wq (show _ = num x0 x1 x2 (x3 + P) by unfold num; omega)
    rw [r0, r1, r2, r3, ← o, ← hP]
    exact with_3 k0 k1 s0 s1 hq rfl w

end Go.Proofs.YtncpjgpioajbeaaGreatDoor
