import Derived.Test.YtmhcgjkemlcgoaaDoorLen
import Derived.Test.YtmhcgjkemlcgoaaDoorHold
namespace Go.Proofs.YtmhcgjkemlcgoaaDoor
open Go.RowKit

set_option maxHeartbeats 1000000 in
theorem rbit_0 {x0 x1 x2 x3 k s : Int} (hx0 : Word x0) (_k0 : 0 ≤ k) (_k1 : k ≤ 255) (_s0 : 0 ≤ s) (_s1 : s ≤ 63) (hq : k / 64 = 0) (hr : k % 64 = s) (w : World) :
    Calls Tryd.prog 35 #[.agg #[.int .u64 x0, .int .u64 x1, .int .u64 x2, .int .u64 x3], .int .i64 k] w fun e w' => e = .returned (.int .i64 (x0 / 2 ^ s.toNat % 2)) ∧ Below w.heap.size w w' := by
  have p : (0 : Int) < 2 ^ s.toNat := Int.pow_pos (by decide)
  have b0 : 0 ≤ x0 / 2 ^ s.toNat := Int.ediv_nonneg hx0.1 (by omega)
  have b1 : x0 / 2 ^ s.toNat ≤ x0 := Int.ediv_le_self _ hx0.1
  obtain ⟨_, _⟩ := hx0
  go_enter Tryd.func35, Tryd.ntmps35
  go_wp2
  go_ret
  exact ⟨rfl, (Below.refl _ _).alloc (Nat.le_refl _) _⟩

set_option maxHeartbeats 1000000 in
theorem rbit_1 {x0 x1 x2 x3 k s : Int} (hx1 : Word x1) (_k0 : 0 ≤ k) (_k1 : k ≤ 255) (_s0 : 0 ≤ s) (_s1 : s ≤ 63) (hq : k / 64 = 1) (hr : k % 64 = s) (w : World) :
    Calls Tryd.prog 35 #[.agg #[.int .u64 x0, .int .u64 x1, .int .u64 x2, .int .u64 x3], .int .i64 k] w fun e w' => e = .returned (.int .i64 (x1 / 2 ^ s.toNat % 2)) ∧ Below w.heap.size w w' := by
  have p : (0 : Int) < 2 ^ s.toNat := Int.pow_pos (by decide)
  have b0 : 0 ≤ x1 / 2 ^ s.toNat := Int.ediv_nonneg hx1.1 (by omega)
  have b1 : x1 / 2 ^ s.toNat ≤ x1 := Int.ediv_le_self _ hx1.1
  obtain ⟨_, _⟩ := hx1
  go_enter Tryd.func35, Tryd.ntmps35
  go_wp2
  go_ret
  exact ⟨rfl, (Below.refl _ _).alloc (Nat.le_refl _) _⟩

set_option maxHeartbeats 1000000 in
theorem rbit_2 {x0 x1 x2 x3 k s : Int} (hx2 : Word x2) (_k0 : 0 ≤ k) (_k1 : k ≤ 255) (_s0 : 0 ≤ s) (_s1 : s ≤ 63) (hq : k / 64 = 2) (hr : k % 64 = s) (w : World) :
    Calls Tryd.prog 35 #[.agg #[.int .u64 x0, .int .u64 x1, .int .u64 x2, .int .u64 x3], .int .i64 k] w fun e w' => e = .returned (.int .i64 (x2 / 2 ^ s.toNat % 2)) ∧ Below w.heap.size w w' := by
  have p : (0 : Int) < 2 ^ s.toNat := Int.pow_pos (by decide)
  have b0 : 0 ≤ x2 / 2 ^ s.toNat := Int.ediv_nonneg hx2.1 (by omega)
  have b1 : x2 / 2 ^ s.toNat ≤ x2 := Int.ediv_le_self _ hx2.1
  obtain ⟨_, _⟩ := hx2
  go_enter Tryd.func35, Tryd.ntmps35
  go_wp2
  go_ret
  exact ⟨rfl, (Below.refl _ _).alloc (Nat.le_refl _) _⟩

set_option maxHeartbeats 1000000 in
theorem rbit_3 {x0 x1 x2 x3 k s : Int} (hx3 : Word x3) (_k0 : 0 ≤ k) (_k1 : k ≤ 255) (_s0 : 0 ≤ s) (_s1 : s ≤ 63) (hq : k / 64 = 3) (hr : k % 64 = s) (w : World) :
    Calls Tryd.prog 35 #[.agg #[.int .u64 x0, .int .u64 x1, .int .u64 x2, .int .u64 x3], .int .i64 k] w fun e w' => e = .returned (.int .i64 (x3 / 2 ^ s.toNat % 2)) ∧ Below w.heap.size w w' := by
  have p : (0 : Int) < 2 ^ s.toNat := Int.pow_pos (by decide)
  have b0 : 0 ≤ x3 / 2 ^ s.toNat := Int.ediv_nonneg hx3.1 (by omega)
  have b1 : x3 / 2 ^ s.toNat ≤ x3 := Int.ediv_le_self _ hx3.1
  obtain ⟨_, _⟩ := hx3
  go_enter Tryd.func35, Tryd.ntmps35
  go_wp2
  go_ret
  exact ⟨rfl, (Below.refl _ _).alloc (Nat.le_refl _) _⟩

theorem rbit_far {n k : Int} (h : k < 0 ∨ 255 < k) (w : World) :
    Calls Tryd.prog 35 #[.agg #[.int .u64 (l0 n), .int .u64 (l1 n), .int .u64 (l2 n), .int .u64 (l3 n)], .int .i64 k] w fun e w' => e = .returned (.int .i64 0) ∧ Below w.heap.size w w' := by
  rcases h with h | h
  · go_enter Tryd.func35, Tryd.ntmps35
    go_wp2
    go_ret
    exact ⟨rfl, (Below.refl _ _).alloc (Nat.le_refl _) _⟩
  · have h' : ¬ k < 0 := by omega
    go_enter Tryd.func35, Tryd.ntmps35
    go_wp2
    go_ret
    exact ⟨rfl, (Below.refl _ _).alloc (Nat.le_refl _) _⟩

theorem rbit_any {n k : Int} (hn : Num n) (w : World) :
    Calls Tryd.prog 35 #[.agg #[.int .u64 (l0 n), .int .u64 (l1 n), .int .u64 (l2 n), .int .u64 (l3 n)], .int .i64 k] w fun e w' => e = .returned (.int .i64 (bitN n k)) ∧ Below w.heap.size w w' := by
  unfold bitN
  split
  · rename_i h; exact rbit_far h w
  · rename_i h
    obtain ⟨r0, r1, r2, r3⟩ := bit_num (x3 := l3 n) (l0_word n) (l1_word n) (k := k) (l2_word n)
    rw [num_l hn] at r0 r1 r2 r3
    rcases (show k / 64 = 0 ∨ k / 64 = 1 ∨ k / 64 = 2 ∨ k / 64 = 3 by omega) with hq | hq | hq | hq
    · rw [r0 hq]; exact rbit_0 (l0_word n) (by omega) (by omega) (by omega) (by omega) hq rfl w
    · rw [r1 hq]; exact rbit_1 (l1_word n) (by omega) (by omega) (by omega) (by omega) hq rfl w
    · rw [r2 hq]; exact rbit_2 (l2_word n) (by omega) (by omega) (by omega) (by omega) hq rfl w
    · rw [r3 hq]; exact rbit_3 (l3_word n) (by omega) (by omega) (by omega) (by omega) hq rfl w

set_option maxHeartbeats 1000000 in
theorem with_0 {x0 x1 x2 x3 k s : Int} (_k0 : 0 ≤ k) (_k1 : k ≤ 255) (_s0 : 0 ≤ s) (_s1 : s ≤ 63) (hq : k / 64 = 0) (hr : k % 64 = s) (w : World) :
    Calls Tryd.prog 39 #[.agg #[.int .u64 x0, .int .u64 x1, .int .u64 x2, .int .u64 x3], .int .i64 k] w fun e w' => e = .returned (.agg #[.int .u64 (bits .or .u64 x0 (2 ^ s.toNat)), .int .u64 x1, .int .u64 x2, .int .u64 x3]) ∧ Below w.heap.size w w' := by
  obtain ⟨e, p1, p2⟩ := pow_pair _s0 _s1
  have pw : IntKind.u64.wrap (2 ^ s.toNat) = 2 ^ s.toNat := by
    rw [IntKind.wrap_u64]
    have : (2 : Int) ^ s.toNat * 2 ≤ 2 ^ s.toNat * 2 ^ (64 - s).toNat := Int.mul_le_mul_of_nonneg_left p2 (show (0 : Int) ≤ 2 ^ s.toNat by omega)
    omega
  clear e p1 p2
  go_enter Tryd.func39, Tryd.ntmps39
  go_wp2
  simp [bodyPost, results, Tryd.results39, go_sem]
  repeat (first | with_reducible exact Below.refl _ _ | with_reducible refine Below.drew ?_ | with_reducible refine Below.alloc ?_ (by first | omega | (simp; done) | (simp; omega)) _)

set_option maxHeartbeats 1000000 in
theorem with_1 {x0 x1 x2 x3 k s : Int} (_k0 : 0 ≤ k) (_k1 : k ≤ 255) (_s0 : 0 ≤ s) (_s1 : s ≤ 63) (hq : k / 64 = 1) (hr : k % 64 = s) (w : World) :
    Calls Tryd.prog 39 #[.agg #[.int .u64 x0, .int .u64 x1, .int .u64 x2, .int .u64 x3], .int .i64 k] w fun e w' => e = .returned (.agg #[.int .u64 x0, .int .u64 (bits .or .u64 x1 (2 ^ s.toNat)), .int .u64 x2, .int .u64 x3]) ∧ Below w.heap.size w w' := by
  obtain ⟨e, p1, p2⟩ := pow_pair _s0 _s1
  have pw : IntKind.u64.wrap (2 ^ s.toNat) = 2 ^ s.toNat := by
    rw [IntKind.wrap_u64]
    have : (2 : Int) ^ s.toNat * 2 ≤ 2 ^ s.toNat * 2 ^ (64 - s).toNat := Int.mul_le_mul_of_nonneg_left p2 (show (0 : Int) ≤ 2 ^ s.toNat by omega)
    omega
  clear e p1 p2
  go_enter Tryd.func39, Tryd.ntmps39
  go_wp2
  simp [bodyPost, results, Tryd.results39, go_sem]
  repeat (first | with_reducible exact Below.refl _ _ | with_reducible refine Below.drew ?_ | with_reducible refine Below.alloc ?_ (by first | omega | (simp; done) | (simp; omega)) _)

set_option maxHeartbeats 1000000 in
theorem with_2 {x0 x1 x2 x3 k s : Int} (_k0 : 0 ≤ k) (_k1 : k ≤ 255) (_s0 : 0 ≤ s) (_s1 : s ≤ 63) (hq : k / 64 = 2) (hr : k % 64 = s) (w : World) :
    Calls Tryd.prog 39 #[.agg #[.int .u64 x0, .int .u64 x1, .int .u64 x2, .int .u64 x3], .int .i64 k] w fun e w' => e = .returned (.agg #[.int .u64 x0, .int .u64 x1, .int .u64 (bits .or .u64 x2 (2 ^ s.toNat)), .int .u64 x3]) ∧ Below w.heap.size w w' := by
  obtain ⟨e, p1, p2⟩ := pow_pair _s0 _s1
  have pw : IntKind.u64.wrap (2 ^ s.toNat) = 2 ^ s.toNat := by
    rw [IntKind.wrap_u64]
    have : (2 : Int) ^ s.toNat * 2 ≤ 2 ^ s.toNat * 2 ^ (64 - s).toNat := Int.mul_le_mul_of_nonneg_left p2 (show (0 : Int) ≤ 2 ^ s.toNat by omega)
    omega
  clear e p1 p2
  go_enter Tryd.func39, Tryd.ntmps39
  go_wp2
  simp [bodyPost, results, Tryd.results39, go_sem]
  repeat (first | with_reducible exact Below.refl _ _ | with_reducible refine Below.drew ?_ | with_reducible refine Below.alloc ?_ (by first | omega | (simp; done) | (simp; omega)) _)

set_option maxHeartbeats 1000000 in
theorem with_3 {x0 x1 x2 x3 k s : Int} (_k0 : 0 ≤ k) (_k1 : k ≤ 255) (_s0 : 0 ≤ s) (_s1 : s ≤ 63) (hq : k / 64 = 3) (hr : k % 64 = s) (w : World) :
    Calls Tryd.prog 39 #[.agg #[.int .u64 x0, .int .u64 x1, .int .u64 x2, .int .u64 x3], .int .i64 k] w fun e w' => e = .returned (.agg #[.int .u64 x0, .int .u64 x1, .int .u64 x2, .int .u64 (bits .or .u64 x3 (2 ^ s.toNat))]) ∧ Below w.heap.size w w' := by
  obtain ⟨e, p1, p2⟩ := pow_pair _s0 _s1
  have pw : IntKind.u64.wrap (2 ^ s.toNat) = 2 ^ s.toNat := by
    rw [IntKind.wrap_u64]
    have : (2 : Int) ^ s.toNat * 2 ≤ 2 ^ s.toNat * 2 ^ (64 - s).toNat := Int.mul_le_mul_of_nonneg_left p2 (show (0 : Int) ≤ 2 ^ s.toNat by omega)
    omega
  clear e p1 p2
  go_enter Tryd.func39, Tryd.ntmps39
  go_wp2
  simp [bodyPost, results, Tryd.results39, go_sem]
  repeat (first | with_reducible exact Below.refl _ _ | with_reducible refine Below.drew ?_ | with_reducible refine Below.alloc ?_ (by first | omega | (simp; done) | (simp; omega)) _)

end Go.Proofs.YtmhcgjkemlcgoaaDoor
