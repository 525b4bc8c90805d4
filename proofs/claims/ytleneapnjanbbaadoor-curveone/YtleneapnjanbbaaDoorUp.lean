import Derived.Test.YtleneapnjanbbaaDoorAdd
import Derived.Test.YtleneapnjanbbaaDoorTail
import Derived.Test.YtleneapnjanbbaaDoorShiftNum
namespace Go.Proofs.YtleneapnjanbbaaDoor
open Go.RowKit

set_option maxHeartbeats 1000000 in
theorem up_0 {x0 x1 x2 x3 n s : Int} (hx0 : Word x0) (hx1 : Word x1) (hx2 : Word x2) (hx3 : Word x3) (_n0 : 0 ≤ n) (_n1 : n ≤ 255) (s0 : 0 ≤ s) (s1 : s ≤ 63) (hq : n / 64 = 0) (hr : n % 64 = s) (w : World) :
    Calls Tryd.prog 55 #[.agg #[.int .u64 x0, .int .u64 x1, .int .u64 x2, .int .u64 x3], .int .i64 n] w fun e w' => e = .returned (.agg #[.int .u64 (IntKind.u64.wrap (x0 * 2 ^ s.toNat)), .int .u64 (bits .or .u64 (IntKind.u64.wrap (x1 * 2 ^ s.toNat)) (x0 / 2 ^ (64 - s).toNat)), .int .u64 (bits .or .u64 (IntKind.u64.wrap (x2 * 2 ^ s.toNat)) (x1 / 2 ^ (64 - s).toNat)), .int .u64 (bits .or .u64 (IntKind.u64.wrap (x3 * 2 ^ s.toNat)) (x2 / 2 ^ (64 - s).toNat))]) ∧ Below w.heap.size w w' := by
  obtain ⟨_, _⟩ := hx0; obtain ⟨_, _⟩ := hx1; obtain ⟨_, _⟩ := hx2; obtain ⟨_, _⟩ := hx3
  go_enter Tryd.func55, Tryd.ntmps55
  go_wp2
  refine wp_loop_rounds 5 ?_
  rw [rounds_succ]; go_wp2
  rw [rounds_succ]; go_wp2; go_region; go_wp2
  rw [rounds_succ]; go_wp2; go_region; go_wp2
  rw [rounds_succ]; go_wp2; go_region; go_wp2
  rw [rounds_succ]; go_wp2
  simp [bodyPost, results, Tryd.results55, go_sem]
  repeat (first | with_reducible exact Below.refl _ _ | with_reducible refine Below.drew ?_ | with_reducible refine Below.alloc ?_ (by first | omega | (simp; done) | (simp; omega)) _)

set_option maxHeartbeats 1000000 in
theorem up_1 {x0 x1 x2 x3 n s : Int} (hx0 : Word x0) (hx1 : Word x1) (hx2 : Word x2) (hx3 : Word x3) (_n0 : 0 ≤ n) (_n1 : n ≤ 255) (s0 : 0 ≤ s) (s1 : s ≤ 63) (hq : n / 64 = 1) (hr : n % 64 = s) (w : World) :
    Calls Tryd.prog 55 #[.agg #[.int .u64 x0, .int .u64 x1, .int .u64 x2, .int .u64 x3], .int .i64 n] w fun e w' => e = .returned (.agg #[.int .u64 0, .int .u64 (IntKind.u64.wrap (x0 * 2 ^ s.toNat)), .int .u64 (bits .or .u64 (IntKind.u64.wrap (x1 * 2 ^ s.toNat)) (x0 / 2 ^ (64 - s).toNat)), .int .u64 (bits .or .u64 (IntKind.u64.wrap (x2 * 2 ^ s.toNat)) (x1 / 2 ^ (64 - s).toNat))]) ∧ Below w.heap.size w w' := by
  obtain ⟨_, _⟩ := hx0; obtain ⟨_, _⟩ := hx1; obtain ⟨_, _⟩ := hx2; obtain ⟨_, _⟩ := hx3
  go_enter Tryd.func55, Tryd.ntmps55
  go_wp2
  refine wp_loop_rounds 5 ?_
  rw [rounds_succ]; go_wp2
  rw [rounds_succ]; go_wp2; go_region; go_wp2
  rw [rounds_succ]; go_wp2; go_region; go_wp2
  rw [rounds_succ]; go_wp2
  simp [bodyPost, results, Tryd.results55, go_sem]
  repeat (first | with_reducible exact Below.refl _ _ | with_reducible refine Below.drew ?_ | with_reducible refine Below.alloc ?_ (by first | omega | (simp; done) | (simp; omega)) _)

set_option maxHeartbeats 1000000 in
theorem up_2 {x0 x1 x2 x3 n s : Int} (hx0 : Word x0) (hx1 : Word x1) (hx2 : Word x2) (hx3 : Word x3) (_n0 : 0 ≤ n) (_n1 : n ≤ 255) (s0 : 0 ≤ s) (s1 : s ≤ 63) (hq : n / 64 = 2) (hr : n % 64 = s) (w : World) :
    Calls Tryd.prog 55 #[.agg #[.int .u64 x0, .int .u64 x1, .int .u64 x2, .int .u64 x3], .int .i64 n] w fun e w' => e = .returned (.agg #[.int .u64 0, .int .u64 0, .int .u64 (IntKind.u64.wrap (x0 * 2 ^ s.toNat)), .int .u64 (bits .or .u64 (IntKind.u64.wrap (x1 * 2 ^ s.toNat)) (x0 / 2 ^ (64 - s).toNat))]) ∧ Below w.heap.size w w' := by
  obtain ⟨_, _⟩ := hx0; obtain ⟨_, _⟩ := hx1; obtain ⟨_, _⟩ := hx2; obtain ⟨_, _⟩ := hx3
  go_enter Tryd.func55, Tryd.ntmps55
  go_wp2
  refine wp_loop_rounds 5 ?_
  rw [rounds_succ]; go_wp2
  rw [rounds_succ]; go_wp2; go_region; go_wp2
  rw [rounds_succ]; go_wp2
  simp [bodyPost, results, Tryd.results55, go_sem]
  repeat (first | with_reducible exact Below.refl _ _ | with_reducible refine Below.drew ?_ | with_reducible refine Below.alloc ?_ (by first | omega | (simp; done) | (simp; omega)) _)

set_option maxHeartbeats 1000000 in
theorem up_3 {x0 x1 x2 x3 n s : Int} (hx0 : Word x0) (hx1 : Word x1) (hx2 : Word x2) (hx3 : Word x3) (_n0 : 0 ≤ n) (_n1 : n ≤ 255) (s0 : 0 ≤ s) (s1 : s ≤ 63) (hq : n / 64 = 3) (hr : n % 64 = s) (w : World) :
    Calls Tryd.prog 55 #[.agg #[.int .u64 x0, .int .u64 x1, .int .u64 x2, .int .u64 x3], .int .i64 n] w fun e w' => e = .returned (.agg #[.int .u64 0, .int .u64 0, .int .u64 0, .int .u64 (IntKind.u64.wrap (x0 * 2 ^ s.toNat))]) ∧ Below w.heap.size w w' := by
  obtain ⟨_, _⟩ := hx0; obtain ⟨_, _⟩ := hx1; obtain ⟨_, _⟩ := hx2; obtain ⟨_, _⟩ := hx3
  go_enter Tryd.func55, Tryd.ntmps55
  go_wp2
  refine wp_loop_rounds 5 ?_
  rw [rounds_succ]; go_wp2
  rw [rounds_succ]; go_wp2
  simp [bodyPost, results, Tryd.results55, go_sem]
  repeat (first | with_reducible exact Below.refl _ _ | with_reducible refine Below.drew ?_ | with_reducible refine Below.alloc ?_ (by first | omega | (simp; done) | (simp; omega)) _)

set_option maxHeartbeats 1000000 in
theorem down_0 {x0 x1 x2 x3 n s : Int} (hx0 : Word x0) (hx1 : Word x1) (hx2 : Word x2) (hx3 : Word x3) (_n0 : 0 ≤ n) (_n1 : n ≤ 255) (s0 : 0 ≤ s) (s1 : s ≤ 63) (hq : n / 64 = 0) (hr : n % 64 = s) (w : World) :
    Calls Tryd.prog 56 #[.agg #[.int .u64 x0, .int .u64 x1, .int .u64 x2, .int .u64 x3], .int .i64 n] w fun e w' => e = .returned (.agg #[.int .u64 (bits .or .u64 (x0 / 2 ^ s.toNat) (IntKind.u64.wrap (x1 * 2 ^ (64 - s).toNat))), .int .u64 (bits .or .u64 (x1 / 2 ^ s.toNat) (IntKind.u64.wrap (x2 * 2 ^ (64 - s).toNat))), .int .u64 (bits .or .u64 (x2 / 2 ^ s.toNat) (IntKind.u64.wrap (x3 * 2 ^ (64 - s).toNat))), .int .u64 (x3 / 2 ^ s.toNat)]) ∧ Below w.heap.size w w' := by
  obtain ⟨_, _⟩ := hx0; obtain ⟨_, _⟩ := hx1; obtain ⟨_, _⟩ := hx2; obtain ⟨_, _⟩ := hx3
  go_enter Tryd.func56, Tryd.ntmps56
  go_wp2
  refine wp_loop_rounds 5 ?_
  rw [rounds_succ]; go_wp2
  rw [rounds_succ]; go_wp2; go_region; go_wp2
  rw [rounds_succ]; go_wp2; go_region; go_wp2
  rw [rounds_succ]; go_wp2; go_region; go_wp2
  rw [rounds_succ]; go_wp2
  simp [bodyPost, results, Tryd.results56, go_sem]
  repeat (first | with_reducible exact Below.refl _ _ | with_reducible refine Below.drew ?_ | with_reducible refine Below.alloc ?_ (by first | omega | (simp; done) | (simp; omega)) _)

set_option maxHeartbeats 1000000 in
theorem down_1 {x0 x1 x2 x3 n s : Int} (hx0 : Word x0) (hx1 : Word x1) (hx2 : Word x2) (hx3 : Word x3) (_n0 : 0 ≤ n) (_n1 : n ≤ 255) (s0 : 0 ≤ s) (s1 : s ≤ 63) (hq : n / 64 = 1) (hr : n % 64 = s) (w : World) :
    Calls Tryd.prog 56 #[.agg #[.int .u64 x0, .int .u64 x1, .int .u64 x2, .int .u64 x3], .int .i64 n] w fun e w' => e = .returned (.agg #[.int .u64 (bits .or .u64 (x1 / 2 ^ s.toNat) (IntKind.u64.wrap (x2 * 2 ^ (64 - s).toNat))), .int .u64 (bits .or .u64 (x2 / 2 ^ s.toNat) (IntKind.u64.wrap (x3 * 2 ^ (64 - s).toNat))), .int .u64 (x3 / 2 ^ s.toNat), .int .u64 0]) ∧ Below w.heap.size w w' := by
  obtain ⟨_, _⟩ := hx0; obtain ⟨_, _⟩ := hx1; obtain ⟨_, _⟩ := hx2; obtain ⟨_, _⟩ := hx3
  go_enter Tryd.func56, Tryd.ntmps56
  go_wp2
  refine wp_loop_rounds 5 ?_
  rw [rounds_succ]; go_wp2
  rw [rounds_succ]; go_wp2; go_region; go_wp2
  rw [rounds_succ]; go_wp2; go_region; go_wp2
  rw [rounds_succ]; go_wp2
  simp [bodyPost, results, Tryd.results56, go_sem]
  repeat (first | with_reducible exact Below.refl _ _ | with_reducible refine Below.drew ?_ | with_reducible refine Below.alloc ?_ (by first | omega | (simp; done) | (simp; omega)) _)

set_option maxHeartbeats 1000000 in
theorem down_2 {x0 x1 x2 x3 n s : Int} (hx0 : Word x0) (hx1 : Word x1) (hx2 : Word x2) (hx3 : Word x3) (_n0 : 0 ≤ n) (_n1 : n ≤ 255) (s0 : 0 ≤ s) (s1 : s ≤ 63) (hq : n / 64 = 2) (hr : n % 64 = s) (w : World) :
    Calls Tryd.prog 56 #[.agg #[.int .u64 x0, .int .u64 x1, .int .u64 x2, .int .u64 x3], .int .i64 n] w fun e w' => e = .returned (.agg #[.int .u64 (bits .or .u64 (x2 / 2 ^ s.toNat) (IntKind.u64.wrap (x3 * 2 ^ (64 - s).toNat))), .int .u64 (x3 / 2 ^ s.toNat), .int .u64 0, .int .u64 0]) ∧ Below w.heap.size w w' := by
  obtain ⟨_, _⟩ := hx0; obtain ⟨_, _⟩ := hx1; obtain ⟨_, _⟩ := hx2; obtain ⟨_, _⟩ := hx3
  go_enter Tryd.func56, Tryd.ntmps56
  go_wp2
  refine wp_loop_rounds 5 ?_
  rw [rounds_succ]; go_wp2
  rw [rounds_succ]; go_wp2; go_region; go_wp2
  rw [rounds_succ]; go_wp2
  simp [bodyPost, results, Tryd.results56, go_sem]
  repeat (first | with_reducible exact Below.refl _ _ | with_reducible refine Below.drew ?_ | with_reducible refine Below.alloc ?_ (by first | omega | (simp; done) | (simp; omega)) _)

set_option maxHeartbeats 1000000 in
theorem down_3 {x0 x1 x2 x3 n s : Int} (hx0 : Word x0) (hx1 : Word x1) (hx2 : Word x2) (hx3 : Word x3) (_n0 : 0 ≤ n) (_n1 : n ≤ 255) (s0 : 0 ≤ s) (s1 : s ≤ 63) (hq : n / 64 = 3) (hr : n % 64 = s) (w : World) :
    Calls Tryd.prog 56 #[.agg #[.int .u64 x0, .int .u64 x1, .int .u64 x2, .int .u64 x3], .int .i64 n] w fun e w' => e = .returned (.agg #[.int .u64 (x3 / 2 ^ s.toNat), .int .u64 0, .int .u64 0, .int .u64 0]) ∧ Below w.heap.size w w' := by
  obtain ⟨_, _⟩ := hx0; obtain ⟨_, _⟩ := hx1; obtain ⟨_, _⟩ := hx2; obtain ⟨_, _⟩ := hx3
  go_enter Tryd.func56, Tryd.ntmps56
  go_wp2
  refine wp_loop_rounds 5 ?_
  rw [rounds_succ]; go_wp2
  rw [rounds_succ]; go_wp2
  simp [bodyPost, results, Tryd.results56, go_sem]
  repeat (first | with_reducible exact Below.refl _ _ | with_reducible refine Below.drew ?_ | with_reducible refine Below.alloc ?_ (by first | omega | (simp; done) | (simp; omega)) _)

end Go.Proofs.YtleneapnjanbbaaDoor

namespace Go.Proofs.YtleneapnjanbbaaDoor
open Go.RowKit

theorem pow_split {n s : Int} (q : Nat) (hs : 0 ≤ s) (h : n = 64 * q + s) : (2 : Int) ^ n.toNat = 2 ^ (64 * q) * 2 ^ s.toNat := by
  rw [← Int.pow_add]; congr 1; omega
theorem or_none {x s : Int} (hx : Word x) (s0 : 0 ≤ s) (s1 : s ≤ 63) : bits .or .u64 (x / 2 ^ s.toNat) (IntKind.u64.wrap (0 * 2 ^ (64 - s).toNat)) = x / 2 ^ s.toNat := by
  rw [down_or hx ⟨by decide, by decide⟩ s0 s1, Int.zero_mul, IntKind.wrap_u64]
  omega

theorem up_any {n k : Int} (hn : Num n) (k0 : 0 ≤ k) (k1 : k ≤ 255) (w : World) :
    Calls Tryd.prog 55 #[.agg #[.int .u64 (l0 n), .int .u64 (l1 n), .int .u64 (l2 n), .int .u64 (l3 n)], .int .i64 k] w fun e w' => e = .returned (.agg #[.int .u64 (l0 (upN n k)), .int .u64 (l1 (upN n k)), .int .u64 (l2 (upN n k)), .int .u64 (l3 (upN n k))]) ∧ Below w.heap.size w w' := by
  have hx0 := l0_word n; have hx1 := l1_word n; have hx2 := l2_word n; have hx3 := l3_word n
  have en := num_l hn
  have s0 : 0 ≤ k % 64 := by omega
  have s1 : k % 64 ≤ 63 := by omega
  obtain ⟨t0, t1, t2, t3, t4, w0, w1, w2, w3, w4, E, f0, f1, f2, f3, f4⟩ := up_five hx0 hx1 hx2 hx3 s0 s1
  rcases (show k / 64 = 0 ∨ k / 64 = 1 ∨ k / 64 = 2 ∨ k / 64 = 3 by omega) with hq | hq | hq | hq
  · have hk := pow_split 0 s0 (show k = 64 * (0 : Nat) + k % 64 by omega)
    have U : upN n k = num t0 t1 t2 t3 := by
      unfold upN
      rw [hk, show (2 : Int) ^ (64 * 0) = 1 by decide, Int.mul_comm 1, ← Int.mul_assoc, ← en, E]
      unfold num Word at *
      omega
    obtain ⟨r0, r1, r2, r3⟩ := limbs_of w0 w1 w2 w3 U
    rw [r0, r1, r2, r3]
    rw [← f0, ← f1, ← f2, ← f3]
    exact up_0 hx0 hx1 hx2 hx3 k0 k1 s0 s1 hq rfl w
  · have hk := pow_split 1 s0 (show k = 64 * (1 : Nat) + k % 64 by omega)
    have U : upN n k = num 0 t0 t1 t2 := by
      unfold upN
      rw [hk, show (2 : Int) ^ (64 * 1) = 18446744073709551616 by decide, Int.mul_comm 18446744073709551616, ← Int.mul_assoc, ← en, E]
      unfold num Word at *
      omega
    obtain ⟨r0, r1, r2, r3⟩ := limbs_of ⟨by decide, by decide⟩ w0 w1 w2 U
    rw [r0, r1, r2, r3]
    rw [← f0, ← f1, ← f2]
    exact up_1 hx0 hx1 hx2 hx3 k0 k1 s0 s1 hq rfl w
  · have hk := pow_split 2 s0 (show k = 64 * (2 : Nat) + k % 64 by omega)
    have U : upN n k = num 0 0 t0 t1 := by
      unfold upN
      rw [hk, show (2 : Int) ^ (64 * 2) = 340282366920938463463374607431768211456 by decide, Int.mul_comm 340282366920938463463374607431768211456, ← Int.mul_assoc, ← en, E]
      unfold num Word at *
      omega
    obtain ⟨r0, r1, r2, r3⟩ := limbs_of ⟨by decide, by decide⟩ ⟨by decide, by decide⟩ w0 w1 U
    rw [r0, r1, r2, r3]
    rw [← f0, ← f1]
    exact up_2 hx0 hx1 hx2 hx3 k0 k1 s0 s1 hq rfl w
  · have hk := pow_split 3 s0 (show k = 64 * (3 : Nat) + k % 64 by omega)
    have U : upN n k = num 0 0 0 t0 := by
      unfold upN
      rw [hk, show (2 : Int) ^ (64 * 3) = 6277101735386680763835789423207666416102355444464034512896 by decide, Int.mul_comm 6277101735386680763835789423207666416102355444464034512896, ← Int.mul_assoc, ← en, E]
      unfold num Word at *
      omega
    obtain ⟨r0, r1, r2, r3⟩ := limbs_of ⟨by decide, by decide⟩ ⟨by decide, by decide⟩ ⟨by decide, by decide⟩ w0 U
    rw [r0, r1, r2, r3]
    rw [← f0]
    exact up_3 hx0 hx1 hx2 hx3 k0 k1 s0 s1 hq rfl w

theorem down_any {n k : Int} (hn : Num n) (k0 : 0 ≤ k) (k1 : k ≤ 255) (w : World) :
    Calls Tryd.prog 56 #[.agg #[.int .u64 (l0 n), .int .u64 (l1 n), .int .u64 (l2 n), .int .u64 (l3 n)], .int .i64 k] w fun e w' => e = .returned (.agg #[.int .u64 (l0 (downN n k)), .int .u64 (l1 (downN n k)), .int .u64 (l2 (downN n k)), .int .u64 (l3 (downN n k))]) ∧ Below w.heap.size w w' := by
  have hx0 := l0_word n; have hx1 := l1_word n; have hx2 := l2_word n; have hx3 := l3_word n
  have en := num_l hn
  have s0 : 0 ≤ k % 64 := by omega
  have s1 : k % 64 ≤ 63 := by omega
  have z : Word 0 := ⟨by decide, by decide⟩
  rcases (show k / 64 = 0 ∨ k / 64 = 1 ∨ k / 64 = 2 ∨ k / 64 = 3 by omega) with hq | hq | hq | hq
  · have hk := pow_split 0 s0 (show k = 64 * (0 : Nat) + k % 64 by omega)
    obtain ⟨t0, t1, t2, t3, w0, w1, w2, w3, E, f0, f1, f2, f3⟩ := down_four hx0 hx1 hx2 hx3 s0 s1
    have U : downN n k = num t0 t1 t2 t3 := by
      unfold downN
      rw [hk, show (2 : Int) ^ (64 * 0) = 1 by decide, ← Int.ediv_ediv_of_nonneg (by decide), ← E]
      congr 1
      conv => lhs; rw [← en]
      generalize l0 n = a0 at *; generalize l1 n = a1 at *; generalize l2 n = a2 at *; generalize l3 n = a3 at *
      clear E f0 f1 f2 f3 en
      unfold num Word at *
      omega
    obtain ⟨r0, r1, r2, r3⟩ := limbs_of w0 w1 w2 w3 U
    rw [r0, r1, r2, r3]
    rw [← f0, ← f1, ← f2, ← f3]
    exact down_0 hx0 hx1 hx2 hx3 k0 k1 s0 s1 hq rfl w
  · have hk := pow_split 1 s0 (show k = 64 * (1 : Nat) + k % 64 by omega)
    obtain ⟨t0, t1, t2, t3, w0, w1, w2, w3, E, f0, f1, f2, f3⟩ := down_four hx1 hx2 hx3 z s0 s1
    have U : downN n k = num t0 t1 t2 t3 := by
      unfold downN
      rw [hk, show (2 : Int) ^ (64 * 1) = 18446744073709551616 by decide, ← Int.ediv_ediv_of_nonneg (by decide), ← E]
      congr 1
      conv => lhs; rw [← en]
      generalize l0 n = a0 at *; generalize l1 n = a1 at *; generalize l2 n = a2 at *; generalize l3 n = a3 at *
      clear E f0 f1 f2 f3 en
      unfold num Word at *
      omega
    obtain ⟨r0, r1, r2, r3⟩ := limbs_of w0 w1 w2 w3 U
    rw [r0, r1, r2, r3]
    rw [or_none hx3 s0 s1] at f2
    rw [Int.zero_ediv] at f3
    rw [← f0, ← f1, ← f2, ← f3]
    exact down_1 hx0 hx1 hx2 hx3 k0 k1 s0 s1 hq rfl w
  · have hk := pow_split 2 s0 (show k = 64 * (2 : Nat) + k % 64 by omega)
    obtain ⟨t0, t1, t2, t3, w0, w1, w2, w3, E, f0, f1, f2, f3⟩ := down_four hx2 hx3 z z s0 s1
    have U : downN n k = num t0 t1 t2 t3 := by
      unfold downN
      rw [hk, show (2 : Int) ^ (64 * 2) = 340282366920938463463374607431768211456 by decide, ← Int.ediv_ediv_of_nonneg (by decide), ← E]
      congr 1
      conv => lhs; rw [← en]
      generalize l0 n = a0 at *; generalize l1 n = a1 at *; generalize l2 n = a2 at *; generalize l3 n = a3 at *
      clear E f0 f1 f2 f3 en
      unfold num Word at *
      omega
    obtain ⟨r0, r1, r2, r3⟩ := limbs_of w0 w1 w2 w3 U
    rw [r0, r1, r2, r3]
    rw [or_none hx3 s0 s1] at f1
    rw [or_none z s0 s1, Int.zero_ediv] at f2
    rw [Int.zero_ediv] at f3
    rw [← f0, ← f1, ← f2, ← f3]
    exact down_2 hx0 hx1 hx2 hx3 k0 k1 s0 s1 hq rfl w
  · have hk := pow_split 3 s0 (show k = 64 * (3 : Nat) + k % 64 by omega)
    obtain ⟨t0, t1, t2, t3, w0, w1, w2, w3, E, f0, f1, f2, f3⟩ := down_four hx3 z z z s0 s1
    have U : downN n k = num t0 t1 t2 t3 := by
      unfold downN
      rw [hk, show (2 : Int) ^ (64 * 3) = 6277101735386680763835789423207666416102355444464034512896 by decide, ← Int.ediv_ediv_of_nonneg (by decide), ← E]
      congr 1
      conv => lhs; rw [← en]
      generalize l0 n = a0 at *; generalize l1 n = a1 at *; generalize l2 n = a2 at *; generalize l3 n = a3 at *
      clear E f0 f1 f2 f3 en
      unfold num Word at *
      omega
    obtain ⟨r0, r1, r2, r3⟩ := limbs_of w0 w1 w2 w3 U
    rw [r0, r1, r2, r3]
    rw [or_none hx3 s0 s1] at f0
    rw [or_none z s0 s1, Int.zero_ediv] at f1
    rw [or_none z s0 s1, Int.zero_ediv] at f2
    rw [Int.zero_ediv] at f3
    rw [← f0, ← f1, ← f2, ← f3]
    exact down_3 hx0 hx1 hx2 hx3 k0 k1 s0 s1 hq rfl w

end Go.Proofs.YtleneapnjanbbaaDoor

namespace Go.Proofs.YtleneapnjanbbaaDoor
open Go.RowKit

def shrN (n k : Int) : Int := if k ≤ -256 ∨ 256 ≤ k then 0 else if k < 0 then upN n (-k) else downN n k

theorem zero_limbs : l0 0 = 0 ∧ l1 0 = 0 ∧ l2 0 = 0 ∧ l3 0 = 0 := by decide
theorem build_zero (w : World) : (Instr.build 26 #[]).run Tryd.prog w = .ok (.agg #[.int .u64 0, .int .u64 0, .int .u64 0, .int .u64 0]) w := run_build w 26 _ _ (by kernel_rfl)

set_option maxHeartbeats 400000 in
theorem shr_far {n k : Int} (h : k ≤ -256 ∨ 256 ≤ k) (w : World) :
    Calls Tryd.prog 48 #[.agg #[.int .u64 (l0 n), .int .u64 (l1 n), .int .u64 (l2 n), .int .u64 (l3 n)], .int .i64 k] w fun e w' => e = .returned (.agg #[.int .u64 (l0 0), .int .u64 (l1 0), .int .u64 (l2 0), .int .u64 (l3 0)]) ∧ Below w.heap.size w w' := by
  obtain ⟨z0, z1, z2, z3⟩ := zero_limbs
  rw [z0, z1, z2, z3]
  clear z0 z1 z2 z3
  have hb := build_zero
  rcases h with h | h
  · go_enter Tryd.func48, Tryd.ntmps48
    go_wp2
    simp [bodyPost, results, Tryd.results48, go_sem]
    repeat (first | with_reducible exact Below.refl _ _ | with_reducible refine Below.drew ?_ | with_reducible refine Below.alloc ?_ (by first | omega | (simp; done) | (simp; omega)) _)
  · have h' : ¬ k ≤ -256 := by omega
    go_enter Tryd.func48, Tryd.ntmps48
    go_wp2
    simp [bodyPost, results, Tryd.results48, go_sem]
    repeat (first | with_reducible exact Below.refl _ _ | with_reducible refine Below.drew ?_ | with_reducible refine Below.alloc ?_ (by first | omega | (simp; done) | (simp; omega)) _)

set_option maxHeartbeats 400000 in
theorem shr_near {n k : Int} (hn : Num n) (h0 : 0 ≤ k) (h1 : k ≤ 255) (w : World) :
    Calls Tryd.prog 48 #[.agg #[.int .u64 (l0 n), .int .u64 (l1 n), .int .u64 (l2 n), .int .u64 (l3 n)], .int .i64 k] w fun e w' => e = .returned (.agg #[.int .u64 (l0 (downN n k)), .int .u64 (l1 (downN n k)), .int .u64 (l2 (downN n k)), .int .u64 (l3 (downN n k))]) ∧ Below w.heap.size w w' := by
  go_enter Tryd.func48, Tryd.ntmps48
  go_wp2_with fail
  refine (down_any hn h0 h1 _).mono ?_
  rintro e w' ⟨rfl, hw⟩
  have hc := oldCells hw
  go_wp2
  simp [bodyPost, results, Tryd.results48, go_sem, hc]
  clear hc
  have hz := hw.size
  simp at hz
  repeat (first | with_reducible exact Below.refl _ _ | with_reducible refine Below.drew ?_ | with_reducible refine Below.setCell ?_ (by first | omega | (simp; done) | (simp; omega)) _ | with_reducible refine Below.alloc ?_ (by first | omega | (simp; done) | (simp; omega)) _ | with_reducible refine Below.trans ?_ (Below.mono hw (by first | omega | (simp; done) | (simp; omega))))

set_option maxHeartbeats 400000 in
theorem shr_neg {n k : Int} (hn : Num n) (h0 : k < 0) (h1 : -255 ≤ k) (w : World) :
    Calls Tryd.prog 48 #[.agg #[.int .u64 (l0 n), .int .u64 (l1 n), .int .u64 (l2 n), .int .u64 (l3 n)], .int .i64 k] w fun e w' => e = .returned (.agg #[.int .u64 (l0 (upN n (-k))), .int .u64 (l1 (upN n (-k))), .int .u64 (l2 (upN n (-k))), .int .u64 (l3 (upN n (-k)))]) ∧ Below w.heap.size w w' := by
  go_enter Tryd.func48, Tryd.ntmps48
  go_wp2_with fail
  refine (up_any hn (by omega) (by omega) _).mono ?_
  rintro e w' ⟨rfl, hw⟩
  have hc := oldCells hw
  go_wp2
  simp [bodyPost, results, Tryd.results48, go_sem, hc]
  clear hc
  have hz := hw.size
  simp at hz
  repeat (first | with_reducible exact Below.refl _ _ | with_reducible refine Below.drew ?_ | with_reducible refine Below.setCell ?_ (by first | omega | (simp; done) | (simp; omega)) _ | with_reducible refine Below.alloc ?_ (by first | omega | (simp; done) | (simp; omega)) _ | with_reducible refine Below.trans ?_ (Below.mono hw (by first | omega | (simp; done) | (simp; omega))))

theorem shr_any {n k : Int} (hn : Num n) (w : World) :
    Calls Tryd.prog 48 #[.agg #[.int .u64 (l0 n), .int .u64 (l1 n), .int .u64 (l2 n), .int .u64 (l3 n)], .int .i64 k] w fun e w' => e = .returned (.agg #[.int .u64 (l0 (shrN n k)), .int .u64 (l1 (shrN n k)), .int .u64 (l2 (shrN n k)), .int .u64 (l3 (shrN n k))]) ∧ Below w.heap.size w w' := by
  unfold shrN
  split
  · rename_i h; exact shr_far h w
  · split
    · exact shr_neg hn (by omega) (by omega) w
    · exact shr_near hn (by omega) (by omega) w

end Go.Proofs.YtleneapnjanbbaaDoor
