import Derived.Test.YtncpjgpioajbeaaGreatDoorUp
namespace Go.Proofs.YtncpjgpioajbeaaGreatDoor
open Go.RowKit

theorem pow_split {n s : Int} (q : Nat) (hs : 0 ≤ s) (h : n = 64 * q + s) : (2 : Int) ^ n.toNat = 2 ^ (64 * q) * 2 ^ s.toNat := by
  rw [← Int.pow_add]; congr 1; omega
theorem or_none {x s : Int} (hx : Word x) (s0 : 0 ≤ s) (s1 : s ≤ 63) : bits .or .u64 (x / 2 ^ s.toNat) (IntKind.u64.wrap (0 * 2 ^ (64 - s).toNat)) = x / 2 ^ s.toNat := by
  rw [down_or hx ⟨by decide, by decide⟩ s0 s1, Int.zero_mul, IntKind.wrap_u64]
  omega

theorem up_any {n k : Int} (hn : Num n) (k0 : 0 ≤ k) (k1 : k ≤ 255) (w : World) :
    Calls Tryz.prog 111 #[.agg #[.int .u64 (l0 n), .int .u64 (l1 n), .int .u64 (l2 n), .int .u64 (l3 n)], .int .i64 k] w fun e w' => e = .returned (.agg #[.int .u64 (l0 (upN n k)), .int .u64 (l1 (upN n k)), .int .u64 (l2 (upN n k)), .int .u64 (l3 (upN n k))]) ∧ Below w.heap.size w w' := by
  have hx0 := l0_word n; have hx1 := l1_word n; have hx2 := l2_word n; have hx3 := l3_word n
  have en := num_l hn
  have s0 : 0 ≤ k % 64 := by omega
  have s1 : k % 64 ≤ 63 := by omega
  obtain ⟨t0, t1, t2, t3, t4, w0, w1, w2, w3, w4, E, f0, f1, f2, f3, f4⟩ := up_five hx0 hx1 hx2 hx3 s0 s1
  rcases (show k / 64 = 0 ∨ k / 64 = 1 ∨ k / 64 = 2 ∨ k / 64 = 3 by omega) with hq | hq | hq | hq
  · have hk := pow_split 0 s0 (show k = 64 * (0 : Nat) + k % 64 by omega)
    have U : upN n k = num t0 t1 t2 t3 := by
      unfold upN
      rw [hk, show (2 : Int) ^ (64 * 0) = 1 by decide, Int.mul_comm 1, ← Int.mul_assoc, ← en, E]
      unfold num Word at *
      omega
    obtain ⟨r0, r1, r2, r3⟩ := limbs_of w0 w1 w2 w3 U
    rw [r0, r1, r2, r3]
    rw [← f0, ← f1, ← f2, ← f3]
    exact up_0 hx0 hx1 hx2 hx3 k0 k1 s0 s1 hq rfl w
  · have hk := pow_split 1 s0 (show k = 64 * (1 : Nat) + k % 64 by omega)
    have U : upN n k = num 0 t0 t1 t2 := by
      unfold upN
      rw [hk, show (2 : Int) ^ (64 * 1) = 18446744073709551616 by decide, Int.mul_comm 18446744073709551616, ← Int.mul_assoc, ← en, E]
      unfold num Word at *
      omega
    obtain ⟨r0, r1, r2, r3⟩ := limbs_of ⟨by decide, by decide⟩ w0 w1 w2 U
    rw [r0, r1, r2, r3]
    rw [← f0, ← f1, ← f2]
    exact up_1 hx0 hx1 hx2 hx3 k0 k1 s0 s1 hq rfl w
  · have hk := pow_split 2 s0 (show k = 64 * (2 : Nat) + k % 64 by omega)
    have U : upN n k = num 0 0 t0 t1 := by
      unfold upN
      rw [hk, show (2 : Int) ^ (64 * 2) = 340282366920938463463374607431768211456 by decide, Int.mul_comm 340282366920938463463374607431768211456, ← Int.mul_assoc, ← en, E]
      unfold num Word at *
      omega
    obtain ⟨r0, r1, r2, r3⟩ := limbs_of ⟨by decide, by decide⟩ ⟨by decide, by decide⟩ w0 w1 U
    rw [r0, r1, r2, r3]
    rw [← f0, ← f1]
    exact up_2 hx0 hx1 hx2 hx3 k0 k1 s0 s1 hq rfl w
  · have hk := pow_split 3 s0 (show k = 64 * (3 : Nat) + k % 64 by omega)
    have U : upN n k = num 0 0 0 t0 := by
      unfold upN
      rw [hk, show (2 : Int) ^ (64 * 3) = 6277101735386680763835789423207666416102355444464034512896 by decide, Int.mul_comm 6277101735386680763835789423207666416102355444464034512896, ← Int.mul_assoc, ← en, E]
      unfold num Word at *
      omega
    obtain ⟨r0, r1, r2, r3⟩ := limbs_of ⟨by decide, by decide⟩ ⟨by decide, by decide⟩ ⟨by decide, by decide⟩ w0 U
    rw [r0, r1, r2, r3]
    rw [← f0]
    exact up_3 hx0 hx1 hx2 hx3 k0 k1 s0 s1 hq rfl w

theorem down_any {n k : Int} (hn : Num n) (k0 : 0 ≤ k) (k1 : k ≤ 255) (w : World) :
    Calls Tryz.prog 112 #[.agg #[.int .u64 (l0 n), .int .u64 (l1 n), .int .u64 (l2 n), .int .u64 (l3 n)], .int .i64 k] w fun e w' => e = .returned (.agg #[.int .u64 (l0 (downN n k)), .int .u64 (l1 (downN n k)), .int .u64 (l2 (downN n k)), .int .u64 (l3 (downN n k))]) ∧ Below w.heap.size w w' := by
  have hx0 := l0_word n; have hx1 := l1_word n; have hx2 := l2_word n; have hx3 := l3_word n
  have en := num_l hn
  have s0 : 0 ≤ k % 64 := by omega
  have s1 : k % 64 ≤ 63 := by omega
  have z : Word 0 := ⟨by decide, by decide⟩
  rcases (show k / 64 = 0 ∨ k / 64 = 1 ∨ k / 64 = 2 ∨ k / 64 = 3 by omega) with hq | hq | hq | hq
  · have hk := pow_split 0 s0 (show k = 64 * (0 : Nat) + k % 64 by omega)
    obtain ⟨t0, t1, t2, t3, w0, w1, w2, w3, E, f0, f1, f2, f3⟩ := down_four hx0 hx1 hx2 hx3 s0 s1
    have U : downN n k = num t0 t1 t2 t3 := by
      unfold downN
      rw [hk, show (2 : Int) ^ (64 * 0) = 1 by decide, ← Int.ediv_ediv_of_nonneg (by decide), ← E]
      congr 1
      conv => lhs; rw [← en]
      generalize l0 n = a0 at *; generalize l1 n = a1 at *; generalize l2 n = a2 at *; generalize l3 n = a3 at *
      clear E f0 f1 f2 f3 en
      unfold num Word at *
      omega
    obtain ⟨r0, r1, r2, r3⟩ := limbs_of w0 w1 w2 w3 U
    rw [r0, r1, r2, r3]
    rw [← f0, ← f1, ← f2, ← f3]
    exact down_0 hx0 hx1 hx2 hx3 k0 k1 s0 s1 hq rfl w
  · have hk := pow_split 1 s0 (show k = 64 * (1 : Nat) + k % 64 by omega)
    obtain ⟨t0, t1, t2, t3, w0, w1, w2, w3, E, f0, f1, f2, f3⟩ := down_four hx1 hx2 hx3 z s0 s1
    have U : downN n k = num t0 t1 t2 t3 := by
      unfold downN
      rw [hk, show (2 : Int) ^ (64 * 1) = 18446744073709551616 by decide, ← Int.ediv_ediv_of_nonneg (by decide), ← E]
      congr 1
      conv => lhs; rw [← en]
      generalize l0 n = a0 at *; generalize l1 n = a1 at *; generalize l2 n = a2 at *; generalize l3 n = a3 at *
      clear E f0 f1 f2 f3 en
      unfold num Word at *
      omega
    obtain ⟨r0, r1, r2, r3⟩ := limbs_of w0 w1 w2 w3 U
    rw [r0, r1, r2, r3]
    rw [or_none hx3 s0 s1] at f2
    rw [Int.zero_ediv] at f3
    rw [← f0, ← f1, ← f2, ← f3]
    exact down_1 hx0 hx1 hx2 hx3 k0 k1 s0 s1 hq rfl w
  · have hk := pow_split 2 s0 (show k = 64 * (2 : Nat) + k % 64 by omega)
    obtain ⟨t0, t1, t2, t3, w0, w1, w2, w3, E, f0, f1, f2, f3⟩ := down_four hx2 hx3 z z s0 s1
    have U : downN n k = num t0 t1 t2 t3 := by
      unfold downN
      rw [hk, show (2 : Int) ^ (64 * 2) = 340282366920938463463374607431768211456 by decide, ← Int.ediv_ediv_of_nonneg (by decide), ← E]
      congr 1
      conv => lhs; rw [← en]
      generalize l0 n = a0 at *; generalize l1 n = a1 at *; generalize l2 n = a2 at *; generalize l3 n = a3 at *
      clear E f0 f1 f2 f3 en
      unfold num Word at *
      omega
    obtain ⟨r0, r1, r2, r3⟩ := limbs_of w0 w1 w2 w3 U
    rw [r0, r1, r2, r3]
    rw [or_none hx3 s0 s1] at f1
    rw [or_none z s0 s1, Int.zero_ediv] at f2
    rw [Int.zero_ediv] at f3
    rw [← f0, ← f1, ← f2, ← f3]
    exact down_2 hx0 hx1 hx2 hx3 k0 k1 s0 s1 hq rfl w
  · have hk := pow_split 3 s0 (show k = 64 * (3 : Nat) + k % 64 by omega)
    obtain ⟨t0, t1, t2, t3, w0, w1, w2, w3, E, f0, f1, f2, f3⟩ := down_four hx3 z z z s0 s1
    have U : downN n k = num t0 t1 t2 t3 := by
      unfold downN
      rw [hk, show (2 : Int) ^ (64 * 3) = 6277101735386680763835789423207666416102355444464034512896 by decide, ← Int.ediv_ediv_of_nonneg (by decide), ← E]
      congr 1
      conv => lhs; rw [← en]
      generalize l0 n = a0 at *; generalize l1 n = a1 at *; generalize l2 n = a2 at *; generalize l3 n = a3 at *
      clear E f0 f1 f2 f3 en
      unfold num Word at *
      omega
    obtain ⟨r0, r1, r2, r3⟩ := limbs_of w0 w1 w2 w3 U
    rw [r0, r1, r2, r3]
    rw [or_none hx3 s0 s1] at f0
    rw [or_none z s0 s1, Int.zero_ediv] at f1
    rw [or_none z s0 s1, Int.zero_ediv] at f2
    rw [Int.zero_ediv] at f3
    rw [← f0, ← f1, ← f2, ← f3]
    exact down_3 hx0 hx1 hx2 hx3 k0 k1 s0 s1 hq rfl w

end Go.Proofs.YtncpjgpioajbeaaGreatDoor
