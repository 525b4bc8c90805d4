import Derived.Test.YtmhcgjkemlcgoaaDoorRefBit
/- A bit put in below all that are there. -/
namespace Go.Proofs.YtmhcgjkemlcgoaaDoor
open Go.RowKit

theorem pow_room {s : Int} (s0 : 0 ≤ s) (s1 : s ≤ 63) : ∃ R : Int, 2 * (2 : Int) ^ s.toNat * R = 18446744073709551616 ∧ (0 : Int) < 2 ^ s.toNat := by
  obtain ⟨e, p1, p2⟩ := pow_pair s0 s1
  refine ⟨2 ^ (63 - s).toNat, ?_, by omega⟩
  rw [← e, show (64 - s).toNat = (63 - s).toNat + 1 by omega, Int.pow_succ, Int.mul_comm (2 : Int) (2 ^ s.toNat), Int.mul_assoc, Int.mul_comm (2 : Int) (2 ^ (63 - s).toNat)]

theorem mult_low {x u P t R B : Int} (h : x + B * u = 2 * (P * t)) (e : 2 * P * R = B) : x = 2 * P * (t - R * u) := by
  rw [Int.mul_sub, ← Int.mul_assoc (2 * P) R u, e, Int.mul_assoc 2 P t]
  omega

theorem room_over {x k P R B : Int} (h : x = 2 * P * k) (e : 2 * P * R = B) (x1 : x < B) (P0 : 0 < P) : x + P < B := by
  have lt : k < R := by
    by_cases c : k < R
    · exact c
    · have := Int.mul_le_mul_of_nonneg_left (show R ≤ k by omega) (show 0 ≤ 2 * P by omega)
      omega
  have := Int.mul_le_mul_of_nonneg_left (show k + 1 ≤ R by omega) (show 0 ≤ 2 * P by omega)
  rw [Int.mul_add, Int.mul_one] at this
  omega

theorem or_high {x s k : Int} (x0 : 0 ≤ x) (x1 : x < 18446744073709551616) (s0 : 0 ≤ s) (s1 : s ≤ 63) (h : x = 2 * 2 ^ s.toNat * k) : bits .or .u64 x (2 ^ s.toNat) = x + 2 ^ s.toNat := by
  obtain ⟨R, e, p0⟩ := pow_room s0 s1
  have k0 : 0 ≤ k := by
    by_cases c : 0 ≤ k
    · exact c
    · have := Int.mul_le_mul_of_nonneg_left (show k ≤ -1 by omega) (show 0 ≤ 2 * (2 : Int) ^ s.toNat by omega)
      omega
  have ov := room_over h e x1 p0
  obtain ⟨j, rfl⟩ := Int.eq_ofNat_of_zero_le k0
  have c : ((2 : Int) ^ s.toNat) = ((2 ^ s.toNat : Nat) : Int) := by simp
  have hx : x = ((2 ^ (s.toNat + 1) * j : Nat) : Int) := by
    rw [h, c, Nat.pow_succ]
    simp [Int.mul_comm]
  rw [hx] at x1 ov ⊢
  rw [c] at ov ⊢
  have pl : 2 ^ s.toNat < 2 ^ (s.toNat + 1) := Nat.pow_lt_pow_succ (by decide)
  rw [or_sum (s.toNat + 1) j (2 ^ s.toNat) pl (by omega) (by omega), Int.natCast_add]

theorem with_high {n k : Int} (hn : Num n) (k0 : 0 ≤ k) (k1 : k ≤ 255) (hk : n % (2 * 2 ^ k.toNat) = 0) (w : World) :
    Calls Tryd.prog 39 #[.agg #[.int .u64 (l0 n), .int .u64 (l1 n), .int .u64 (l2 n), .int .u64 (l3 n)], .int .i64 k] w fun e w' => e = .returned (.agg #[.int .u64 (l0 (n + 2 ^ k.toNat)), .int .u64 (l1 (n + 2 ^ k.toNat)), .int .u64 (l2 (n + 2 ^ k.toNat)), .int .u64 (l3 (n + 2 ^ k.toNat))]) ∧ Below w.heap.size w w' := by
  have h0 := l0_word n; have h1 := l1_word n; have h2 := l2_word n; have h3 := l3_word n
  have en := num_l hn
  have s0 : 0 ≤ k % 64 := by omega
  have s1 : k % 64 ≤ 63 := by omega
  obtain ⟨R, eR, p0⟩ := pow_room s0 s1
  obtain ⟨t, ht⟩ := Int.dvd_of_emod_eq_zero hk
  clear hk
  generalize l0 n = x0 at *; generalize l1 n = x1 at *; generalize l2 n = x2 at *; generalize l3 n = x3 at *
  rw [← en] at ht ⊢
  clear en hn
  rcases (show k / 64 = 0 ∨ k / 64 = 1 ∨ k / 64 = 2 ∨ k / 64 = 3 by omega) with hq | hq | hq | hq
  · have hk2 := pow_split 0 s0 (show k = 64 * (0 : Nat) + k % 64 by omega)
    rw [hk2, show (2 : Int) ^ (64 * 0) = 1 by decide] at ht ⊢
    generalize hP : (2 : Int) ^ (k % 64).toNat = P at *
    rw [show 2 * (1 * P) * t = 1 * (2 * (P * t)) by rw [Int.mul_left_comm, Int.mul_assoc, Int.mul_assoc]] at ht
    generalize hPt : P * t = Pt at ht
    have hx : x0 = 2 * P * (t - R * (x1 + 18446744073709551616 * x2 + 340282366920938463463374607431768211456 * x3)) := mult_low (B := 18446744073709551616) (by rw [hPt]; unfold num Word at *; omega) eR
    have wq : Word (x0 + P) := ⟨by have := h0.1; omega, room_over hx eR h0.2 p0⟩
    have o := or_high (s := k % 64) h0.1 h0.2 s0 s1 (by rw [hP]; exact hx)
    rw [hP] at o
    obtain ⟨r0, r1, r2, r3⟩ := limbs_of (n := num x0 x1 x2 x3 + 1 * P) wq h1 h2 h3 (show _ = num (x0 + P) x1 x2 x3 by unfold num; omega)
    rw [r0, r1, r2, r3, ← o, ← hP]
    exact with_0 k0 k1 s0 s1 hq rfl w
  · have hk2 := pow_split 1 s0 (show k = 64 * (1 : Nat) + k % 64 by omega)
    rw [hk2, show (2 : Int) ^ (64 * 1) = 18446744073709551616 by decide] at ht ⊢
    generalize hP : (2 : Int) ^ (k % 64).toNat = P at *
    rw [show 2 * (18446744073709551616 * P) * t = 18446744073709551616 * (2 * (P * t)) by rw [Int.mul_left_comm, Int.mul_assoc, Int.mul_assoc]] at ht
    generalize hPt : P * t = Pt at ht
    obtain ⟨rfl⟩ : x0 = 0 := by unfold num Word at *; omega
    have hx : x1 = 2 * P * (t - R * (x2 + 18446744073709551616 * x3)) := mult_low (B := 18446744073709551616) (by rw [hPt]; unfold num Word at *; omega) eR
    have wq : Word (x1 + P) := ⟨by have := h1.1; omega, room_over hx eR h1.2 p0⟩
    have o := or_high (s := k % 64) h1.1 h1.2 s0 s1 (by rw [hP]; exact hx)
    rw [hP] at o
    obtain ⟨r0, r1, r2, r3⟩ := limbs_of (n := num 0 x1 x2 x3 + 18446744073709551616 * P) ⟨by decide, by decide⟩ wq h2 h3 (show _ = num 0 (x1 + P) x2 x3 by unfold num; omega)
    rw [r0, r1, r2, r3, ← o, ← hP]
    exact with_1 k0 k1 s0 s1 hq rfl w
  · have hk2 := pow_split 2 s0 (show k = 64 * (2 : Nat) + k % 64 by omega)
    rw [hk2, show (2 : Int) ^ (64 * 2) = 340282366920938463463374607431768211456 by decide] at ht ⊢
    generalize hP : (2 : Int) ^ (k % 64).toNat = P at *
    rw [show 2 * (340282366920938463463374607431768211456 * P) * t = 340282366920938463463374607431768211456 * (2 * (P * t)) by rw [Int.mul_left_comm, Int.mul_assoc, Int.mul_assoc]] at ht
    generalize hPt : P * t = Pt at ht
    obtain ⟨rfl, rfl⟩ : x0 = 0 ∧ x1 = 0 := by unfold num Word at *; omega
    have hx : x2 = 2 * P * (t - R * x3) := mult_low (B := 18446744073709551616) (by rw [hPt]; unfold num Word at *; omega) eR
    have wq : Word (x2 + P) := ⟨by have := h2.1; omega, room_over hx eR h2.2 p0⟩
    have o := or_high (s := k % 64) h2.1 h2.2 s0 s1 (by rw [hP]; exact hx)
    rw [hP] at o
    obtain ⟨r0, r1, r2, r3⟩ := limbs_of (n := num 0 0 x2 x3 + 340282366920938463463374607431768211456 * P) ⟨by decide, by decide⟩ ⟨by decide, by decide⟩ wq h3 (show _ = num 0 0 (x2 + P) x3 by unfold num; omega)
    rw [r0, r1, r2, r3, ← o, ← hP]
    exact with_2 k0 k1 s0 s1 hq rfl w
  · have hk2 := pow_split 3 s0 (show k = 64 * (3 : Nat) + k % 64 by omega)
    rw [hk2, show (2 : Int) ^ (64 * 3) = 6277101735386680763835789423207666416102355444464034512896 by decide] at ht ⊢
    generalize hP : (2 : Int) ^ (k % 64).toNat = P at *
    rw [show 2 * (6277101735386680763835789423207666416102355444464034512896 * P) * t = 6277101735386680763835789423207666416102355444464034512896 * (2 * (P * t)) by rw [Int.mul_left_comm, Int.mul_assoc, Int.mul_assoc]] at ht
    generalize hPt : P * t = Pt at ht
    obtain ⟨rfl, rfl, rfl⟩ : x0 = 0 ∧ x1 = 0 ∧ x2 = 0 := by unfold num Word at *; omega
    have hx : x3 = 2 * P * (t - R * 0) := mult_low (B := 18446744073709551616) (by rw [hPt]; unfold num Word at *; omega) eR
    have wq : Word (x3 + P) := ⟨by have := h3.1; omega, room_over hx eR h3.2 p0⟩
    have o := or_high (s := k % 64) h3.1 h3.2 s0 s1 (by rw [hP]; exact hx)
    rw [hP] at o
    obtain ⟨r0, r1, r2, r3⟩ := limbs_of (n := num 0 0 0 x3 + 6277101735386680763835789423207666416102355444464034512896 * P) ⟨by decide, by decide⟩ ⟨by decide, by decide⟩ ⟨by decide, by decide⟩ wq (show _ = num 0 0 0 (x3 + P) by unfold num; omega)
    rw [r0, r1, r2, r3, ← o, ← hP]
    exact with_3 k0 k1 s0 s1 hq rfl w

end Go.Proofs.YtmhcgjkemlcgoaaDoor
