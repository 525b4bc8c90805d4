import Derived.Test.YtaefmdofchjofaaShl
import Derived.Test.YtaefmdofchjofaaShelf
import Derived.Lib.ItoaNum
namespace Go.Proofs.Ytaefmdofchjofaa
open Go.RowKit

/-- How many bits a number has. -/
def lenN (n : Int) : Int := if n = 0 then 0 else (Nat.log2 n.toNat : Int) + 1

theorem lenN_eq {n : Int} {k : Nat} (h0 : (2 : Int) ^ k ≤ n) (h1 : n < (2 : Int) ^ (k + 1)) : lenN n = (k : Int) + 1 := by
  have p : (0 : Int) < 2 ^ k := Int.pow_pos (by decide)
  obtain ⟨m, rfl⟩ := Int.eq_ofNat_of_zero_le (show 0 ≤ n by omega)
  have hm : m ≠ 0 := by omega
  unfold lenN
  rw [if_neg (by omega), Int.toNat_natCast]
  have c0 : 2 ^ k ≤ m := by exact_mod_cast h0
  have c1 : m < 2 ^ (k + 1) := by exact_mod_cast h1
  have a : k ≤ Nat.log2 m := (Nat.le_log2 hm).2 c0
  have b : Nat.log2 m < k + 1 := (Nat.log2_lt hm).2 c1
  omega

theorem len_limb {x : Int} (h : Word x) (hx : x ≠ 0) : ∃ b : Nat, (Lib.bitLen x.toNat : Int) = (b : Int) + 1 ∧ b ≤ 63 ∧ (2 : Int) ^ b ≤ x ∧ x < (2 : Int) ^ (b + 1) := by
  obtain ⟨h0, h1⟩ := h
  obtain ⟨m, rfl⟩ := Int.eq_ofNat_of_zero_le h0
  rw [Int.toNat_natCast]
  obtain ⟨a, b, c⟩ := Lib.bitLenAux_bounds 64 m (by omega) (by omega)
  have d := Lib.bitLen_le m 64 (by omega) (by omega)
  unfold Lib.bitLen at *
  obtain ⟨k, hk⟩ : ∃ k, Lib.bitLenAux 64 m = k + 1 := ⟨Lib.bitLenAux 64 m - 1, by omega⟩
  rw [hk] at a b c d ⊢
  refine ⟨k, by omega, by omega, ?_, ?_⟩
  · exact_mod_cast b
  · exact_mod_cast c

set_option maxHeartbeats 1000000 in
theorem len_3 {x0 x1 x2 x3 : Int} (hx3 : Word x3) (hz : x3 ≠ 0) (w : World) :
    Calls Try.prog 54 #[.agg #[.int .u64 x0, .int .u64 x1, .int .u64 x2, .int .u64 x3]] w fun e w' => e = .returned (.int .i64 (192 + (Lib.bitLen x3.toNat : Int))) ∧ Below w.heap.size w w' := by
  have hb := Lib.bitLen_le x3.toNat 64 (by omega) (by obtain ⟨_, _⟩ := hx3; omega)
  have c := Try.bits_Len64 x3
  obtain ⟨h0, h1⟩ := hx3
  have c := fun w => c w h0 (by omega)
  have C : Hid (∀ w, Calls Try.prog 73 #[.int .u64 x3] w fun e w' => e = .returned (.int .i64 (Lib.bitLen x3.toNat)) ∧ w' = w) := c
  clear c
  generalize Lib.bitLen x3.toNat = b at *
  subst_vars
  have hz' : (x3 == 0) = false := by simpa using hz
  go_enter Try.func54, Try.ntmps54
  go_wp2
  refine wp_loop_rounds 5 ?_
  rw [rounds_succ]
  go_wp2_with (go_at_call 73; refine (C.out _).mono ?_; rintro e w' ⟨rfl, rfl⟩)
  go_ret
  exact ⟨rfl, (Below.refl _ _).alloc (Nat.le_refl _) _⟩

set_option maxHeartbeats 1000000 in
theorem len_2 {x0 x1 x2 x3 : Int} (hx2 : Word x2) (hz : x2 ≠ 0) (z3 : x3 = 0) (w : World) :
    Calls Try.prog 54 #[.agg #[.int .u64 x0, .int .u64 x1, .int .u64 x2, .int .u64 x3]] w fun e w' => e = .returned (.int .i64 (128 + (Lib.bitLen x2.toNat : Int))) ∧ Below w.heap.size w w' := by
  have hb := Lib.bitLen_le x2.toNat 64 (by omega) (by obtain ⟨_, _⟩ := hx2; omega)
  have c := Try.bits_Len64 x2
  obtain ⟨h0, h1⟩ := hx2
  have c := fun w => c w h0 (by omega)
  have C : Hid (∀ w, Calls Try.prog 73 #[.int .u64 x2] w fun e w' => e = .returned (.int .i64 (Lib.bitLen x2.toNat)) ∧ w' = w) := c
  clear c
  generalize Lib.bitLen x2.toNat = b at *
  subst_vars
  have hz' : (x2 == 0) = false := by simpa using hz
  go_enter Try.func54, Try.ntmps54
  go_wp2
  refine wp_loop_rounds 5 ?_
  rw [rounds_succ]; go_wp2
  rw [rounds_succ]
  go_wp2_with (go_at_call 73; refine (C.out _).mono ?_; rintro e w' ⟨rfl, rfl⟩)
  go_ret
  exact ⟨rfl, (Below.refl _ _).alloc (Nat.le_refl _) _⟩

set_option maxHeartbeats 1000000 in
theorem len_1 {x0 x1 x2 x3 : Int} (hx1 : Word x1) (hz : x1 ≠ 0) (z2 : x2 = 0) (z3 : x3 = 0) (w : World) :
    Calls Try.prog 54 #[.agg #[.int .u64 x0, .int .u64 x1, .int .u64 x2, .int .u64 x3]] w fun e w' => e = .returned (.int .i64 (64 + (Lib.bitLen x1.toNat : Int))) ∧ Below w.heap.size w w' := by
  have hb := Lib.bitLen_le x1.toNat 64 (by omega) (by obtain ⟨_, _⟩ := hx1; omega)
  have c := Try.bits_Len64 x1
  obtain ⟨h0, h1⟩ := hx1
  have c := fun w => c w h0 (by omega)
  have C : Hid (∀ w, Calls Try.prog 73 #[.int .u64 x1] w fun e w' => e = .returned (.int .i64 (Lib.bitLen x1.toNat)) ∧ w' = w) := c
  clear c
  generalize Lib.bitLen x1.toNat = b at *
  subst_vars
  have hz' : (x1 == 0) = false := by simpa using hz
  go_enter Try.func54, Try.ntmps54
  go_wp2
  refine wp_loop_rounds 5 ?_
  rw [rounds_succ]; go_wp2
  rw [rounds_succ]; go_wp2
  rw [rounds_succ]
  go_wp2_with (go_at_call 73; refine (C.out _).mono ?_; rintro e w' ⟨rfl, rfl⟩)
  go_ret
  exact ⟨rfl, (Below.refl _ _).alloc (Nat.le_refl _) _⟩

set_option maxHeartbeats 1000000 in
theorem len_0 {x0 x1 x2 x3 : Int} (hx0 : Word x0) (hz : x0 ≠ 0) (z1 : x1 = 0) (z2 : x2 = 0) (z3 : x3 = 0) (w : World) :
    Calls Try.prog 54 #[.agg #[.int .u64 x0, .int .u64 x1, .int .u64 x2, .int .u64 x3]] w fun e w' => e = .returned (.int .i64 (Lib.bitLen x0.toNat : Int)) ∧ Below w.heap.size w w' := by
  have hb := Lib.bitLen_le x0.toNat 64 (by omega) (by obtain ⟨_, _⟩ := hx0; omega)
  have c := Try.bits_Len64 x0
  obtain ⟨h0, h1⟩ := hx0
  have c := fun w => c w h0 (by omega)
  have C : Hid (∀ w, Calls Try.prog 73 #[.int .u64 x0] w fun e w' => e = .returned (.int .i64 (Lib.bitLen x0.toNat)) ∧ w' = w) := c
  clear c
  generalize Lib.bitLen x0.toNat = b at *
  subst_vars
  have hz' : (x0 == 0) = false := by simpa using hz
  go_enter Try.func54, Try.ntmps54
  go_wp2
  refine wp_loop_rounds 5 ?_
  rw [rounds_succ]; go_wp2
  rw [rounds_succ]; go_wp2
  rw [rounds_succ]; go_wp2
  rw [rounds_succ]
  go_wp2_with (go_at_call 73; refine (C.out _).mono ?_; rintro e w' ⟨rfl, rfl⟩)
  go_ret
  exact ⟨rfl, (Below.refl _ _).alloc (Nat.le_refl _) _⟩

set_option maxHeartbeats 1000000 in
theorem len_none (w : World) :
    Calls Try.prog 54 #[.agg #[.int .u64 0, .int .u64 0, .int .u64 0, .int .u64 0]] w fun e w' => e = .returned (.int .i64 0) ∧ Below w.heap.size w w' := by
  go_enter Try.func54, Try.ntmps54
  go_wp2
  refine wp_loop_rounds 5 ?_
  rw [rounds_succ]; go_wp2
  rw [rounds_succ]; go_wp2
  rw [rounds_succ]; go_wp2
  rw [rounds_succ]; go_wp2
  rw [rounds_succ]; go_wp2
  go_ret
  exact ⟨rfl, (Below.refl _ _).alloc (Nat.le_refl _) _⟩

theorem len_num_0 {x0 : Int} {b : Nat}  (l : (2 : Int) ^ b ≤ x0) (u : x0 < (2 : Int) ^ (b + 1)) : lenN (num x0 0 0 0) = 0 + ((b : Int) + 1) := by
  have r := lenN_eq (n := num x0 0 0 0) (k := 0 + b) (by rw [Int.pow_add, show (2 : Int) ^ 0 = 1 by decide]; unfold num; omega)
    (by rw [Nat.add_assoc, Int.pow_add, show (2 : Int) ^ 0 = 1 by decide]; unfold num; omega)
  rw [r]; omega
theorem len_num_1 {x0 x1 : Int} {b : Nat} (h0 : Word x0) (l : (2 : Int) ^ b ≤ x1) (u : x1 < (2 : Int) ^ (b + 1)) : lenN (num x0 x1 0 0) = 64 + ((b : Int) + 1) := by
  have r := lenN_eq (n := num x0 x1 0 0) (k := 64 + b) (by rw [Int.pow_add, show (2 : Int) ^ 64 = 18446744073709551616 by decide]; unfold num Word at *; omega)
    (by rw [Nat.add_assoc, Int.pow_add, show (2 : Int) ^ 64 = 18446744073709551616 by decide]; unfold num Word at *; omega)
  rw [r]; omega
theorem len_num_2 {x0 x1 x2 : Int} {b : Nat} (h0 : Word x0) (h1 : Word x1) (l : (2 : Int) ^ b ≤ x2) (u : x2 < (2 : Int) ^ (b + 1)) : lenN (num x0 x1 x2 0) = 128 + ((b : Int) + 1) := by
  have r := lenN_eq (n := num x0 x1 x2 0) (k := 128 + b) (by rw [Int.pow_add, show (2 : Int) ^ 128 = 340282366920938463463374607431768211456 by decide]; unfold num Word at *; omega)
    (by rw [Nat.add_assoc, Int.pow_add, show (2 : Int) ^ 128 = 340282366920938463463374607431768211456 by decide]; unfold num Word at *; omega)
  rw [r]; omega
theorem len_num_3 {x0 x1 x2 x3 : Int} {b : Nat} (h0 : Word x0) (h1 : Word x1) (h2 : Word x2) (l : (2 : Int) ^ b ≤ x3) (u : x3 < (2 : Int) ^ (b + 1)) : lenN (num x0 x1 x2 x3) = 192 + ((b : Int) + 1) := by
  have r := lenN_eq (n := num x0 x1 x2 x3) (k := 192 + b) (by rw [Int.pow_add, show (2 : Int) ^ 192 = 6277101735386680763835789423207666416102355444464034512896 by decide]; unfold num Word at *; omega)
    (by rw [Nat.add_assoc, Int.pow_add, show (2 : Int) ^ 192 = 6277101735386680763835789423207666416102355444464034512896 by decide]; unfold num Word at *; omega)
  rw [r]; omega

theorem len_any {n : Int} (hn : Num n) (w : World) :
    Calls Try.prog 54 #[.agg #[.int .u64 (l0 n), .int .u64 (l1 n), .int .u64 (l2 n), .int .u64 (l3 n)]] w fun e w' => e = .returned (.int .i64 (lenN n)) ∧ Below w.heap.size w w' := by
  have h0 := l0_word n; have h1 := l1_word n; have h2 := l2_word n; have h3 := l3_word n
  have en := num_l hn
  generalize l0 n = x0 at *; generalize l1 n = x1 at *; generalize l2 n = x2 at *; generalize l3 n = x3 at *
  subst en
  by_cases z3 : x3 = 0
  · subst z3
    by_cases z2 : x2 = 0
    · subst z2
      by_cases z1 : x1 = 0
      · subst z1
        by_cases z0 : x0 = 0
        · subst z0
          exact len_none w
        · obtain ⟨b, e, _, l, u⟩ := len_limb h0 z0
          have r := len_0 (x1 := 0) (x2 := 0) (x3 := 0) h0 z0 rfl rfl rfl w
          rw [e] at r
          rw [len_num_0 l u, show (0 : Int) + ((b : Int) + 1) = (b : Int) + 1 by omega]
          exact r
      · obtain ⟨b, e, _, l, u⟩ := len_limb h1 z1
        have r := len_1 (x0 := x0) (x2 := 0) (x3 := 0) h1 z1 rfl rfl w
        rw [e] at r
        rw [len_num_1 h0 l u]
        exact r
    · obtain ⟨b, e, _, l, u⟩ := len_limb h2 z2
      have r := len_2 (x0 := x0) (x1 := x1) (x3 := 0) h2 z2 rfl w
      rw [e] at r
      rw [len_num_2 h0 h1 l u]
      exact r
  · obtain ⟨b, e, _, l, u⟩ := len_limb h3 z3
    have r := len_3 (x0 := x0) (x1 := x1) (x2 := x2) h3 z3 w
    rw [e] at r
    rw [len_num_3 h0 h1 h2 l u]
    exact r

end Go.Proofs.Ytaefmdofchjofaa
