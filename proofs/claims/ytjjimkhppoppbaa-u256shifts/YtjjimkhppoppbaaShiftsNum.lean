import Derived.Test.YtjjimkhppoppbaaRootNum
import Derived.Test.YtjjimkhppoppbaaRefShl
/- What the law of shifts says, in numbers. -/
namespace Go.Proofs.Ytjjimkhppoppbaa

theorem shl_shr {x n : Int} (hx : Num x) (h0 : -9223372036854775808 ≤ n) (h1 : n ≤ 9223372036854775807) : shlN x n = shrN x (IntKind.i64.wrap (-n)) := by
  by_cases c : n = -9223372036854775808
  · subst c
    unfold shlN shrN
    rw [if_pos (by decide), if_pos (by decide)]
  · rw [IntWalk.i64_in (-n) ⟨by omega, by omega⟩]
    by_cases f : n ≤ -256 ∨ 256 ≤ n
    · unfold shlN shrN
      rw [if_pos f, if_pos (by omega)]
    · have := shr_shl (n := x) (k := -n) hx (by omega) (by omega)
      rw [Int.neg_neg] at this
      exact this

theorem pow_255 {k : Nat} (h : k ≤ 255) : (0 : Int) < 2 ^ k ∧ (2 : Int) ^ k < 115792089237316195423570985008687907853269984665640564039457584007913129639936 := by
  refine ⟨Int.pow_pos (by decide), ?_⟩
  have h1 := pow_mono h
  have h2 : (2 : Int) ^ 255 < 115792089237316195423570985008687907853269984665640564039457584007913129639936 := by decide
  omega

theorem shifts_num {x n : Int} (hx : Num x) (h0 : 0 ≤ n) (h1 : n ≤ 255) : expN 2 n = 2 ^ n.toNat ∧ Num (2 ^ n.toNat) ∧ (2 : Int) ^ n.toNat ≠ 0 ∧ loN x (2 ^ n.toNat) = shlN x n ∧ shrN x n = x / 2 ^ n.toNat ∧ bitN x n = x / 2 ^ n.toNat % 2 ∧ Num (x / 2 ^ n.toNat) := by
  obtain ⟨p0, p1⟩ := pow_255 (show n.toNat ≤ 255 by omega)
  refine ⟨?_, ⟨by omega, p1⟩, by omega, ?_, ?_, ?_, ?_⟩
  · unfold expN
    exact Int.emod_eq_of_lt (by omega) p1
  · unfold loN shlN upN
    rw [if_neg (by omega), if_neg (by omega)]
  · unfold shrN downN
    rw [if_neg (by omega), if_neg (by omega)]
  · unfold bitN
    rw [if_neg (by omega)]
  · exact ⟨Int.ediv_nonneg hx.1 (by omega), Int.lt_of_le_of_lt (Int.ediv_le_self _ hx.1) hx.2⟩

theorem log_between {x : Int} (x0 : 0 < x) : (2 : Int) ^ (Nat.log2 x.toNat) ≤ x ∧ x < (2 : Int) ^ (Nat.log2 x.toNat + 1) := by
  have a := Nat.log2_self_le (n := x.toNat) (by omega)
  have b := Nat.lt_log2_self (n := x.toNat)
  generalize Nat.log2 x.toNat = j at *
  have a' : ((2 ^ j : Nat) : Int) ≤ (x.toNat : Int) := Int.ofNat_le.2 a
  have b' : (x.toNat : Int) < ((2 ^ (j + 1) : Nat) : Int) := Int.ofNat_lt.2 b
  rw [Int.toNat_of_nonneg (by omega)] at a' b'
  rw [Int.natCast_pow] at a' b'
  exact ⟨a', b'⟩

theorem len_facts {x : Int} (hx : Num x) (hz : x ≠ 0) : ∃ k : Int, lenN x = k ∧ 1 ≤ k ∧ k ≤ 256 ∧ bitN x (k - 1) = 1 ∧ shrN x (k - 1) = 1 := by
  obtain ⟨x0, x1⟩ := hx
  obtain ⟨a, b⟩ := log_between (show 0 < x by omega)
  have el : lenN x = (Nat.log2 x.toNat : Int) + 1 := by unfold lenN; rw [if_neg hz]
  rw [el]
  clear el
  generalize Nat.log2 x.toNat = j at *
  have c : j ≤ 255 := by
    by_cases c : j ≤ 255
    · exact c
    · have := pow_mono (show 256 ≤ j by omega)
      have e : (2 : Int) ^ 256 = 115792089237316195423570985008687907853269984665640564039457584007913129639936 := by decide
      omega
  have e : x / 2 ^ j = 1 := by
    have p0 : (0 : Int) < 2 ^ j := Int.pow_pos (by decide)
    rw [Int.pow_succ] at b
    refine Int.le_antisymm ?_ ?_
    · exact Int.le_of_lt_add_one ((Int.ediv_lt_iff_lt_mul p0).2 (by omega))
    · exact (Int.le_ediv_iff_mul_le p0).2 (by omega)
  refine ⟨_, rfl, by omega, by omega, ?_⟩
  rw [show (j : Int) + 1 - 1 = j by omega]
  unfold bitN shrN downN
  rw [if_neg (by omega), if_neg (by omega), if_neg (by omega)]
  simp only [Int.toNat_natCast, e]
  exact ⟨by decide, trivial⟩

end Go.Proofs.Ytjjimkhppoppbaa
