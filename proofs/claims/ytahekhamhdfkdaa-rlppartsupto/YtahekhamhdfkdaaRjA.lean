import Derived.Test.YtahekhamhdfkdaaUbA
import Derived.Test.YtahekhamhdfkdaaShelf
import Derived.Deep.OwnRows
import Derived.Laws.CopyOwn
/- Layer 7: the head of a list, as both write it. -/
namespace Go.Proofs.Ytahekhamhdfkdaa
open Go.RowKit Go.Sort

/-- A number's bytes, the highest first (of numbers below 2^24). -/
def beN (n : Nat) : List Int := if n < 256 then [(n : Int)] else if n < 65536 then [(n : Int) / 256, (n : Int) % 256] else [(n : Int) / 65536, (n : Int) / 256 % 256, (n : Int) % 256]
/-- A head. -/
def hdR (f : Int) (n : Nat) : List Int := if n ≤ 55 then [f + n] else (f + 55 + (beN n).length) :: beN n
theorem beN_len (n : Nat) : 1 ≤ (beN n).length ∧ (beN n).length ≤ 3 := by
  unfold beN
  split
  · exact ⟨Nat.le_refl 1, by show 1 ≤ 3; decide⟩
  · split
    · exact ⟨by show 1 ≤ 2; decide, by show 2 ≤ 3; decide⟩
    · exact ⟨by show 1 ≤ 3; decide, Nat.le_refl 3⟩
theorem hdR_len (f : Int) (n : Nat) : (hdR f n).length ≤ 4 := by
  unfold hdR
  have := beN_len n
  split
  · exact (by decide : 1 ≤ 4)
  · rw [List.length_cons]; omega
theorem bl_le {n k : Nat} (h : n < 2 ^ k) (hk : k ≤ 64) : Lib.bitLen n ≤ k := Lib.bitLen_le n k hk h
theorem bl_ge {n k : Nat} (h : 2 ^ k ≤ n) (hn : n < 2 ^ 64) : k < Lib.bitLen n := by
  have h0 : n ≠ 0 := by have := Nat.one_le_two_pow (n := k); omega
  have := (Lib.bitLenAux_bounds 64 n hn h0).2.2
  have e : n < 2 ^ Lib.bitLen n := this
  exact (Nat.pow_lt_pow_iff_right (by decide : 1 < 2)).1 (Nat.lt_of_le_of_lt h e)
theorem lsize {n : Nat} (h0 : 0 < n) (h1 : n < 16777216) : (Lib.bitLen n + 7) / 8 = (beN n).length := by
  unfold beN
  have a0 := bl_ge (k := 0) (n := n) (by rw [Nat.pow_zero]; exact h0) (by omega)
  by_cases k1 : n < 256
  · rw [if_pos k1]
    have a1 := bl_le (k := 8) (n := n) (by simpa using k1) (by decide)
    show _ = 1
    omega
  · rw [if_neg k1]
    have a1 := bl_ge (k := 8) (n := n) (by simp; omega) (by omega)
    by_cases k2 : n < 65536
    · rw [if_pos k2]
      have a2 := bl_le (k := 16) (n := n) (by simpa using k2) (by decide)
      show _ = 2
      omega
    · rw [if_neg k2]
      have a2 := bl_ge (k := 16) (n := n) (by simp; omega) (by omega)
      have a3 := bl_le (k := 24) (n := n) (by simpa using h1) (by decide)
      show _ = 3
      omega
theorem lengthSize_any {n : Nat} (h0 : 0 < n) (h1 : n < 16777216) (w : World) :
    Calls Try.prog 56 #[.int .i64 (n : Int)] w fun e w' => e = .returned (.int .i64 ((beN n).length : Int)) ∧ w' = w := by
  have c := Try.bits_Len (n : Int)
  have e := lsize h0 h1
  have hb := bl_le (k := 24) (n := n) (by simpa using h1) (by decide)
  have e2 : ((Lib.bitLen n : Int) + 7).tdiv 8 = ((beN n).length : Int) := by
    rw [Int.tdiv_eq_ediv_of_nonneg (by omega)]; omega
  have e3 : ((Lib.bitLen n : Int) + 7) / 8 = ((beN n).length : Int) := by omega
  have c2 : ∀ w, Calls Try.prog 62 #[.int .u64 (n : Int)] w fun e w' => e = .returned (.int .i64 (Lib.bitLen n : Int)) ∧ w' = w := fun w => by
    have := c w (by omega) (by omega)
    rwa [Int.toNat_natCast] at this
  have hn1 : (n : Int) < 16777216 := by omega
  have hb' : (Lib.bitLen n : Int) ≤ 24 := by omega
  clear e c hb
  generalize Lib.bitLen n = bl at *
  generalize (beN n).length = r at *
  go_enter Try.func56, Try.ntmps56
  go_wp2_with ((with_reducible refine (c2 _).mono ?_); rintro e1 w1 ⟨rfl, hw⟩; (rw [hw]); (clear hw w1))
  simp [bodyPost, results, Try.results56, go_sem]
  all_goals first | exact e3 | exact e2 | omega
theorem headSize_any {n : Nat} (h1 : n < 16777216) (w : World) :
    Calls Try.prog 40 #[.int .i64 (n : Int)] w fun e w' => e = .returned (.int .i64 ((hdR 192 n).length : Int)) ∧ w' = w := by
  by_cases k : n ≤ 55
  · have hk : (n : Int) ≤ 55 := by omega
    have e : (hdR 192 n).length = 1 := by unfold hdR; rw [if_pos k]; rfl
    rw [e]
    go_enter Try.func40, Try.ntmps40
    go_wp2
    simp [bodyPost, results, Try.results40, go_sem]
  · have hk : ¬ ((n : Int) ≤ 55) := by omega
    have c := lengthSize_any (n := n) (by omega) h1
    have e : (hdR 192 n).length = (beN n).length + 1 := by unfold hdR; rw [if_neg k]; rfl
    have hl := (beN_len n).2
    have hl' : ((beN n).length : Int) ≤ 3 := by omega
    rw [e]
    generalize (beN n).length = r at *
    clear e hl
    go_enter Try.func40, Try.ntmps40
    go_wp2_with ((with_reducible refine (c _).mono ?_); rintro e1 w1 ⟨rfl, hw⟩; (rw [hw]); (clear hw w1))
    simp [bodyPost, results, Try.results40, go_sem]
    omega
end Go.Proofs.Ytahekhamhdfkdaa
