import Derived.Test.YtdjjphcfobbipaaSets
import Derived.Test.YtdjjphcfobbipaaLeaf
import Derived.LoopN
import Derived.BigRegion
import Derived.Test.YtdjjphcfobbipaaDiv64
import Derived.Test.YtdjjphcfobbipaaMulNum
namespace Go.Proofs.Ytdjjphcfobbipaa
open Go.RowKit

theorem digit_first_1 {u0 u1 d0 : Int} (hu0 : Word u0) (hu1 : Word u1) (hd0 : Word d0) (hn : 9223372036854775808 ≤ d0) (hU : val [u0, u1] < 18446744073709551616 * val [d0]) :
    Digit (val [u0, u1]) (val [d0]) 340282366920938463463374607431768211456 2 (takeL [u0, u1] [d0] (guessN u1 u0 d0) 0 0).1 (guessN u1 u0 d0) (takeL [u0, u1] [d0] (guessN u1 u0 d0) 0 0).2 := by
  have hg := guessN_word hu1 hu0 (show 0 < d0 by omega)
  have WU : Words [u0, u1] := by intro x hx; simp at hx; rcases hx with rfl | rfl <;> assumption
  have WD : Words [d0] := by intro x hx; simp at hx; rcases hx with rfl <;> assumption
  obtain ⟨r1, r2, r3, r4⟩ := takeL_spec hg [d0] [u0, u1] 0 0 rfl WU WD ⟨by decide, by decide⟩ (by decide)
  rw [show [u0, u1].length = 2 from rfl, show (18446744073709551616 : Int) ^ 2 = 340282366920938463463374607431768211456 by decide] at r4
  have hD : 0 < val [d0] := by
    unfold Word at *
    simp only [val] at *
    omega
  have hQ : 0 ≤ val [u0, u1] / val [d0] := Int.ediv_nonneg (val_nonneg WU).1 (by omega)
  have hm := Int.ediv_mul_le (val [u0, u1]) (show val [d0] ≠ 0 by omega)
  have ge : val [u0, u1] / val [d0] ≤ guessN u1 u0 d0 := by
    unfold guessN
    split
    · have : val [u0, u1] / val [d0] < 18446744073709551616 := Int.ediv_lt_of_lt_mul hD hU
      omega
    · refine guess_ge (B := 1) (ul := 0) (dl := 0) (by decide) (by omega) ?_ ?_ hQ ?_ ?_ hm
      · unfold Word at *; first | omega | (simp only [val]; omega)
      · unfold Word at *; first | omega | (simp only [val]; omega)
      · simp only [val]; omega
      · simp only [val]; omega
  refine ⟨r1, r2, r3.1, r3.2, hg, by omega, ?_⟩
  have hlt := Int.lt_ediv_add_one_mul_self (val [u0, u1]) hD
  have : (val [u0, u1] / val [d0] + 1) * val [d0] ≤ (guessN u1 u0 d0 + 1) * val [d0] := Int.mul_le_mul_of_nonneg_right (by omega) (by omega)
  omega

theorem digit_first_2 {u0 u1 u2 d0 d1 : Int} (hu0 : Word u0) (hu1 : Word u1) (hu2 : Word u2) (hd0 : Word d0) (hd1 : Word d1) (hn : 9223372036854775808 ≤ d1) (hU : val [u0, u1, u2] < 18446744073709551616 * val [d0, d1]) :
    Digit (val [u0, u1, u2]) (val [d0, d1]) 6277101735386680763835789423207666416102355444464034512896 3 (takeL [u0, u1, u2] [d0, d1] (guessN u2 u1 d1) 0 0).1 (guessN u2 u1 d1) (takeL [u0, u1, u2] [d0, d1] (guessN u2 u1 d1) 0 0).2 := by
  have hg := guessN_word hu2 hu1 (show 0 < d1 by omega)
  have WU : Words [u0, u1, u2] := by intro x hx; simp at hx; rcases hx with rfl | rfl | rfl <;> assumption
  have WD : Words [d0, d1] := by intro x hx; simp at hx; rcases hx with rfl | rfl <;> assumption
  obtain ⟨r1, r2, r3, r4⟩ := takeL_spec hg [d0, d1] [u0, u1, u2] 0 0 rfl WU WD ⟨by decide, by decide⟩ (by decide)
  rw [show [u0, u1, u2].length = 3 from rfl, show (18446744073709551616 : Int) ^ 3 = 6277101735386680763835789423207666416102355444464034512896 by decide] at r4
  have hD : 0 < val [d0, d1] := by
    unfold Word at *
    simp only [val] at *
    omega
  have hQ : 0 ≤ val [u0, u1, u2] / val [d0, d1] := Int.ediv_nonneg (val_nonneg WU).1 (by omega)
  have hm := Int.ediv_mul_le (val [u0, u1, u2]) (show val [d0, d1] ≠ 0 by omega)
  have ge : val [u0, u1, u2] / val [d0, d1] ≤ guessN u2 u1 d1 := by
    unfold guessN
    split
    · have : val [u0, u1, u2] / val [d0, d1] < 18446744073709551616 := Int.ediv_lt_of_lt_mul hD hU
      omega
    · refine guess_ge (B := 18446744073709551616) (ul := val [u0]) (dl := val [d0]) (by decide) (by omega) ?_ ?_ hQ ?_ ?_ hm
      · unfold Word at *; first | omega | (simp only [val]; omega)
      · unfold Word at *; first | omega | (simp only [val]; omega)
      · simp only [val]; omega
      · simp only [val]; omega
  refine ⟨r1, r2, r3.1, r3.2, hg, by omega, ?_⟩
  have hlt := Int.lt_ediv_add_one_mul_self (val [u0, u1, u2]) hD
  have : (val [u0, u1, u2] / val [d0, d1] + 1) * val [d0, d1] ≤ (guessN u2 u1 d1 + 1) * val [d0, d1] := Int.mul_le_mul_of_nonneg_right (by omega) (by omega)
  omega

theorem digit_first_3 {u0 u1 u2 u3 d0 d1 d2 : Int} (hu0 : Word u0) (hu1 : Word u1) (hu2 : Word u2) (hu3 : Word u3) (hd0 : Word d0) (hd1 : Word d1) (hd2 : Word d2) (hn : 9223372036854775808 ≤ d2) (hU : val [u0, u1, u2, u3] < 18446744073709551616 * val [d0, d1, d2]) :
    Digit (val [u0, u1, u2, u3]) (val [d0, d1, d2]) 115792089237316195423570985008687907853269984665640564039457584007913129639936 4 (takeL [u0, u1, u2, u3] [d0, d1, d2] (guessN u3 u2 d2) 0 0).1 (guessN u3 u2 d2) (takeL [u0, u1, u2, u3] [d0, d1, d2] (guessN u3 u2 d2) 0 0).2 := by
  have hg := guessN_word hu3 hu2 (show 0 < d2 by omega)
  have WU : Words [u0, u1, u2, u3] := by intro x hx; simp at hx; rcases hx with rfl | rfl | rfl | rfl <;> assumption
  have WD : Words [d0, d1, d2] := by intro x hx; simp at hx; rcases hx with rfl | rfl | rfl <;> assumption
  obtain ⟨r1, r2, r3, r4⟩ := takeL_spec hg [d0, d1, d2] [u0, u1, u2, u3] 0 0 rfl WU WD ⟨by decide, by decide⟩ (by decide)
  rw [show [u0, u1, u2, u3].length = 4 from rfl, show (18446744073709551616 : Int) ^ 4 = 115792089237316195423570985008687907853269984665640564039457584007913129639936 by decide] at r4
  have hD : 0 < val [d0, d1, d2] := by
    unfold Word at *
    simp only [val] at *
    omega
  have hQ : 0 ≤ val [u0, u1, u2, u3] / val [d0, d1, d2] := Int.ediv_nonneg (val_nonneg WU).1 (by omega)
  have hm := Int.ediv_mul_le (val [u0, u1, u2, u3]) (show val [d0, d1, d2] ≠ 0 by omega)
  have ge : val [u0, u1, u2, u3] / val [d0, d1, d2] ≤ guessN u3 u2 d2 := by
    unfold guessN
    split
    · have : val [u0, u1, u2, u3] / val [d0, d1, d2] < 18446744073709551616 := Int.ediv_lt_of_lt_mul hD hU
      omega
    · refine guess_ge (B := 340282366920938463463374607431768211456) (ul := val [u0, u1]) (dl := val [d0, d1]) (by decide) (by omega) ?_ ?_ hQ ?_ ?_ hm
      · unfold Word at *; first | omega | (simp only [val]; omega)
      · unfold Word at *; first | omega | (simp only [val]; omega)
      · simp only [val]; omega
      · simp only [val]; omega
  refine ⟨r1, r2, r3.1, r3.2, hg, by omega, ?_⟩
  have hlt := Int.lt_ediv_add_one_mul_self (val [u0, u1, u2, u3]) hD
  have : (val [u0, u1, u2, u3] / val [d0, d1, d2] + 1) * val [d0, d1, d2] ≤ (guessN u3 u2 d2 + 1) * val [d0, d1, d2] := Int.mul_le_mul_of_nonneg_right (by omega) (by omega)
  omega

theorem digit_first_4 {u0 u1 u2 u3 u4 d0 d1 d2 d3 : Int} (hu0 : Word u0) (hu1 : Word u1) (hu2 : Word u2) (hu3 : Word u3) (hu4 : Word u4) (hd0 : Word d0) (hd1 : Word d1) (hd2 : Word d2) (hd3 : Word d3) (hn : 9223372036854775808 ≤ d3) (hU : val [u0, u1, u2, u3, u4] < 18446744073709551616 * val [d0, d1, d2, d3]) :
    Digit (val [u0, u1, u2, u3, u4]) (val [d0, d1, d2, d3]) 2135987035920910082395021706169552114602704522356652769947041607822219725780640550022962086936576 5 (takeL [u0, u1, u2, u3, u4] [d0, d1, d2, d3] (guessN u4 u3 d3) 0 0).1 (guessN u4 u3 d3) (takeL [u0, u1, u2, u3, u4] [d0, d1, d2, d3] (guessN u4 u3 d3) 0 0).2 := by
  have hg := guessN_word hu4 hu3 (show 0 < d3 by omega)
  have WU : Words [u0, u1, u2, u3, u4] := by intro x hx; simp at hx; rcases hx with rfl | rfl | rfl | rfl | rfl <;> assumption
  have WD : Words [d0, d1, d2, d3] := by intro x hx; simp at hx; rcases hx with rfl | rfl | rfl | rfl <;> assumption
  obtain ⟨r1, r2, r3, r4⟩ := takeL_spec hg [d0, d1, d2, d3] [u0, u1, u2, u3, u4] 0 0 rfl WU WD ⟨by decide, by decide⟩ (by decide)
  rw [show [u0, u1, u2, u3, u4].length = 5 from rfl, show (18446744073709551616 : Int) ^ 5 = 2135987035920910082395021706169552114602704522356652769947041607822219725780640550022962086936576 by decide] at r4
  have hD : 0 < val [d0, d1, d2, d3] := by
    unfold Word at *
    simp only [val] at *
    omega
  have hQ : 0 ≤ val [u0, u1, u2, u3, u4] / val [d0, d1, d2, d3] := Int.ediv_nonneg (val_nonneg WU).1 (by omega)
  have hm := Int.ediv_mul_le (val [u0, u1, u2, u3, u4]) (show val [d0, d1, d2, d3] ≠ 0 by omega)
  have ge : val [u0, u1, u2, u3, u4] / val [d0, d1, d2, d3] ≤ guessN u4 u3 d3 := by
    unfold guessN
    split
    · have : val [u0, u1, u2, u3, u4] / val [d0, d1, d2, d3] < 18446744073709551616 := Int.ediv_lt_of_lt_mul hD hU
      omega
    · refine guess_ge (B := 6277101735386680763835789423207666416102355444464034512896) (ul := val [u0, u1, u2]) (dl := val [d0, d1, d2]) (by decide) (by omega) ?_ ?_ hQ ?_ ?_ hm
      · unfold Word at *; first | omega | (simp only [val]; omega)
      · unfold Word at *; first | omega | (simp only [val]; omega)
      · simp only [val]; omega
      · simp only [val]; omega
  refine ⟨r1, r2, r3.1, r3.2, hg, by omega, ?_⟩
  have hlt := Int.lt_ediv_add_one_mul_self (val [u0, u1, u2, u3, u4]) hD
  have : (val [u0, u1, u2, u3, u4] / val [d0, d1, d2, d3] + 1) * val [d0, d1, d2, d3] ≤ (guessN u4 u3 d3 + 1) * val [d0, d1, d2, d3] := Int.mul_le_mul_of_nonneg_right (by omega) (by omega)
  omega

end Go.Proofs.Ytdjjphcfobbipaa
