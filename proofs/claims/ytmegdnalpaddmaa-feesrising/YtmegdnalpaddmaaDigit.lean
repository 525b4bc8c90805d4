import Derived.Test.YtmegdnalpaddmaaTakeOff
import Derived.Test.YtmegdnalpaddmaaDiv64
import Derived.Test.YtmegdnalpaddmaaDigitNum
namespace Go.Proofs.Ytmegdnalpaddmaa
open Go.RowKit

theorem digit_first_1 {u0 u1 d0 : Int} (hu0 : Word u0) (hu1 : Word u1) (hd0 : Word d0) (hn : 9223372036854775808 ≤ d0) (hU : val [u0, u1] < 18446744073709551616 * val [d0]) :
    Digit (val [u0, u1]) (val [d0]) 340282366920938463463374607431768211456 2 (takeL [u0, u1] [d0] (guessN u1 u0 d0) 0 0).1 (guessN u1 u0 d0) (takeL [u0, u1] [d0] (guessN u1 u0 d0) 0 0).2 := by
  have hg := guessN_word hu1 hu0 (show 0 < d0 by omega)
  have WU : Words [u0, u1] := by intro x hx; simp at hx; rcases hx with rfl | rfl <;> assumption
  have WD : Words [d0] := by intro x hx; simp at hx; rcases hx with rfl <;> assumption
  obtain ⟨r1, r2, r3, r4⟩ := takeL_spec hg [d0] [u0, u1] 0 0 rfl WU WD ⟨by decide, by decide⟩ (by decide)
  rw [show [u0, u1].length = 2 from rfl, show (18446744073709551616 : Int) ^ 2 = 340282366920938463463374607431768211456 by decide] at r4
  have hD : 0 < val [d0] := by
    unfold Word at *
    simp only [val] at *
    omega
  have hQ : 0 ≤ val [u0, u1] / val [d0] := Int.ediv_nonneg (val_nonneg WU).1 (by omega)
  have hm := Int.ediv_mul_le (val [u0, u1]) (show val [d0] ≠ 0 by omega)
  have ge : val [u0, u1] / val [d0] ≤ guessN u1 u0 d0 := by
    unfold guessN
    split
    · have : val [u0, u1] / val [d0] < 18446744073709551616 := Int.ediv_lt_of_lt_mul hD hU
      omega
    · refine guess_ge (B := 1) (ul := 0) (dl := 0) (by decide) (by omega) ?_ ?_ hQ ?_ ?_ hm
      · unfold Word at *; first | omega | (simp only [val]; omega)
      · unfold Word at *; first | omega | (simp only [val]; omega)
      · simp only [val]; omega
      · simp only [val]; omega
  refine ⟨r1, r2, r3.1, r3.2, hg, by omega, ?_⟩
  have hlt := Int.lt_ediv_add_one_mul_self (val [u0, u1]) hD
  have : (val [u0, u1] / val [d0] + 1) * val [d0] ≤ (guessN u1 u0 d0 + 1) * val [d0] := Int.mul_le_mul_of_nonneg_right (by omega) (by omega)
  omega

set_option maxHeartbeats 4000000 in
theorem digit_1 {u0 u1 d0 : Int} (hu0 : Word u0) (hu1 : Word u1) (hd0 : Word d0) (hn : 9223372036854775808 ≤ d0) (hU : val [u0, u1] < 18446744073709551616 * val [d0]) {bu bd o ku kd : Nat} (ne : bu ≠ bd) (w : World) (cu0 : w.cell? ⟨bu, o, none⟩ = some (.int .u64 u0)) (cu1 : w.cell? ⟨bu, o + 1, none⟩ = some (.int .u64 u1)) (cd0 : w.cell? ⟨bd, 0, none⟩ = some (.int .u64 d0)) (fu0 : w.frozen? ⟨bu, o, none⟩ = false) (fu1 : w.frozen? ⟨bu, o + 1, none⟩ = false) :
    Calls Try.prog 54 #[.slice (some ⟨bu, o, none⟩) 2 ku, .slice (some ⟨bd, 0, none⟩) 1 kd] w fun e w' => e = .returned (.int .u64 (val [u0, u1] / val [d0])) ∧ ∃ vs, Sets bu o vs w w' ∧ vs.length = 2 ∧ Words vs ∧ val vs = val [u0, u1] % val [d0] := by
  have hD : 0 < val [d0] := by
    unfold Word at *
    simp only [val] at *
    omega
  have F := digit_first_1 hu0 hu1 hd0 hn hU
  have hv := guessN_word hu1 hu0 (show 0 < d0 by omega)
  have G : Hid (∀ w, Calls Try.prog 58 #[.int .u64 u1, .int .u64 u0, .int .u64 d0] w fun e w' => e = .returned (.int .u64 (guessN u1 u0 d0)) ∧ ∃ n, w' = w.drewN n) := guess_any hu1 hu0 hd0 hn
  have T : Hid (∀ (ku kd : Nat) (w : World), w.cell? ⟨bu, o, none⟩ = some (.int .u64 u0) → w.cell? ⟨bu, o + 1, none⟩ = some (.int .u64 u1) → w.cell? ⟨bd, 0, none⟩ = some (.int .u64 d0) → w.frozen? ⟨bu, o, none⟩ = false → w.frozen? ⟨bu, o + 1, none⟩ = false → Calls Try.prog 59 #[.slice (some ⟨bu, o, none⟩) 2 ku, .slice (some ⟨bd, 0, none⟩) 1 kd, .int .u64 (guessN u1 u0 d0)] w fun e w' => e = .returned (.int .u64 (takeL [u0, u1] [d0] (guessN u1 u0 d0) 0 0).2) ∧ Sets bu o (takeL [u0, u1] [d0] (guessN u1 u0 d0) 0 0).1 w w') := fun ku kd w a0 a1 b0 c0 c1 => takeOff_1 hu0 hu1 hd0 hv ne w a0 a1 b0 c0 c1
  generalize guessN u1 u0 d0 = g at *
  generalize (takeL [u0, u1] [d0] g 0 0).1 = vs0 at *
  generalize (takeL [u0, u1] [d0] g 0 0).2 = b0 at *
  have FF : Hid (Digit (val [u0, u1]) (val [d0]) 340282366920938463463374607431768211456 2 vs0 g b0) := F
  clear F hU hv
  go_enter Try.func54, Try.ntmps54
  go_wp2
  go_quiet ((go_at_call 58; exact Calls.quiet_of (G.out _)))
  go_wp2_with fail
  refine (T.out _ _ (w.drewN nq) cu0 cu1 cd0 fu0 fu1).mono ?_
  rintro e w1 ⟨rfl, S0⟩
  replace S0 := S0.ofDraws
  clear G T
  go_wp2
  go_loopw [6, 7] (fun a b wr => ∃ (q c : Int) (vs : List Int), a = .int .u64 q ∧ b = .int .u64 c ∧ Sets bu o vs w wr ∧ Digit (val [u0, u1]) (val [d0]) 340282366920938463463374607431768211456 2 vs q c) (fun a _ _ => (intOf a).toNat)
  case atStart => exact ⟨_, _, _, rfl, rfl, S0, FF.out⟩
  case round =>
    obtain ⟨q, c, vs, rfl, rfl, S, I⟩ := hrel
    have hc0 := I.b0; have hc1 := I.b1; have hq0 := I.wq.1; have hq1 := I.wq.2
    have vn := val_nonneg I.words
    by_cases hc : c = 0
    · subst hc
      have eI := I.e
      have E : Hid (val [u0, u1] / val [d0] = q ∧ val [u0, u1] % val [d0] = val vs) := by
        have d := digit_of hD (show q * val [d0] ≤ val [u0, u1] by omega) I.hi
        exact ⟨d.1, by rw [d.2]; omega⟩
      clear eI FF S0 vn hD
      have SS : Hid (Sets bu o vs w wr) := S
      clear S
      go_wp2
      go_ret
      rw [E.out.1, E.out.2]
      exact ⟨rfl, vs, SS.out, I.ln, I.words, rfl⟩
    · obtain rfl : c = 1 := by omega
      match vs, I.ln, S, I, vn with
      | [v0, v1], _, S, I, vn =>
        have WV := I.words
        have eI := I.e
        rw [show [v0, v1].length = 2 from rfl, show (18446744073709551616 : Int) ^ 2 = 340282366920938463463374607431768211456 by decide] at vn
        have WU : Words [u0, u1] := by intro x hx; simp at hx; rcases hx with rfl | rfl <;> assumption
        have WD : Words [d0] := by intro x hx; simp at hx; rcases hx with rfl <;> assumption
        have U0 := (val_nonneg WU).1
        obtain ⟨r1, r2, r3, r4⟩ := giveL_spec [d0] [v0, v1] 0 rfl WV WD (by decide)
        rw [show [v0, v1].length = 2 from rfl, show (18446744073709551616 : Int) ^ 2 = 340282366920938463463374607431768211456 by decide] at r4
        have hq : 0 < q := by
          rcases Int.lt_or_eq_of_le hq0 with h | h
          · exact h
          · exfalso; rw [← h, Int.zero_mul] at eI; omega
        have N : Digit (val [u0, u1]) (val [d0]) 340282366920938463463374607431768211456 2 (giveL [v0, v1] [d0] 0).1 (q - 1) (1 - (giveL [v0, v1] [d0] 0).2) := by
          refine ⟨r1, r2, by omega, by omega, ⟨by omega, by omega⟩, ?_, ?_⟩
          · rw [Int.sub_mul, Int.one_mul]; omega
          · rw [Int.sub_add_cancel]; omega
        have NN : Hid (Digit (val [u0, u1]) (val [d0]) 340282366920938463463374607431768211456 2 (giveL [v0, v1] [d0] 0).1 (q - 1) (1 - (giveL [v0, v1] [d0] 0).2)) := N
        have GB := giveBack_1 (WV v0 (by simp)) (WV v1 (by simp)) hd0 (o := o) (ku := ku) (kd := kd) ne wr (S.inn 0 (by simp)) (S.inn 1 (by simp)) ((S.other (Ne.symm ne)).trans cd0) ((S.frozen _).trans fu0) ((S.frozen _).trans fu1)
        have GG : Hid (Calls Try.prog 60 #[.slice (some ⟨bu, o, none⟩) 2 ku, .slice (some ⟨bd, 0, none⟩) 1 kd] wr fun e w' => e = .returned (.int .u64 (giveL [v0, v1] [d0] 0).2) ∧ Sets bu o (giveL [v0, v1] [d0] 0).1 wr w') := GB
        obtain ⟨k0, k1⟩ := r3
        have SS : Hid (Sets bu o [v0, v1] w wr) := S
        clear GB N r4 eI vn I S FF S0 hD U0
        generalize (giveL [v0, v1] [d0] 0).2 = cc at *
        generalize (giveL [v0, v1] [d0] 0).1 = vv at *
        go_wp2_with fail
        refine GG.out.mono ?_
        rintro e w2 ⟨rfl, S2⟩
        clear GG
        go_wp2
        go_roundw
        case rel => exact ⟨_, _, _, rfl, rfl, SS.out.trans S2 r1.symm, NN.out⟩
        case measure => simp [intOf]; omega

theorem digit_first_2 {u0 u1 u2 d0 d1 : Int} (hu0 : Word u0) (hu1 : Word u1) (hu2 : Word u2) (hd0 : Word d0) (hd1 : Word d1) (hn : 9223372036854775808 ≤ d1) (hU : val [u0, u1, u2] < 18446744073709551616 * val [d0, d1]) :
    Digit (val [u0, u1, u2]) (val [d0, d1]) 6277101735386680763835789423207666416102355444464034512896 3 (takeL [u0, u1, u2] [d0, d1] (guessN u2 u1 d1) 0 0).1 (guessN u2 u1 d1) (takeL [u0, u1, u2] [d0, d1] (guessN u2 u1 d1) 0 0).2 := by
  have hg := guessN_word hu2 hu1 (show 0 < d1 by omega)
  have WU : Words [u0, u1, u2] := by intro x hx; simp at hx; rcases hx with rfl | rfl | rfl <;> assumption
  have WD : Words [d0, d1] := by intro x hx; simp at hx; rcases hx with rfl | rfl <;> assumption
  obtain ⟨r1, r2, r3, r4⟩ := takeL_spec hg [d0, d1] [u0, u1, u2] 0 0 rfl WU WD ⟨by decide, by decide⟩ (by decide)
  rw [show [u0, u1, u2].length = 3 from rfl, show (18446744073709551616 : Int) ^ 3 = 6277101735386680763835789423207666416102355444464034512896 by decide] at r4
  have hD : 0 < val [d0, d1] := by
    unfold Word at *
    simp only [val] at *
    omega
  have hQ : 0 ≤ val [u0, u1, u2] / val [d0, d1] := Int.ediv_nonneg (val_nonneg WU).1 (by omega)
  have hm := Int.ediv_mul_le (val [u0, u1, u2]) (show val [d0, d1] ≠ 0 by omega)
  have ge : val [u0, u1, u2] / val [d0, d1] ≤ guessN u2 u1 d1 := by
    unfold guessN
    split
    · have : val [u0, u1, u2] / val [d0, d1] < 18446744073709551616 := Int.ediv_lt_of_lt_mul hD hU
      omega
    · refine guess_ge (B := 18446744073709551616) (ul := val [u0]) (dl := val [d0]) (by decide) (by omega) ?_ ?_ hQ ?_ ?_ hm
      · unfold Word at *; first | omega | (simp only [val]; omega)
      · unfold Word at *; first | omega | (simp only [val]; omega)
      · simp only [val]; omega
      · simp only [val]; omega
  refine ⟨r1, r2, r3.1, r3.2, hg, by omega, ?_⟩
  have hlt := Int.lt_ediv_add_one_mul_self (val [u0, u1, u2]) hD
  have : (val [u0, u1, u2] / val [d0, d1] + 1) * val [d0, d1] ≤ (guessN u2 u1 d1 + 1) * val [d0, d1] := Int.mul_le_mul_of_nonneg_right (by omega) (by omega)
  omega

set_option maxHeartbeats 4000000 in
theorem digit_2 {u0 u1 u2 d0 d1 : Int} (hu0 : Word u0) (hu1 : Word u1) (hu2 : Word u2) (hd0 : Word d0) (hd1 : Word d1) (hn : 9223372036854775808 ≤ d1) (hU : val [u0, u1, u2] < 18446744073709551616 * val [d0, d1]) {bu bd o ku kd : Nat} (ne : bu ≠ bd) (w : World) (cu0 : w.cell? ⟨bu, o, none⟩ = some (.int .u64 u0)) (cu1 : w.cell? ⟨bu, o + 1, none⟩ = some (.int .u64 u1)) (cu2 : w.cell? ⟨bu, o + 2, none⟩ = some (.int .u64 u2)) (cd0 : w.cell? ⟨bd, 0, none⟩ = some (.int .u64 d0)) (cd1 : w.cell? ⟨bd, 1, none⟩ = some (.int .u64 d1)) (fu0 : w.frozen? ⟨bu, o, none⟩ = false) (fu1 : w.frozen? ⟨bu, o + 1, none⟩ = false) (fu2 : w.frozen? ⟨bu, o + 2, none⟩ = false) :
    Calls Try.prog 54 #[.slice (some ⟨bu, o, none⟩) 3 ku, .slice (some ⟨bd, 0, none⟩) 2 kd] w fun e w' => e = .returned (.int .u64 (val [u0, u1, u2] / val [d0, d1])) ∧ ∃ vs, Sets bu o vs w w' ∧ vs.length = 3 ∧ Words vs ∧ val vs = val [u0, u1, u2] % val [d0, d1] := by
  have hD : 0 < val [d0, d1] := by
    unfold Word at *
    simp only [val] at *
    omega
  have F := digit_first_2 hu0 hu1 hu2 hd0 hd1 hn hU
  have hv := guessN_word hu2 hu1 (show 0 < d1 by omega)
  have G : Hid (∀ w, Calls Try.prog 58 #[.int .u64 u2, .int .u64 u1, .int .u64 d1] w fun e w' => e = .returned (.int .u64 (guessN u2 u1 d1)) ∧ ∃ n, w' = w.drewN n) := guess_any hu2 hu1 hd1 hn
  have T : Hid (∀ (ku kd : Nat) (w : World), w.cell? ⟨bu, o, none⟩ = some (.int .u64 u0) → w.cell? ⟨bu, o + 1, none⟩ = some (.int .u64 u1) → w.cell? ⟨bu, o + 2, none⟩ = some (.int .u64 u2) → w.cell? ⟨bd, 0, none⟩ = some (.int .u64 d0) → w.cell? ⟨bd, 1, none⟩ = some (.int .u64 d1) → w.frozen? ⟨bu, o, none⟩ = false → w.frozen? ⟨bu, o + 1, none⟩ = false → w.frozen? ⟨bu, o + 2, none⟩ = false → Calls Try.prog 59 #[.slice (some ⟨bu, o, none⟩) 3 ku, .slice (some ⟨bd, 0, none⟩) 2 kd, .int .u64 (guessN u2 u1 d1)] w fun e w' => e = .returned (.int .u64 (takeL [u0, u1, u2] [d0, d1] (guessN u2 u1 d1) 0 0).2) ∧ Sets bu o (takeL [u0, u1, u2] [d0, d1] (guessN u2 u1 d1) 0 0).1 w w') := fun ku kd w a0 a1 a2 b0 b1 c0 c1 c2 => takeOff_2 hu0 hu1 hu2 hd0 hd1 hv ne w a0 a1 a2 b0 b1 c0 c1 c2
  generalize guessN u2 u1 d1 = g at *
  generalize (takeL [u0, u1, u2] [d0, d1] g 0 0).1 = vs0 at *
  generalize (takeL [u0, u1, u2] [d0, d1] g 0 0).2 = b0 at *
  have FF : Hid (Digit (val [u0, u1, u2]) (val [d0, d1]) 6277101735386680763835789423207666416102355444464034512896 3 vs0 g b0) := F
  clear F hU hv
  go_enter Try.func54, Try.ntmps54
  go_wp2
  go_quiet ((go_at_call 58; exact Calls.quiet_of (G.out _)))
  go_wp2_with fail
  refine (T.out _ _ (w.drewN nq) cu0 cu1 cu2 cd0 cd1 fu0 fu1 fu2).mono ?_
  rintro e w1 ⟨rfl, S0⟩
  replace S0 := S0.ofDraws
  clear G T
  go_wp2
  go_loopw [6, 7] (fun a b wr => ∃ (q c : Int) (vs : List Int), a = .int .u64 q ∧ b = .int .u64 c ∧ Sets bu o vs w wr ∧ Digit (val [u0, u1, u2]) (val [d0, d1]) 6277101735386680763835789423207666416102355444464034512896 3 vs q c) (fun a _ _ => (intOf a).toNat)
  case atStart => exact ⟨_, _, _, rfl, rfl, S0, FF.out⟩
  case round =>
    obtain ⟨q, c, vs, rfl, rfl, S, I⟩ := hrel
    have hc0 := I.b0; have hc1 := I.b1; have hq0 := I.wq.1; have hq1 := I.wq.2
    have vn := val_nonneg I.words
    by_cases hc : c = 0
    · subst hc
      have eI := I.e
      have E : Hid (val [u0, u1, u2] / val [d0, d1] = q ∧ val [u0, u1, u2] % val [d0, d1] = val vs) := by
        have d := digit_of hD (show q * val [d0, d1] ≤ val [u0, u1, u2] by omega) I.hi
        exact ⟨d.1, by rw [d.2]; omega⟩
      clear eI FF S0 vn hD
      have SS : Hid (Sets bu o vs w wr) := S
      clear S
      go_wp2
      go_ret
      rw [E.out.1, E.out.2]
      exact ⟨rfl, vs, SS.out, I.ln, I.words, rfl⟩
    · obtain rfl : c = 1 := by omega
      match vs, I.ln, S, I, vn with
      | [v0, v1, v2], _, S, I, vn =>
        have WV := I.words
        have eI := I.e
        rw [show [v0, v1, v2].length = 3 from rfl, show (18446744073709551616 : Int) ^ 3 = 6277101735386680763835789423207666416102355444464034512896 by decide] at vn
        have WU : Words [u0, u1, u2] := by intro x hx; simp at hx; rcases hx with rfl | rfl | rfl <;> assumption
        have WD : Words [d0, d1] := by intro x hx; simp at hx; rcases hx with rfl | rfl <;> assumption
        have U0 := (val_nonneg WU).1
        obtain ⟨r1, r2, r3, r4⟩ := giveL_spec [d0, d1] [v0, v1, v2] 0 rfl WV WD (by decide)
        rw [show [v0, v1, v2].length = 3 from rfl, show (18446744073709551616 : Int) ^ 3 = 6277101735386680763835789423207666416102355444464034512896 by decide] at r4
        have hq : 0 < q := by
          rcases Int.lt_or_eq_of_le hq0 with h | h
          · exact h
          · exfalso; rw [← h, Int.zero_mul] at eI; omega
        have N : Digit (val [u0, u1, u2]) (val [d0, d1]) 6277101735386680763835789423207666416102355444464034512896 3 (giveL [v0, v1, v2] [d0, d1] 0).1 (q - 1) (1 - (giveL [v0, v1, v2] [d0, d1] 0).2) := by
          refine ⟨r1, r2, by omega, by omega, ⟨by omega, by omega⟩, ?_, ?_⟩
          · rw [Int.sub_mul, Int.one_mul]; omega
          · rw [Int.sub_add_cancel]; omega
        have NN : Hid (Digit (val [u0, u1, u2]) (val [d0, d1]) 6277101735386680763835789423207666416102355444464034512896 3 (giveL [v0, v1, v2] [d0, d1] 0).1 (q - 1) (1 - (giveL [v0, v1, v2] [d0, d1] 0).2)) := N
        have GB := giveBack_2 (WV v0 (by simp)) (WV v1 (by simp)) (WV v2 (by simp)) hd0 hd1 (o := o) (ku := ku) (kd := kd) ne wr (S.inn 0 (by simp)) (S.inn 1 (by simp)) (S.inn 2 (by simp)) ((S.other (Ne.symm ne)).trans cd0) ((S.other (Ne.symm ne)).trans cd1) ((S.frozen _).trans fu0) ((S.frozen _).trans fu1) ((S.frozen _).trans fu2)
        have GG : Hid (Calls Try.prog 60 #[.slice (some ⟨bu, o, none⟩) 3 ku, .slice (some ⟨bd, 0, none⟩) 2 kd] wr fun e w' => e = .returned (.int .u64 (giveL [v0, v1, v2] [d0, d1] 0).2) ∧ Sets bu o (giveL [v0, v1, v2] [d0, d1] 0).1 wr w') := GB
        obtain ⟨k0, k1⟩ := r3
        have SS : Hid (Sets bu o [v0, v1, v2] w wr) := S
        clear GB N r4 eI vn I S FF S0 hD U0
        generalize (giveL [v0, v1, v2] [d0, d1] 0).2 = cc at *
        generalize (giveL [v0, v1, v2] [d0, d1] 0).1 = vv at *
        go_wp2_with fail
        refine GG.out.mono ?_
        rintro e w2 ⟨rfl, S2⟩
        clear GG
        go_wp2
        go_roundw
        case rel => exact ⟨_, _, _, rfl, rfl, SS.out.trans S2 r1.symm, NN.out⟩
        case measure => simp [intOf]; omega

theorem digit_first_3 {u0 u1 u2 u3 d0 d1 d2 : Int} (hu0 : Word u0) (hu1 : Word u1) (hu2 : Word u2) (hu3 : Word u3) (hd0 : Word d0) (hd1 : Word d1) (hd2 : Word d2) (hn : 9223372036854775808 ≤ d2) (hU : val [u0, u1, u2, u3] < 18446744073709551616 * val [d0, d1, d2]) :
    Digit (val [u0, u1, u2, u3]) (val [d0, d1, d2]) 115792089237316195423570985008687907853269984665640564039457584007913129639936 4 (takeL [u0, u1, u2, u3] [d0, d1, d2] (guessN u3 u2 d2) 0 0).1 (guessN u3 u2 d2) (takeL [u0, u1, u2, u3] [d0, d1, d2] (guessN u3 u2 d2) 0 0).2 := by
  have hg := guessN_word hu3 hu2 (show 0 < d2 by omega)
  have WU : Words [u0, u1, u2, u3] := by intro x hx; simp at hx; rcases hx with rfl | rfl | rfl | rfl <;> assumption
  have WD : Words [d0, d1, d2] := by intro x hx; simp at hx; rcases hx with rfl | rfl | rfl <;> assumption
  obtain ⟨r1, r2, r3, r4⟩ := takeL_spec hg [d0, d1, d2] [u0, u1, u2, u3] 0 0 rfl WU WD ⟨by decide, by decide⟩ (by decide)
  rw [show [u0, u1, u2, u3].length = 4 from rfl, show (18446744073709551616 : Int) ^ 4 = 115792089237316195423570985008687907853269984665640564039457584007913129639936 by decide] at r4
  have hD : 0 < val [d0, d1, d2] := by
    unfold Word at *
    simp only [val] at *
    omega
  have hQ : 0 ≤ val [u0, u1, u2, u3] / val [d0, d1, d2] := Int.ediv_nonneg (val_nonneg WU).1 (by omega)
  have hm := Int.ediv_mul_le (val [u0, u1, u2, u3]) (show val [d0, d1, d2] ≠ 0 by omega)
  have ge : val [u0, u1, u2, u3] / val [d0, d1, d2] ≤ guessN u3 u2 d2 := by
    unfold guessN
    split
    · have : val [u0, u1, u2, u3] / val [d0, d1, d2] < 18446744073709551616 := Int.ediv_lt_of_lt_mul hD hU
      omega
    · refine guess_ge (B := 340282366920938463463374607431768211456) (ul := val [u0, u1]) (dl := val [d0, d1]) (by decide) (by omega) ?_ ?_ hQ ?_ ?_ hm
      · unfold Word at *; first | omega | (simp only [val]; omega)
      · unfold Word at *; first | omega | (simp only [val]; omega)
      · simp only [val]; omega
      · simp only [val]; omega
  refine ⟨r1, r2, r3.1, r3.2, hg, by omega, ?_⟩
  have hlt := Int.lt_ediv_add_one_mul_self (val [u0, u1, u2, u3]) hD
  have : (val [u0, u1, u2, u3] / val [d0, d1, d2] + 1) * val [d0, d1, d2] ≤ (guessN u3 u2 d2 + 1) * val [d0, d1, d2] := Int.mul_le_mul_of_nonneg_right (by omega) (by omega)
  omega

set_option maxHeartbeats 4000000 in
theorem digit_3 {u0 u1 u2 u3 d0 d1 d2 : Int} (hu0 : Word u0) (hu1 : Word u1) (hu2 : Word u2) (hu3 : Word u3) (hd0 : Word d0) (hd1 : Word d1) (hd2 : Word d2) (hn : 9223372036854775808 ≤ d2) (hU : val [u0, u1, u2, u3] < 18446744073709551616 * val [d0, d1, d2]) {bu bd o ku kd : Nat} (ne : bu ≠ bd) (w : World) (cu0 : w.cell? ⟨bu, o, none⟩ = some (.int .u64 u0)) (cu1 : w.cell? ⟨bu, o + 1, none⟩ = some (.int .u64 u1)) (cu2 : w.cell? ⟨bu, o + 2, none⟩ = some (.int .u64 u2)) (cu3 : w.cell? ⟨bu, o + 3, none⟩ = some (.int .u64 u3)) (cd0 : w.cell? ⟨bd, 0, none⟩ = some (.int .u64 d0)) (cd1 : w.cell? ⟨bd, 1, none⟩ = some (.int .u64 d1)) (cd2 : w.cell? ⟨bd, 2, none⟩ = some (.int .u64 d2)) (fu0 : w.frozen? ⟨bu, o, none⟩ = false) (fu1 : w.frozen? ⟨bu, o + 1, none⟩ = false) (fu2 : w.frozen? ⟨bu, o + 2, none⟩ = false) (fu3 : w.frozen? ⟨bu, o + 3, none⟩ = false) :
    Calls Try.prog 54 #[.slice (some ⟨bu, o, none⟩) 4 ku, .slice (some ⟨bd, 0, none⟩) 3 kd] w fun e w' => e = .returned (.int .u64 (val [u0, u1, u2, u3] / val [d0, d1, d2])) ∧ ∃ vs, Sets bu o vs w w' ∧ vs.length = 4 ∧ Words vs ∧ val vs = val [u0, u1, u2, u3] % val [d0, d1, d2] := by
  have hD : 0 < val [d0, d1, d2] := by
    unfold Word at *
    simp only [val] at *
    omega
  have F := digit_first_3 hu0 hu1 hu2 hu3 hd0 hd1 hd2 hn hU
  have hv := guessN_word hu3 hu2 (show 0 < d2 by omega)
  have G : Hid (∀ w, Calls Try.prog 58 #[.int .u64 u3, .int .u64 u2, .int .u64 d2] w fun e w' => e = .returned (.int .u64 (guessN u3 u2 d2)) ∧ ∃ n, w' = w.drewN n) := guess_any hu3 hu2 hd2 hn
  have T : Hid (∀ (ku kd : Nat) (w : World), w.cell? ⟨bu, o, none⟩ = some (.int .u64 u0) → w.cell? ⟨bu, o + 1, none⟩ = some (.int .u64 u1) → w.cell? ⟨bu, o + 2, none⟩ = some (.int .u64 u2) → w.cell? ⟨bu, o + 3, none⟩ = some (.int .u64 u3) → w.cell? ⟨bd, 0, none⟩ = some (.int .u64 d0) → w.cell? ⟨bd, 1, none⟩ = some (.int .u64 d1) → w.cell? ⟨bd, 2, none⟩ = some (.int .u64 d2) → w.frozen? ⟨bu, o, none⟩ = false → w.frozen? ⟨bu, o + 1, none⟩ = false → w.frozen? ⟨bu, o + 2, none⟩ = false → w.frozen? ⟨bu, o + 3, none⟩ = false → Calls Try.prog 59 #[.slice (some ⟨bu, o, none⟩) 4 ku, .slice (some ⟨bd, 0, none⟩) 3 kd, .int .u64 (guessN u3 u2 d2)] w fun e w' => e = .returned (.int .u64 (takeL [u0, u1, u2, u3] [d0, d1, d2] (guessN u3 u2 d2) 0 0).2) ∧ Sets bu o (takeL [u0, u1, u2, u3] [d0, d1, d2] (guessN u3 u2 d2) 0 0).1 w w') := fun ku kd w a0 a1 a2 a3 b0 b1 b2 c0 c1 c2 c3 => takeOff_3 hu0 hu1 hu2 hu3 hd0 hd1 hd2 hv ne w a0 a1 a2 a3 b0 b1 b2 c0 c1 c2 c3
  generalize guessN u3 u2 d2 = g at *
  generalize (takeL [u0, u1, u2, u3] [d0, d1, d2] g 0 0).1 = vs0 at *
  generalize (takeL [u0, u1, u2, u3] [d0, d1, d2] g 0 0).2 = b0 at *
  have FF : Hid (Digit (val [u0, u1, u2, u3]) (val [d0, d1, d2]) 115792089237316195423570985008687907853269984665640564039457584007913129639936 4 vs0 g b0) := F
  clear F hU hv
  go_enter Try.func54, Try.ntmps54
  go_wp2
  go_quiet ((go_at_call 58; exact Calls.quiet_of (G.out _)))
  go_wp2_with fail
  refine (T.out _ _ (w.drewN nq) cu0 cu1 cu2 cu3 cd0 cd1 cd2 fu0 fu1 fu2 fu3).mono ?_
  rintro e w1 ⟨rfl, S0⟩
  replace S0 := S0.ofDraws
  clear G T
  go_wp2
  go_loopw [6, 7] (fun a b wr => ∃ (q c : Int) (vs : List Int), a = .int .u64 q ∧ b = .int .u64 c ∧ Sets bu o vs w wr ∧ Digit (val [u0, u1, u2, u3]) (val [d0, d1, d2]) 115792089237316195423570985008687907853269984665640564039457584007913129639936 4 vs q c) (fun a _ _ => (intOf a).toNat)
  case atStart => exact ⟨_, _, _, rfl, rfl, S0, FF.out⟩
  case round =>
    obtain ⟨q, c, vs, rfl, rfl, S, I⟩ := hrel
    have hc0 := I.b0; have hc1 := I.b1; have hq0 := I.wq.1; have hq1 := I.wq.2
    have vn := val_nonneg I.words
    by_cases hc : c = 0
    · subst hc
      have eI := I.e
      have E : Hid (val [u0, u1, u2, u3] / val [d0, d1, d2] = q ∧ val [u0, u1, u2, u3] % val [d0, d1, d2] = val vs) := by
        have d := digit_of hD (show q * val [d0, d1, d2] ≤ val [u0, u1, u2, u3] by omega) I.hi
        exact ⟨d.1, by rw [d.2]; omega⟩
      clear eI FF S0 vn hD
      have SS : Hid (Sets bu o vs w wr) := S
      clear S
      go_wp2
      go_ret
      rw [E.out.1, E.out.2]
      exact ⟨rfl, vs, SS.out, I.ln, I.words, rfl⟩
    · obtain rfl : c = 1 := by omega
      match vs, I.ln, S, I, vn with
      | [v0, v1, v2, v3], _, S, I, vn =>
        have WV := I.words
        have eI := I.e
        rw [show [v0, v1, v2, v3].length = 4 from rfl, show (18446744073709551616 : Int) ^ 4 = 115792089237316195423570985008687907853269984665640564039457584007913129639936 by decide] at vn
        have WU : Words [u0, u1, u2, u3] := by intro x hx; simp at hx; rcases hx with rfl | rfl | rfl | rfl <;> assumption
        have WD : Words [d0, d1, d2] := by intro x hx; simp at hx; rcases hx with rfl | rfl | rfl <;> assumption
        have U0 := (val_nonneg WU).1
        obtain ⟨r1, r2, r3, r4⟩ := giveL_spec [d0, d1, d2] [v0, v1, v2, v3] 0 rfl WV WD (by decide)
        rw [show [v0, v1, v2, v3].length = 4 from rfl, show (18446744073709551616 : Int) ^ 4 = 115792089237316195423570985008687907853269984665640564039457584007913129639936 by decide] at r4
        have hq : 0 < q := by
          rcases Int.lt_or_eq_of_le hq0 with h | h
          · exact h
          · exfalso; rw [← h, Int.zero_mul] at eI; omega
        have N : Digit (val [u0, u1, u2, u3]) (val [d0, d1, d2]) 115792089237316195423570985008687907853269984665640564039457584007913129639936 4 (giveL [v0, v1, v2, v3] [d0, d1, d2] 0).1 (q - 1) (1 - (giveL [v0, v1, v2, v3] [d0, d1, d2] 0).2) := by
          refine ⟨r1, r2, by omega, by omega, ⟨by omega, by omega⟩, ?_, ?_⟩
          · rw [Int.sub_mul, Int.one_mul]; omega
          · rw [Int.sub_add_cancel]; omega
        have NN : Hid (Digit (val [u0, u1, u2, u3]) (val [d0, d1, d2]) 115792089237316195423570985008687907853269984665640564039457584007913129639936 4 (giveL [v0, v1, v2, v3] [d0, d1, d2] 0).1 (q - 1) (1 - (giveL [v0, v1, v2, v3] [d0, d1, d2] 0).2)) := N
        have GB := giveBack_3 (WV v0 (by simp)) (WV v1 (by simp)) (WV v2 (by simp)) (WV v3 (by simp)) hd0 hd1 hd2 (o := o) (ku := ku) (kd := kd) ne wr (S.inn 0 (by simp)) (S.inn 1 (by simp)) (S.inn 2 (by simp)) (S.inn 3 (by simp)) ((S.other (Ne.symm ne)).trans cd0) ((S.other (Ne.symm ne)).trans cd1) ((S.other (Ne.symm ne)).trans cd2) ((S.frozen _).trans fu0) ((S.frozen _).trans fu1) ((S.frozen _).trans fu2) ((S.frozen _).trans fu3)
        have GG : Hid (Calls Try.prog 60 #[.slice (some ⟨bu, o, none⟩) 4 ku, .slice (some ⟨bd, 0, none⟩) 3 kd] wr fun e w' => e = .returned (.int .u64 (giveL [v0, v1, v2, v3] [d0, d1, d2] 0).2) ∧ Sets bu o (giveL [v0, v1, v2, v3] [d0, d1, d2] 0).1 wr w') := GB
        obtain ⟨k0, k1⟩ := r3
        have SS : Hid (Sets bu o [v0, v1, v2, v3] w wr) := S
        clear GB N r4 eI vn I S FF S0 hD U0
        generalize (giveL [v0, v1, v2, v3] [d0, d1, d2] 0).2 = cc at *
        generalize (giveL [v0, v1, v2, v3] [d0, d1, d2] 0).1 = vv at *
        go_wp2_with fail
        refine GG.out.mono ?_
        rintro e w2 ⟨rfl, S2⟩
        clear GG
        go_wp2
        go_roundw
        case rel => exact ⟨_, _, _, rfl, rfl, SS.out.trans S2 r1.symm, NN.out⟩
        case measure => simp [intOf]; omega

theorem digit_first_4 {u0 u1 u2 u3 u4 d0 d1 d2 d3 : Int} (hu0 : Word u0) (hu1 : Word u1) (hu2 : Word u2) (hu3 : Word u3) (hu4 : Word u4) (hd0 : Word d0) (hd1 : Word d1) (hd2 : Word d2) (hd3 : Word d3) (hn : 9223372036854775808 ≤ d3) (hU : val [u0, u1, u2, u3, u4] < 18446744073709551616 * val [d0, d1, d2, d3]) :
    Digit (val [u0, u1, u2, u3, u4]) (val [d0, d1, d2, d3]) 2135987035920910082395021706169552114602704522356652769947041607822219725780640550022962086936576 5 (takeL [u0, u1, u2, u3, u4] [d0, d1, d2, d3] (guessN u4 u3 d3) 0 0).1 (guessN u4 u3 d3) (takeL [u0, u1, u2, u3, u4] [d0, d1, d2, d3] (guessN u4 u3 d3) 0 0).2 := by
  have hg := guessN_word hu4 hu3 (show 0 < d3 by omega)
  have WU : Words [u0, u1, u2, u3, u4] := by intro x hx; simp at hx; rcases hx with rfl | rfl | rfl | rfl | rfl <;> assumption
  have WD : Words [d0, d1, d2, d3] := by intro x hx; simp at hx; rcases hx with rfl | rfl | rfl | rfl <;> assumption
  obtain ⟨r1, r2, r3, r4⟩ := takeL_spec hg [d0, d1, d2, d3] [u0, u1, u2, u3, u4] 0 0 rfl WU WD ⟨by decide, by decide⟩ (by decide)
  rw [show [u0, u1, u2, u3, u4].length = 5 from rfl, show (18446744073709551616 : Int) ^ 5 = 2135987035920910082395021706169552114602704522356652769947041607822219725780640550022962086936576 by decide] at r4
  have hD : 0 < val [d0, d1, d2, d3] := by
    unfold Word at *
    simp only [val] at *
    omega
  have hQ : 0 ≤ val [u0, u1, u2, u3, u4] / val [d0, d1, d2, d3] := Int.ediv_nonneg (val_nonneg WU).1 (by omega)
  have hm := Int.ediv_mul_le (val [u0, u1, u2, u3, u4]) (show val [d0, d1, d2, d3] ≠ 0 by omega)
  have ge : val [u0, u1, u2, u3, u4] / val [d0, d1, d2, d3] ≤ guessN u4 u3 d3 := by
    unfold guessN
    split
    · have : val [u0, u1, u2, u3, u4] / val [d0, d1, d2, d3] < 18446744073709551616 := Int.ediv_lt_of_lt_mul hD hU
      omega
    · refine guess_ge (B := 6277101735386680763835789423207666416102355444464034512896) (ul := val [u0, u1, u2]) (dl := val [d0, d1, d2]) (by decide) (by omega) ?_ ?_ hQ ?_ ?_ hm
      · unfold Word at *; first | omega | (simp only [val]; omega)
      · unfold Word at *; first | omega | (simp only [val]; omega)
      · simp only [val]; omega
      · simp only [val]; omega
  refine ⟨r1, r2, r3.1, r3.2, hg, by omega, ?_⟩
  have hlt := Int.lt_ediv_add_one_mul_self (val [u0, u1, u2, u3, u4]) hD
  have : (val [u0, u1, u2, u3, u4] / val [d0, d1, d2, d3] + 1) * val [d0, d1, d2, d3] ≤ (guessN u4 u3 d3 + 1) * val [d0, d1, d2, d3] := Int.mul_le_mul_of_nonneg_right (by omega) (by omega)
  omega

set_option maxHeartbeats 4000000 in
theorem digit_4 {u0 u1 u2 u3 u4 d0 d1 d2 d3 : Int} (hu0 : Word u0) (hu1 : Word u1) (hu2 : Word u2) (hu3 : Word u3) (hu4 : Word u4) (hd0 : Word d0) (hd1 : Word d1) (hd2 : Word d2) (hd3 : Word d3) (hn : 9223372036854775808 ≤ d3) (hU : val [u0, u1, u2, u3, u4] < 18446744073709551616 * val [d0, d1, d2, d3]) {bu bd o ku kd : Nat} (ne : bu ≠ bd) (w : World) (cu0 : w.cell? ⟨bu, o, none⟩ = some (.int .u64 u0)) (cu1 : w.cell? ⟨bu, o + 1, none⟩ = some (.int .u64 u1)) (cu2 : w.cell? ⟨bu, o + 2, none⟩ = some (.int .u64 u2)) (cu3 : w.cell? ⟨bu, o + 3, none⟩ = some (.int .u64 u3)) (cu4 : w.cell? ⟨bu, o + 4, none⟩ = some (.int .u64 u4)) (cd0 : w.cell? ⟨bd, 0, none⟩ = some (.int .u64 d0)) (cd1 : w.cell? ⟨bd, 1, none⟩ = some (.int .u64 d1)) (cd2 : w.cell? ⟨bd, 2, none⟩ = some (.int .u64 d2)) (cd3 : w.cell? ⟨bd, 3, none⟩ = some (.int .u64 d3)) (fu0 : w.frozen? ⟨bu, o, none⟩ = false) (fu1 : w.frozen? ⟨bu, o + 1, none⟩ = false) (fu2 : w.frozen? ⟨bu, o + 2, none⟩ = false) (fu3 : w.frozen? ⟨bu, o + 3, none⟩ = false) (fu4 : w.frozen? ⟨bu, o + 4, none⟩ = false) :
    Calls Try.prog 54 #[.slice (some ⟨bu, o, none⟩) 5 ku, .slice (some ⟨bd, 0, none⟩) 4 kd] w fun e w' => e = .returned (.int .u64 (val [u0, u1, u2, u3, u4] / val [d0, d1, d2, d3])) ∧ ∃ vs, Sets bu o vs w w' ∧ vs.length = 5 ∧ Words vs ∧ val vs = val [u0, u1, u2, u3, u4] % val [d0, d1, d2, d3] := by
  have hD : 0 < val [d0, d1, d2, d3] := by
    unfold Word at *
    simp only [val] at *
    omega
  have F := digit_first_4 hu0 hu1 hu2 hu3 hu4 hd0 hd1 hd2 hd3 hn hU
  have hv := guessN_word hu4 hu3 (show 0 < d3 by omega)
  have G : Hid (∀ w, Calls Try.prog 58 #[.int .u64 u4, .int .u64 u3, .int .u64 d3] w fun e w' => e = .returned (.int .u64 (guessN u4 u3 d3)) ∧ ∃ n, w' = w.drewN n) := guess_any hu4 hu3 hd3 hn
  have T : Hid (∀ (ku kd : Nat) (w : World), w.cell? ⟨bu, o, none⟩ = some (.int .u64 u0) → w.cell? ⟨bu, o + 1, none⟩ = some (.int .u64 u1) → w.cell? ⟨bu, o + 2, none⟩ = some (.int .u64 u2) → w.cell? ⟨bu, o + 3, none⟩ = some (.int .u64 u3) → w.cell? ⟨bu, o + 4, none⟩ = some (.int .u64 u4) → w.cell? ⟨bd, 0, none⟩ = some (.int .u64 d0) → w.cell? ⟨bd, 1, none⟩ = some (.int .u64 d1) → w.cell? ⟨bd, 2, none⟩ = some (.int .u64 d2) → w.cell? ⟨bd, 3, none⟩ = some (.int .u64 d3) → w.frozen? ⟨bu, o, none⟩ = false → w.frozen? ⟨bu, o + 1, none⟩ = false → w.frozen? ⟨bu, o + 2, none⟩ = false → w.frozen? ⟨bu, o + 3, none⟩ = false → w.frozen? ⟨bu, o + 4, none⟩ = false → Calls Try.prog 59 #[.slice (some ⟨bu, o, none⟩) 5 ku, .slice (some ⟨bd, 0, none⟩) 4 kd, .int .u64 (guessN u4 u3 d3)] w fun e w' => e = .returned (.int .u64 (takeL [u0, u1, u2, u3, u4] [d0, d1, d2, d3] (guessN u4 u3 d3) 0 0).2) ∧ Sets bu o (takeL [u0, u1, u2, u3, u4] [d0, d1, d2, d3] (guessN u4 u3 d3) 0 0).1 w w') := fun ku kd w a0 a1 a2 a3 a4 b0 b1 b2 b3 c0 c1 c2 c3 c4 => takeOff_4 hu0 hu1 hu2 hu3 hu4 hd0 hd1 hd2 hd3 hv ne w a0 a1 a2 a3 a4 b0 b1 b2 b3 c0 c1 c2 c3 c4
  generalize guessN u4 u3 d3 = g at *
  generalize (takeL [u0, u1, u2, u3, u4] [d0, d1, d2, d3] g 0 0).1 = vs0 at *
  generalize (takeL [u0, u1, u2, u3, u4] [d0, d1, d2, d3] g 0 0).2 = b0 at *
  have FF : Hid (Digit (val [u0, u1, u2, u3, u4]) (val [d0, d1, d2, d3]) 2135987035920910082395021706169552114602704522356652769947041607822219725780640550022962086936576 5 vs0 g b0) := F
  clear F hU hv
  go_enter Try.func54, Try.ntmps54
  go_wp2
  go_quiet ((go_at_call 58; exact Calls.quiet_of (G.out _)))
  go_wp2_with fail
  refine (T.out _ _ (w.drewN nq) cu0 cu1 cu2 cu3 cu4 cd0 cd1 cd2 cd3 fu0 fu1 fu2 fu3 fu4).mono ?_
  rintro e w1 ⟨rfl, S0⟩
  replace S0 := S0.ofDraws
  clear G T
  go_wp2
  go_loopw [6, 7] (fun a b wr => ∃ (q c : Int) (vs : List Int), a = .int .u64 q ∧ b = .int .u64 c ∧ Sets bu o vs w wr ∧ Digit (val [u0, u1, u2, u3, u4]) (val [d0, d1, d2, d3]) 2135987035920910082395021706169552114602704522356652769947041607822219725780640550022962086936576 5 vs q c) (fun a _ _ => (intOf a).toNat)
  case atStart => exact ⟨_, _, _, rfl, rfl, S0, FF.out⟩
  case round =>
    obtain ⟨q, c, vs, rfl, rfl, S, I⟩ := hrel
    have hc0 := I.b0; have hc1 := I.b1; have hq0 := I.wq.1; have hq1 := I.wq.2
    have vn := val_nonneg I.words
    by_cases hc : c = 0
    · subst hc
      have eI := I.e
      have E : Hid (val [u0, u1, u2, u3, u4] / val [d0, d1, d2, d3] = q ∧ val [u0, u1, u2, u3, u4] % val [d0, d1, d2, d3] = val vs) := by
        have d := digit_of hD (show q * val [d0, d1, d2, d3] ≤ val [u0, u1, u2, u3, u4] by omega) I.hi
        exact ⟨d.1, by rw [d.2]; omega⟩
      clear eI FF S0 vn hD
      have SS : Hid (Sets bu o vs w wr) := S
      clear S
      go_wp2
      go_ret
      rw [E.out.1, E.out.2]
      exact ⟨rfl, vs, SS.out, I.ln, I.words, rfl⟩
    · obtain rfl : c = 1 := by omega
      match vs, I.ln, S, I, vn with
      | [v0, v1, v2, v3, v4], _, S, I, vn =>
        have WV := I.words
        have eI := I.e
        rw [show [v0, v1, v2, v3, v4].length = 5 from rfl, show (18446744073709551616 : Int) ^ 5 = 2135987035920910082395021706169552114602704522356652769947041607822219725780640550022962086936576 by decide] at vn
        have WU : Words [u0, u1, u2, u3, u4] := by intro x hx; simp at hx; rcases hx with rfl | rfl | rfl | rfl | rfl <;> assumption
        have WD : Words [d0, d1, d2, d3] := by intro x hx; simp at hx; rcases hx with rfl | rfl | rfl | rfl <;> assumption
        have U0 := (val_nonneg WU).1
        obtain ⟨r1, r2, r3, r4⟩ := giveL_spec [d0, d1, d2, d3] [v0, v1, v2, v3, v4] 0 rfl WV WD (by decide)
        rw [show [v0, v1, v2, v3, v4].length = 5 from rfl, show (18446744073709551616 : Int) ^ 5 = 2135987035920910082395021706169552114602704522356652769947041607822219725780640550022962086936576 by decide] at r4
        have hq : 0 < q := by
          rcases Int.lt_or_eq_of_le hq0 with h | h
          · exact h
          · exfalso; rw [← h, Int.zero_mul] at eI; omega
        have N : Digit (val [u0, u1, u2, u3, u4]) (val [d0, d1, d2, d3]) 2135987035920910082395021706169552114602704522356652769947041607822219725780640550022962086936576 5 (giveL [v0, v1, v2, v3, v4] [d0, d1, d2, d3] 0).1 (q - 1) (1 - (giveL [v0, v1, v2, v3, v4] [d0, d1, d2, d3] 0).2) := by
          refine ⟨r1, r2, by omega, by omega, ⟨by omega, by omega⟩, ?_, ?_⟩
          · rw [Int.sub_mul, Int.one_mul]; omega
          · rw [Int.sub_add_cancel]; omega
        have NN : Hid (Digit (val [u0, u1, u2, u3, u4]) (val [d0, d1, d2, d3]) 2135987035920910082395021706169552114602704522356652769947041607822219725780640550022962086936576 5 (giveL [v0, v1, v2, v3, v4] [d0, d1, d2, d3] 0).1 (q - 1) (1 - (giveL [v0, v1, v2, v3, v4] [d0, d1, d2, d3] 0).2)) := N
        have GB := giveBack_4 (WV v0 (by simp)) (WV v1 (by simp)) (WV v2 (by simp)) (WV v3 (by simp)) (WV v4 (by simp)) hd0 hd1 hd2 hd3 (o := o) (ku := ku) (kd := kd) ne wr (S.inn 0 (by simp)) (S.inn 1 (by simp)) (S.inn 2 (by simp)) (S.inn 3 (by simp)) (S.inn 4 (by simp)) ((S.other (Ne.symm ne)).trans cd0) ((S.other (Ne.symm ne)).trans cd1) ((S.other (Ne.symm ne)).trans cd2) ((S.other (Ne.symm ne)).trans cd3) ((S.frozen _).trans fu0) ((S.frozen _).trans fu1) ((S.frozen _).trans fu2) ((S.frozen _).trans fu3) ((S.frozen _).trans fu4)
        have GG : Hid (Calls Try.prog 60 #[.slice (some ⟨bu, o, none⟩) 5 ku, .slice (some ⟨bd, 0, none⟩) 4 kd] wr fun e w' => e = .returned (.int .u64 (giveL [v0, v1, v2, v3, v4] [d0, d1, d2, d3] 0).2) ∧ Sets bu o (giveL [v0, v1, v2, v3, v4] [d0, d1, d2, d3] 0).1 wr w') := GB
        obtain ⟨k0, k1⟩ := r3
        have SS : Hid (Sets bu o [v0, v1, v2, v3, v4] w wr) := S
        clear GB N r4 eI vn I S FF S0 hD U0
        generalize (giveL [v0, v1, v2, v3, v4] [d0, d1, d2, d3] 0).2 = cc at *
        generalize (giveL [v0, v1, v2, v3, v4] [d0, d1, d2, d3] 0).1 = vv at *
        go_wp2_with fail
        refine GG.out.mono ?_
        rintro e w2 ⟨rfl, S2⟩
        clear GG
        go_wp2
        go_roundw
        case rel => exact ⟨_, _, _, rfl, rfl, SS.out.trans S2 r1.symm, NN.out⟩
        case measure => simp [intOf]; omega

end Go.Proofs.Ytmegdnalpaddmaa
