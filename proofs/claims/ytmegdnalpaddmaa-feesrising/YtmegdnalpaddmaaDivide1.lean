import Derived.Test.YtmegdnalpaddmaaLen
import Derived.Test.YtmegdnalpaddmaaDigit
import Derived.Test.YtmegdnalpaddmaaLift
import Derived.Test.YtmegdnalpaddmaaRow2
import Derived.Deep.RegionWith
namespace Go.Proofs.Ytmegdnalpaddmaa
open Go.RowKit

set_option maxHeartbeats 8000000 in
theorem divide_1 {x0 x1 x2 x3 x4 x5 x6 x7 m s L D t0 t1 t2 t3 t4 t5 t6 t7 t8 R0 R1 R2 R3 R4 R5 R6 R7 R8 q0 q1 q2 q3 q4 q5 q6 q7 : Int} (hm : Num m) (L0 : 0 ≤ L) (L1 : L ≤ 256) (eL : lenN m = L) (hL : (L + 63) / 64 = 1) (s0 : 0 ≤ s) (s1 : s ≤ 63)
    (lz : ∀ w, Calls Try.prog 51 #[.int .u64 (l0 m)] w fun e w' => e = .returned (.int .i64 s) ∧ w' = w)
    (eD : upN m s = D) (hn : 9223372036854775808 ≤ l0 D) (vD : val [(l0 D)] = D) (bD : D < 18446744073709551616)
    (wt : Words [t0, t1, t2, t3, t4, t5, t6, t7, t8])
    (li : ∀ w : World, Calls Try.prog 53 #[.agg #[.int .u64 x0, .int .u64 x1, .int .u64 x2, .int .u64 x3, .int .u64 x4, .int .u64 x5, .int .u64 x6, .int .u64 x7], .int .i64 s] w fun e w' => e = .returned (.agg #[.int .u64 t0, .int .u64 t1, .int .u64 t2, .int .u64 t3, .int .u64 t4, .int .u64 t5, .int .u64 t6, .int .u64 t7, .int .u64 t8]) ∧ Below w.heap.size w w')
    (r8 : val [t8] = R8) (g8 : R8 < D)
    (e7 : (t7 + 18446744073709551616 * R8) / D = q7) (r7 : (t7 + 18446744073709551616 * R8) % D = R7) (e6 : (t6 + 18446744073709551616 * R7) / D = q6) (r6 : (t6 + 18446744073709551616 * R7) % D = R6) (e5 : (t5 + 18446744073709551616 * R6) / D = q5) (r5 : (t5 + 18446744073709551616 * R6) % D = R5) (e4 : (t4 + 18446744073709551616 * R5) / D = q4) (r4 : (t4 + 18446744073709551616 * R5) % D = R4) (e3 : (t3 + 18446744073709551616 * R4) / D = q3) (r3 : (t3 + 18446744073709551616 * R4) % D = R3) (e2 : (t2 + 18446744073709551616 * R3) / D = q2) (r2 : (t2 + 18446744073709551616 * R3) % D = R2) (e1 : (t1 + 18446744073709551616 * R2) / D = q1) (r1 : (t1 + 18446744073709551616 * R2) % D = R1) (e0 : (t0 + 18446744073709551616 * R1) / D = q0) (r0 : (t0 + 18446744073709551616 * R1) % D = R0)
    (w : World) :
    Calls Try.prog 41 #[.agg #[.int .u64 x0, .int .u64 x1, .int .u64 x2, .int .u64 x3, .int .u64 x4, .int .u64 x5, .int .u64 x6, .int .u64 x7], .agg #[.int .u64 (l0 m), .int .u64 (l1 m), .int .u64 (l2 m), .int .u64 (l3 m)]] w fun e w' =>
      e = .returned (.tuple #[.agg #[.int .u64 q0, .int .u64 q1, .int .u64 q2, .int .u64 q3, .int .u64 q4, .int .u64 q5, .int .u64 q6, .int .u64 q7], .agg #[.int .u64 (l0 (downN R0 s)), .int .u64 (l1 (downN R0 s)), .int .u64 (l2 (downN R0 s)), .int .u64 (l3 (downN R0 s))]]) ∧ Below w.heap.size w w' := by
  have D0 : 0 < D := by
    have := l0_word D; have := l1_word D; have := l2_word D; have := l3_word D
    unfold Word at *
    rw [← vD]
    simp only [val]
    omega
  have WD : Words [(l0 D)] := by
    intro x hx
    simp only [List.mem_cons, List.not_mem_nil, or_false] at hx
    rcases hx with rfl
    · exact l0_word D
  have n8 : 0 ≤ R8 := by rw [← r8]; exact (val_nonneg (fun x hx => wt x (List.mem_of_mem_drop (show x ∈ [t0, t1, t2, t3, t4, t5, t6, t7, t8].drop 8 from hx)))).1
  have n7 : 0 ≤ R7 := by rw [← r7]; exact Int.emod_nonneg _ (by omega)
  have g7 : R7 < D := by rw [← r7]; exact Int.emod_lt_of_pos _ D0
  have n6 : 0 ≤ R6 := by rw [← r6]; exact Int.emod_nonneg _ (by omega)
  have g6 : R6 < D := by rw [← r6]; exact Int.emod_lt_of_pos _ D0
  have n5 : 0 ≤ R5 := by rw [← r5]; exact Int.emod_nonneg _ (by omega)
  have g5 : R5 < D := by rw [← r5]; exact Int.emod_lt_of_pos _ D0
  have n4 : 0 ≤ R4 := by rw [← r4]; exact Int.emod_nonneg _ (by omega)
  have g4 : R4 < D := by rw [← r4]; exact Int.emod_lt_of_pos _ D0
  have n3 : 0 ≤ R3 := by rw [← r3]; exact Int.emod_nonneg _ (by omega)
  have g3 : R3 < D := by rw [← r3]; exact Int.emod_lt_of_pos _ D0
  have n2 : 0 ≤ R2 := by rw [← r2]; exact Int.emod_nonneg _ (by omega)
  have g2 : R2 < D := by rw [← r2]; exact Int.emod_lt_of_pos _ D0
  have n1 : 0 ≤ R1 := by rw [← r1]; exact Int.emod_nonneg _ (by omega)
  have g1 : R1 < D := by rw [← r1]; exact Int.emod_lt_of_pos _ D0
  have n0 : 0 ≤ R0 := by rw [← r0]; exact Int.emod_nonneg _ (by omega)
  have g0 : R0 < D := by rw [← r0]; exact Int.emod_lt_of_pos _ D0
  have G7 : Hid (∀ (bu bd : Nat), bu ≠ bd → ∀ w, w.cell? ⟨bu, 7, none⟩ = some (.int .u64 t7) → w.cell? ⟨bu, 8, none⟩ = some (.int .u64 (l0 R8)) → w.cell? ⟨bd, 0, none⟩ = some (.int .u64 (l0 D)) → w.frozen? ⟨bu, 7, none⟩ = false → w.frozen? ⟨bu, 8, none⟩ = false → Calls Try.prog 54 #[.slice (some ⟨bu, 7, none⟩) 2 2, .slice (some ⟨bd, 0, none⟩) 1 4] w fun e w' => e = .returned (.int .u64 q7) ∧ Sets bu 7 [(l0 R7), 0] w w') := by
    intro bu bd ne w a0 a1 b0 c0 c1
    have h : val [(l0 R8)] = R8 := by
      simp only [val]; unfold l0; omega
    have vU : val [t7, (l0 R8)] = t7 + 18446744073709551616 * R8 := congrArg (fun v => t7 + 18446744073709551616 * v) h
    have wt7 := wt t7 (by simp)
    have d := digit_1 (o := 7) (ku := 2) (kd := 4) wt7 (l0_word R8) (l0_word D) hn (by rw [vU, vD]; obtain ⟨_, _⟩ := wt7; omega) ne w a0 a1 b0 c0 c1
    rw [vU, vD, e7, r7] at d
    refine d.mono ?_
    rintro e w' ⟨rfl, vs, S, ln, wv, ev⟩
    rw [limbs_1 ln wv ev (by omega)] at S
    exact ⟨rfl, S⟩
  have G6 : Hid (∀ (bu bd : Nat), bu ≠ bd → ∀ w, w.cell? ⟨bu, 6, none⟩ = some (.int .u64 t6) → w.cell? ⟨bu, 7, none⟩ = some (.int .u64 (l0 R7)) → w.cell? ⟨bd, 0, none⟩ = some (.int .u64 (l0 D)) → w.frozen? ⟨bu, 6, none⟩ = false → w.frozen? ⟨bu, 7, none⟩ = false → Calls Try.prog 54 #[.slice (some ⟨bu, 6, none⟩) 2 3, .slice (some ⟨bd, 0, none⟩) 1 4] w fun e w' => e = .returned (.int .u64 q6) ∧ Sets bu 6 [(l0 R6), 0] w w') := by
    intro bu bd ne w a0 a1 b0 c0 c1
    have h : val [(l0 R7)] = R7 := by
      simp only [val]; unfold l0; omega
    have vU : val [t6, (l0 R7)] = t6 + 18446744073709551616 * R7 := congrArg (fun v => t6 + 18446744073709551616 * v) h
    have wt6 := wt t6 (by simp)
    have d := digit_1 (o := 6) (ku := 3) (kd := 4) wt6 (l0_word R7) (l0_word D) hn (by rw [vU, vD]; obtain ⟨_, _⟩ := wt6; omega) ne w a0 a1 b0 c0 c1
    rw [vU, vD, e6, r6] at d
    refine d.mono ?_
    rintro e w' ⟨rfl, vs, S, ln, wv, ev⟩
    rw [limbs_1 ln wv ev (by omega)] at S
    exact ⟨rfl, S⟩
  have G5 : Hid (∀ (bu bd : Nat), bu ≠ bd → ∀ w, w.cell? ⟨bu, 5, none⟩ = some (.int .u64 t5) → w.cell? ⟨bu, 6, none⟩ = some (.int .u64 (l0 R6)) → w.cell? ⟨bd, 0, none⟩ = some (.int .u64 (l0 D)) → w.frozen? ⟨bu, 5, none⟩ = false → w.frozen? ⟨bu, 6, none⟩ = false → Calls Try.prog 54 #[.slice (some ⟨bu, 5, none⟩) 2 4, .slice (some ⟨bd, 0, none⟩) 1 4] w fun e w' => e = .returned (.int .u64 q5) ∧ Sets bu 5 [(l0 R5), 0] w w') := by
    intro bu bd ne w a0 a1 b0 c0 c1
    have h : val [(l0 R6)] = R6 := by
      simp only [val]; unfold l0; omega
    have vU : val [t5, (l0 R6)] = t5 + 18446744073709551616 * R6 := congrArg (fun v => t5 + 18446744073709551616 * v) h
    have wt5 := wt t5 (by simp)
    have d := digit_1 (o := 5) (ku := 4) (kd := 4) wt5 (l0_word R6) (l0_word D) hn (by rw [vU, vD]; obtain ⟨_, _⟩ := wt5; omega) ne w a0 a1 b0 c0 c1
    rw [vU, vD, e5, r5] at d
    refine d.mono ?_
    rintro e w' ⟨rfl, vs, S, ln, wv, ev⟩
    rw [limbs_1 ln wv ev (by omega)] at S
    exact ⟨rfl, S⟩
  have G4 : Hid (∀ (bu bd : Nat), bu ≠ bd → ∀ w, w.cell? ⟨bu, 4, none⟩ = some (.int .u64 t4) → w.cell? ⟨bu, 5, none⟩ = some (.int .u64 (l0 R5)) → w.cell? ⟨bd, 0, none⟩ = some (.int .u64 (l0 D)) → w.frozen? ⟨bu, 4, none⟩ = false → w.frozen? ⟨bu, 5, none⟩ = false → Calls Try.prog 54 #[.slice (some ⟨bu, 4, none⟩) 2 5, .slice (some ⟨bd, 0, none⟩) 1 4] w fun e w' => e = .returned (.int .u64 q4) ∧ Sets bu 4 [(l0 R4), 0] w w') := by
    intro bu bd ne w a0 a1 b0 c0 c1
    have h : val [(l0 R5)] = R5 := by
      simp only [val]; unfold l0; omega
    have vU : val [t4, (l0 R5)] = t4 + 18446744073709551616 * R5 := congrArg (fun v => t4 + 18446744073709551616 * v) h
    have wt4 := wt t4 (by simp)
    have d := digit_1 (o := 4) (ku := 5) (kd := 4) wt4 (l0_word R5) (l0_word D) hn (by rw [vU, vD]; obtain ⟨_, _⟩ := wt4; omega) ne w a0 a1 b0 c0 c1
    rw [vU, vD, e4, r4] at d
    refine d.mono ?_
    rintro e w' ⟨rfl, vs, S, ln, wv, ev⟩
    rw [limbs_1 ln wv ev (by omega)] at S
    exact ⟨rfl, S⟩
  have G3 : Hid (∀ (bu bd : Nat), bu ≠ bd → ∀ w, w.cell? ⟨bu, 3, none⟩ = some (.int .u64 t3) → w.cell? ⟨bu, 4, none⟩ = some (.int .u64 (l0 R4)) → w.cell? ⟨bd, 0, none⟩ = some (.int .u64 (l0 D)) → w.frozen? ⟨bu, 3, none⟩ = false → w.frozen? ⟨bu, 4, none⟩ = false → Calls Try.prog 54 #[.slice (some ⟨bu, 3, none⟩) 2 6, .slice (some ⟨bd, 0, none⟩) 1 4] w fun e w' => e = .returned (.int .u64 q3) ∧ Sets bu 3 [(l0 R3), 0] w w') := by
    intro bu bd ne w a0 a1 b0 c0 c1
    have h : val [(l0 R4)] = R4 := by
      simp only [val]; unfold l0; omega
    have vU : val [t3, (l0 R4)] = t3 + 18446744073709551616 * R4 := congrArg (fun v => t3 + 18446744073709551616 * v) h
    have wt3 := wt t3 (by simp)
    have d := digit_1 (o := 3) (ku := 6) (kd := 4) wt3 (l0_word R4) (l0_word D) hn (by rw [vU, vD]; obtain ⟨_, _⟩ := wt3; omega) ne w a0 a1 b0 c0 c1
    rw [vU, vD, e3, r3] at d
    refine d.mono ?_
    rintro e w' ⟨rfl, vs, S, ln, wv, ev⟩
    rw [limbs_1 ln wv ev (by omega)] at S
    exact ⟨rfl, S⟩
  have G2 : Hid (∀ (bu bd : Nat), bu ≠ bd → ∀ w, w.cell? ⟨bu, 2, none⟩ = some (.int .u64 t2) → w.cell? ⟨bu, 3, none⟩ = some (.int .u64 (l0 R3)) → w.cell? ⟨bd, 0, none⟩ = some (.int .u64 (l0 D)) → w.frozen? ⟨bu, 2, none⟩ = false → w.frozen? ⟨bu, 3, none⟩ = false → Calls Try.prog 54 #[.slice (some ⟨bu, 2, none⟩) 2 7, .slice (some ⟨bd, 0, none⟩) 1 4] w fun e w' => e = .returned (.int .u64 q2) ∧ Sets bu 2 [(l0 R2), 0] w w') := by
    intro bu bd ne w a0 a1 b0 c0 c1
    have h : val [(l0 R3)] = R3 := by
      simp only [val]; unfold l0; omega
    have vU : val [t2, (l0 R3)] = t2 + 18446744073709551616 * R3 := congrArg (fun v => t2 + 18446744073709551616 * v) h
    have wt2 := wt t2 (by simp)
    have d := digit_1 (o := 2) (ku := 7) (kd := 4) wt2 (l0_word R3) (l0_word D) hn (by rw [vU, vD]; obtain ⟨_, _⟩ := wt2; omega) ne w a0 a1 b0 c0 c1
    rw [vU, vD, e2, r2] at d
    refine d.mono ?_
    rintro e w' ⟨rfl, vs, S, ln, wv, ev⟩
    rw [limbs_1 ln wv ev (by omega)] at S
    exact ⟨rfl, S⟩
  have G1 : Hid (∀ (bu bd : Nat), bu ≠ bd → ∀ w, w.cell? ⟨bu, 1, none⟩ = some (.int .u64 t1) → w.cell? ⟨bu, 2, none⟩ = some (.int .u64 (l0 R2)) → w.cell? ⟨bd, 0, none⟩ = some (.int .u64 (l0 D)) → w.frozen? ⟨bu, 1, none⟩ = false → w.frozen? ⟨bu, 2, none⟩ = false → Calls Try.prog 54 #[.slice (some ⟨bu, 1, none⟩) 2 8, .slice (some ⟨bd, 0, none⟩) 1 4] w fun e w' => e = .returned (.int .u64 q1) ∧ Sets bu 1 [(l0 R1), 0] w w') := by
    intro bu bd ne w a0 a1 b0 c0 c1
    have h : val [(l0 R2)] = R2 := by
      simp only [val]; unfold l0; omega
    have vU : val [t1, (l0 R2)] = t1 + 18446744073709551616 * R2 := congrArg (fun v => t1 + 18446744073709551616 * v) h
    have wt1 := wt t1 (by simp)
    have d := digit_1 (o := 1) (ku := 8) (kd := 4) wt1 (l0_word R2) (l0_word D) hn (by rw [vU, vD]; obtain ⟨_, _⟩ := wt1; omega) ne w a0 a1 b0 c0 c1
    rw [vU, vD, e1, r1] at d
    refine d.mono ?_
    rintro e w' ⟨rfl, vs, S, ln, wv, ev⟩
    rw [limbs_1 ln wv ev (by omega)] at S
    exact ⟨rfl, S⟩
  have G0 : Hid (∀ (bu bd : Nat), bu ≠ bd → ∀ w, w.cell? ⟨bu, 0, none⟩ = some (.int .u64 t0) → w.cell? ⟨bu, 1, none⟩ = some (.int .u64 (l0 R1)) → w.cell? ⟨bd, 0, none⟩ = some (.int .u64 (l0 D)) → w.frozen? ⟨bu, 0, none⟩ = false → w.frozen? ⟨bu, 1, none⟩ = false → Calls Try.prog 54 #[.slice (some ⟨bu, 0, none⟩) 2 9, .slice (some ⟨bd, 0, none⟩) 1 4] w fun e w' => e = .returned (.int .u64 q0) ∧ Sets bu 0 [(l0 R0), 0] w w') := by
    intro bu bd ne w a0 a1 b0 c0 c1
    have h : val [(l0 R1)] = R1 := by
      simp only [val]; unfold l0; omega
    have vU : val [t0, (l0 R1)] = t0 + 18446744073709551616 * R1 := congrArg (fun v => t0 + 18446744073709551616 * v) h
    have wt0 := wt t0 (by simp)
    have d := digit_1 (o := 0) (ku := 9) (kd := 4) wt0 (l0_word R1) (l0_word D) hn (by rw [vU, vD]; obtain ⟨_, _⟩ := wt0; omega) ne w a0 a1 b0 c0 c1
    rw [vU, vD, e0, r0] at d
    refine d.mono ?_
    rintro e w' ⟨rfl, vs, S, ln, wv, ev⟩
    rw [limbs_1 ln wv ev (by omega)] at S
    exact ⟨rfl, S⟩
  have tops : t8 = l0 R8 := by
    obtain ⟨_, _⟩ := wt t8 (by simp)
    rw [← r8]
    simp only [val]
    unfold l0
    omega
  have SR : Hid (∀ w, Calls Try.prog 8 #[.agg #[.int .u64 (l0 R0), .int .u64 (l1 R0), .int .u64 (l2 R0), .int .u64 (l3 R0)], .int .i64 s] w fun e w' => e = .returned (.agg #[.int .u64 (l0 (downN R0 s)), .int .u64 (l1 (downN R0 s)), .int .u64 (l2 (downN R0 s)), .int .u64 (l3 (downN R0 s))]) ∧ Below w.heap.size w w') := fun w => shr_near ⟨n0, by omega⟩ s0 (by omega) w
  have LZ : Hid (∀ w, Calls Try.prog 51 #[.int .u64 (l0 m)] w fun e w' => e = .returned (.int .i64 s) ∧ w' = w) := lz
  have LI : Hid (∀ w : World, Calls Try.prog 53 #[.agg #[.int .u64 x0, .int .u64 x1, .int .u64 x2, .int .u64 x3, .int .u64 x4, .int .u64 x5, .int .u64 x6, .int .u64 x7], .int .i64 s] w fun e w' => e = .returned (.agg #[.int .u64 t0, .int .u64 t1, .int .u64 t2, .int .u64 t3, .int .u64 t4, .int .u64 t5, .int .u64 t6, .int .u64 t7, .int .u64 t8]) ∧ Below w.heap.size w w') := li
  have LE := len_any hm
  rw [eL] at LE
  have LE' : Hid (∀ w, Calls Try.prog 50 #[.agg #[.int .u64 (l0 m), .int .u64 (l1 m), .int .u64 (l2 m), .int .u64 (l3 m)]] w fun e w' => e = .returned (.int .i64 L) ∧ Below w.heap.size w w') := LE
  have SH := fun w => shl_near (n := m) hm s0 (by omega) w
  rw [eD] at SH
  have SH' : Hid (∀ w, Calls Try.prog 52 #[.agg #[.int .u64 (l0 m), .int .u64 (l1 m), .int .u64 (l2 m), .int .u64 (l3 m)], .int .i64 s] w fun e w' => e = .returned (.agg #[.int .u64 (l0 D), .int .u64 (l1 D), .int .u64 (l2 D), .int .u64 (l3 D)]) ∧ Below w.heap.size w w') := SH
  have TT : Hid (t8 = l0 R8) := tops
  have RR : Hid (R0 < 18446744073709551616 ∧ 0 ≤ R0) := ⟨by omega, n0⟩
  clear lz li LE SH eL eD hm hn vD bD wt tops WD D0 r0 g0 n0 r1 g1 n1 r2 g2 n2 r3 g3 n3 r4 g4 n4 r5 g5 n5 r6 g6 n6 r7 g7 n7 r8 g8 n8 e0 e1 e2 e3 e4 e5 e6 e7
  go_enter Try.func41, Try.ntmps41
  go_wp2_with fail
  refine calls_world (fun W => Below w.heap.size w W ∧ Row W w.heap.size [x0, x1, x2, x3, x4, x5, x6, x7] ∧ Hold W (w.heap.size + 1) m ∧ Row W (w.heap.size + 1 + 1) [0, 0, 0, 0, 0, 0, 0, 0] ∧ Loose W (w.heap.size + 1 + 1) 8 ∧ Row W (w.heap.size + 1 + 1 + 1) [0, 0, 0, 0] ∧ Loose W (w.heap.size + 1 + 1 + 1) 4 ∧ w.heap.size + 1 + 1 + 1 < W.heap.size) ⟨?_, ?_, ?_, ?_, ?_, ?_, ?_, ?_⟩ ?_
  · repeat (first | with_reducible exact Below.refl _ _ | with_reducible refine Below.alloc ?_ (by first | omega | (simp; done) | (simp; omega)) _)
  · exact (((Row.new w [x0, x1, x2, x3, x4, x5, x6, x7] _).alloc _).alloc _).alloc _
  · have := Hold.new (w.alloc (.cells #[.int .u64 x0, .int .u64 x1, .int .u64 x2, .int .u64 x3, .int .u64 x4, .int .u64 x5, .int .u64 x6, .int .u64 x7] 61)) m 24
    simp at this
    exact (this.alloc _).alloc _
  · have := Row.new ((w.alloc (.cells #[.int .u64 x0, .int .u64 x1, .int .u64 x2, .int .u64 x3, .int .u64 x4, .int .u64 x5, .int .u64 x6, .int .u64 x7] 61)).alloc (.cells #[.int .u64 (l0 m), .int .u64 (l1 m), .int .u64 (l2 m), .int .u64 (l3 m)] 24)) [0, 0, 0, 0, 0, 0, 0, 0] 61
    simp at this
    exact this.alloc _
  · have := Loose.new ((w.alloc (.cells #[.int .u64 x0, .int .u64 x1, .int .u64 x2, .int .u64 x3, .int .u64 x4, .int .u64 x5, .int .u64 x6, .int .u64 x7] 61)).alloc (.cells #[.int .u64 (l0 m), .int .u64 (l1 m), .int .u64 (l2 m), .int .u64 (l3 m)] 24)) #[.int .u64 0, .int .u64 0, .int .u64 0, .int .u64 0, .int .u64 0, .int .u64 0, .int .u64 0, .int .u64 0] 61 8
    simp at this
    exact this.alloc (by simp) _
  · have := Row.new (((w.alloc (.cells #[.int .u64 x0, .int .u64 x1, .int .u64 x2, .int .u64 x3, .int .u64 x4, .int .u64 x5, .int .u64 x6, .int .u64 x7] 61)).alloc (.cells #[.int .u64 (l0 m), .int .u64 (l1 m), .int .u64 (l2 m), .int .u64 (l3 m)] 24)).alloc (.cells #[.int .u64 0, .int .u64 0, .int .u64 0, .int .u64 0, .int .u64 0, .int .u64 0, .int .u64 0, .int .u64 0] 61)) [0, 0, 0, 0] 24
    simp at this
    exact this
  · have := Loose.new (((w.alloc (.cells #[.int .u64 x0, .int .u64 x1, .int .u64 x2, .int .u64 x3, .int .u64 x4, .int .u64 x5, .int .u64 x6, .int .u64 x7] 61)).alloc (.cells #[.int .u64 (l0 m), .int .u64 (l1 m), .int .u64 (l2 m), .int .u64 (l3 m)] 24)).alloc (.cells #[.int .u64 0, .int .u64 0, .int .u64 0, .int .u64 0, .int .u64 0, .int .u64 0, .int .u64 0, .int .u64 0] 61)) #[.int .u64 0, .int .u64 0, .int .u64 0, .int .u64 0] 24 4
    simp at this
    exact this
  · simp
  rintro W ⟨B, hX, hM, hQ, lQ, hR, lR, hlt⟩
  have o1 : w.heap.size ≤ w.heap.size + 1 + 1 := by omega
  have o2 : w.heap.size ≤ w.heap.size + 1 + 1 + 1 := by omega
  have o3 : w.heap.size + 1 + 1 < w.heap.size + 1 + 1 + 1 := by omega
  generalize w.heap.size + 1 + 1 + 1 = br at *
  generalize w.heap.size + 1 + 1 = bq at *
  generalize w.heap.size + 1 = bm at *
  refine (LE'.out W).mono ?_
  rintro e w1 ⟨rfl, hb⟩
  replace B := B.trans (hb.mono B.size)
  replace lQ := lQ.keep hb (by omega); replace lR := lR.keep hb (by omega)
  replace hX := hX.keep hb; replace hM := hM.keep hb; replace hQ := hQ.keep hb; replace hR := hR.keep hb
  replace hlt := Nat.lt_of_lt_of_le hlt hb.size
  clear hb W LE'
  have gM := hM.cells
  go_wp2_with fail
  refine (LZ.out _).mono ?_
  rintro e w' ⟨rfl, rfl⟩
  go_wp2_with fail
  refine (SH'.out _).mono ?_
  rintro e w2 ⟨rfl, hb⟩
  replace B := B.trans (hb.mono B.size)
  replace lQ := lQ.keep hb (by omega); replace lR := lR.keep hb (by omega)
  replace hX := hX.keep hb; replace hQ := hQ.keep hb; replace hR := hR.keep hb
  replace hlt := Nat.lt_of_lt_of_le hlt hb.size
  clear hb gM hM SH' LZ
  have gX : ∀ o, (w2.alloc o).cell? ⟨w.heap.size, 0, none⟩ = some (.int .u64 x0) ∧ (w2.alloc o).cell? ⟨w.heap.size, 1, none⟩ = some (.int .u64 x1) ∧ (w2.alloc o).cell? ⟨w.heap.size, 2, none⟩ = some (.int .u64 x2) ∧ (w2.alloc o).cell? ⟨w.heap.size, 3, none⟩ = some (.int .u64 x3) ∧ (w2.alloc o).cell? ⟨w.heap.size, 4, none⟩ = some (.int .u64 x4) ∧ (w2.alloc o).cell? ⟨w.heap.size, 5, none⟩ = some (.int .u64 x5) ∧ (w2.alloc o).cell? ⟨w.heap.size, 6, none⟩ = some (.int .u64 x6) ∧ (w2.alloc o).cell? ⟨w.heap.size, 7, none⟩ = some (.int .u64 x7) := fun o => ⟨(hX.alloc o) 0 (by simp), (hX.alloc o) 1 (by simp), (hX.alloc o) 2 (by simp), (hX.alloc o) 3 (by simp), (hX.alloc o) 4 (by simp), (hX.alloc o) 5 (by simp), (hX.alloc o) 6 (by simp), (hX.alloc o) 7 (by simp)⟩
  go_wp2_with fail
  refine calls_world (fun W => Below w.heap.size w W ∧ Row W bq [0, 0, 0, 0, 0, 0, 0, 0] ∧ Loose W bq 8 ∧ Row W br [0, 0, 0, 0] ∧ Loose W br 4 ∧ br < W.heap.size ∧ Row W w2.heap.size [(l0 D), (l1 D), (l2 D), (l3 D)] ∧ w2.heap.size < W.heap.size ∧ br < w2.heap.size) ⟨B.alloc B.size _, hQ.alloc _, lQ.alloc (by omega) _, hR.alloc _, lR.alloc (by omega) _, by simp; omega, Row.new w2 [(l0 D), (l1 D), (l2 D), (l3 D)] _, by simp, hlt⟩ ?_
  clear B hX hQ lQ hR lR gX hlt
  rintro W ⟨B, hQ, lQ, hR, lR, hlt, hD, hlt2, o4⟩
  generalize w2.heap.size = bd at *
  refine (LI.out W).mono ?_
  rintro e w3 ⟨rfl, hb⟩
  replace B := B.trans (hb.mono B.size)
  replace lQ := lQ.keep hb (by omega); replace lR := lR.keep hb (by omega)
  replace hD := hD.keep hb; replace hQ := hQ.keep hb; replace hR := hR.keep hb
  replace hlt2 := Nat.lt_of_lt_of_le hlt2 hb.size
  clear hb hlt LI
  go_wp2_with fail
  refine wp_world (fun W => Below w.heap.size w W ∧ Row W bq [0, 0, 0, 0, 0, 0, 0, 0] ∧ Loose W bq 8 ∧ Row W br [0, 0, 0, 0] ∧ Loose W br 4 ∧ Row W bd [(l0 D), (l1 D), (l2 D), (l3 D)] ∧ Row W w3.heap.size [t0, t1, t2, t3, t4, t5, t6, t7, t8] ∧ Loose W w3.heap.size 9 ∧ bd < w3.heap.size) ⟨B.alloc B.size _, hQ.alloc _, lQ.alloc (by omega) _, hR.alloc _, lR.alloc (by omega) _, hD.alloc _, Row.new w3 [t0, t1, t2, t3, t4, t5, t6, t7, t8] _, Loose.new w3 _ _ 9, hlt2⟩ ?_
  clear B hQ lQ hR lR hD hlt2
  rintro W ⟨B, hQ, lQ, hR, lR, hD, hU, lU, o5⟩
  generalize w3.heap.size = bu at *
  have o6 : w.heap.size ≤ bu := by omega
  have c1 : bu ≠ bd := by omega
  have c2 : bq ≠ bu := by omega
  have c3 : br ≠ bu := by omega
  have c4 : bq ≠ bd := by omega
  have c5 : br ≠ bd := by omega
  have c6 : bq ≠ br := by omega
  have c2' := Ne.symm c2
  have c6' := Ne.symm c6
  clear o3 o4 o5
  rw [TT.out] at hU
  clear TT
  have wr : IntKind.i64.wrap 0 = 0 ∧ IntKind.i64.wrap 1 = 1 ∧ IntKind.i64.wrap 2 = 2 ∧ IntKind.i64.wrap 3 = 3 ∧ IntKind.i64.wrap 4 = 4 ∧ IntKind.i64.wrap 5 = 5 ∧ IntKind.i64.wrap 6 = 6 ∧ IntKind.i64.wrap 7 = 7 ∧ IntKind.i64.wrap 8 = 8 ∧ IntKind.i64.wrap 9 = 9 := by decide
  refine wp_loop_rounds 9 ?_
  -- digit 7
  have gq : W.cell? ⟨bq, 7, none⟩ = some (.int .u64 0) ∧ W.frozen? ⟨bq, 7, none⟩ = false := ⟨hQ 7 (by simp), lQ 7 (by simp)⟩
  have GG : Hid (Calls Try.prog 54 #[.slice (some ⟨bu, 7, none⟩) 2 2, .slice (some ⟨bd, 0, none⟩) 1 4] W.drew fun e w' => e = .returned (.int .u64 q7) ∧ Sets bu 7 [(l0 R7), 0] W.drew w') := G7.out bu bd c1 W.drew (hU 7 (by simp)) (hU 8 (by simp)) (hD 0 (by simp)) (lU 7 (by simp)) (lU 8 (by simp))
  clear G7
  rw [rounds_succ]; go_wp2
  go_region_with (go_at_call 54; refine GG.out.mono ?_; rintro e w' ⟨rfl, S⟩; have sq := S.other (p := ⟨bq, 7, none⟩) c2; have sf := S.frozen)
  go_wp2
  replace S := (Sets.ofDraws (n := 1) S)
  refine rounds_world (fun W' => Below w.heap.size w W' ∧ Row W' bq [0, 0, 0, 0, 0, 0, 0, q7] ∧ Loose W' bq 8 ∧ Row W' br [0, 0, 0, 0] ∧ Loose W' br 4 ∧ Row W' bd [(l0 D), (l1 D), (l2 D), (l3 D)] ∧ Row W' bu [t0, t1, t2, t3, t4, t5, t6, (l0 R7), 0] ∧ Loose W' bu 9) ⟨(B.trans (S.below o6)).setCell o1 _, (hQ.other S c2).set 7 (by simp) _, (lQ.sets S).set _ _, (hR.other S c3).setOther c6 _, (lR.sets S).set _ _, (hD.other S (Ne.symm c1)).setOther c4 _, (hU.sets S (by simp)).setOther c2 _, (lU.sets S).set _ _⟩ ?_
  clear B hQ lQ hR lR hD hU lU gq GG sq sf S w'
  rintro W' ⟨B, hQ, lQ, hR, lR, hD, hU, lU⟩
  clear W
  generalize W' = W at *
  -- digit 6
  have gq : W.cell? ⟨bq, 6, none⟩ = some (.int .u64 0) ∧ W.frozen? ⟨bq, 6, none⟩ = false := ⟨hQ 6 (by simp), lQ 6 (by simp)⟩
  have GG : Hid (Calls Try.prog 54 #[.slice (some ⟨bu, 6, none⟩) 2 3, .slice (some ⟨bd, 0, none⟩) 1 4] W.drew fun e w' => e = .returned (.int .u64 q6) ∧ Sets bu 6 [(l0 R6), 0] W.drew w') := G6.out bu bd c1 W.drew (hU 6 (by simp)) (hU 7 (by simp)) (hD 0 (by simp)) (lU 6 (by simp)) (lU 7 (by simp))
  clear G6
  rw [rounds_succ]; go_wp2
  go_region_with (go_at_call 54; refine GG.out.mono ?_; rintro e w' ⟨rfl, S⟩; have sq := S.other (p := ⟨bq, 6, none⟩) c2; have sf := S.frozen)
  go_wp2
  replace S := (Sets.ofDraws (n := 1) S)
  refine rounds_world (fun W' => Below w.heap.size w W' ∧ Row W' bq [0, 0, 0, 0, 0, 0, q6, q7] ∧ Loose W' bq 8 ∧ Row W' br [0, 0, 0, 0] ∧ Loose W' br 4 ∧ Row W' bd [(l0 D), (l1 D), (l2 D), (l3 D)] ∧ Row W' bu [t0, t1, t2, t3, t4, t5, (l0 R6), 0, 0] ∧ Loose W' bu 9) ⟨(B.trans (S.below o6)).setCell o1 _, (hQ.other S c2).set 6 (by simp) _, (lQ.sets S).set _ _, (hR.other S c3).setOther c6 _, (lR.sets S).set _ _, (hD.other S (Ne.symm c1)).setOther c4 _, (hU.sets S (by simp)).setOther c2 _, (lU.sets S).set _ _⟩ ?_
  clear B hQ lQ hR lR hD hU lU gq GG sq sf S w'
  rintro W' ⟨B, hQ, lQ, hR, lR, hD, hU, lU⟩
  clear W
  generalize W' = W at *
  -- digit 5
  have gq : W.cell? ⟨bq, 5, none⟩ = some (.int .u64 0) ∧ W.frozen? ⟨bq, 5, none⟩ = false := ⟨hQ 5 (by simp), lQ 5 (by simp)⟩
  have GG : Hid (Calls Try.prog 54 #[.slice (some ⟨bu, 5, none⟩) 2 4, .slice (some ⟨bd, 0, none⟩) 1 4] W.drew fun e w' => e = .returned (.int .u64 q5) ∧ Sets bu 5 [(l0 R5), 0] W.drew w') := G5.out bu bd c1 W.drew (hU 5 (by simp)) (hU 6 (by simp)) (hD 0 (by simp)) (lU 5 (by simp)) (lU 6 (by simp))
  clear G5
  rw [rounds_succ]; go_wp2
  go_region_with (go_at_call 54; refine GG.out.mono ?_; rintro e w' ⟨rfl, S⟩; have sq := S.other (p := ⟨bq, 5, none⟩) c2; have sf := S.frozen)
  go_wp2
  replace S := (Sets.ofDraws (n := 1) S)
  refine rounds_world (fun W' => Below w.heap.size w W' ∧ Row W' bq [0, 0, 0, 0, 0, q5, q6, q7] ∧ Loose W' bq 8 ∧ Row W' br [0, 0, 0, 0] ∧ Loose W' br 4 ∧ Row W' bd [(l0 D), (l1 D), (l2 D), (l3 D)] ∧ Row W' bu [t0, t1, t2, t3, t4, (l0 R5), 0, 0, 0] ∧ Loose W' bu 9) ⟨(B.trans (S.below o6)).setCell o1 _, (hQ.other S c2).set 5 (by simp) _, (lQ.sets S).set _ _, (hR.other S c3).setOther c6 _, (lR.sets S).set _ _, (hD.other S (Ne.symm c1)).setOther c4 _, (hU.sets S (by simp)).setOther c2 _, (lU.sets S).set _ _⟩ ?_
  clear B hQ lQ hR lR hD hU lU gq GG sq sf S w'
  rintro W' ⟨B, hQ, lQ, hR, lR, hD, hU, lU⟩
  clear W
  generalize W' = W at *
  -- digit 4
  have gq : W.cell? ⟨bq, 4, none⟩ = some (.int .u64 0) ∧ W.frozen? ⟨bq, 4, none⟩ = false := ⟨hQ 4 (by simp), lQ 4 (by simp)⟩
  have GG : Hid (Calls Try.prog 54 #[.slice (some ⟨bu, 4, none⟩) 2 5, .slice (some ⟨bd, 0, none⟩) 1 4] W.drew fun e w' => e = .returned (.int .u64 q4) ∧ Sets bu 4 [(l0 R4), 0] W.drew w') := G4.out bu bd c1 W.drew (hU 4 (by simp)) (hU 5 (by simp)) (hD 0 (by simp)) (lU 4 (by simp)) (lU 5 (by simp))
  clear G4
  rw [rounds_succ]; go_wp2
  go_region_with (go_at_call 54; refine GG.out.mono ?_; rintro e w' ⟨rfl, S⟩; have sq := S.other (p := ⟨bq, 4, none⟩) c2; have sf := S.frozen)
  go_wp2
  replace S := (Sets.ofDraws (n := 1) S)
  refine rounds_world (fun W' => Below w.heap.size w W' ∧ Row W' bq [0, 0, 0, 0, q4, q5, q6, q7] ∧ Loose W' bq 8 ∧ Row W' br [0, 0, 0, 0] ∧ Loose W' br 4 ∧ Row W' bd [(l0 D), (l1 D), (l2 D), (l3 D)] ∧ Row W' bu [t0, t1, t2, t3, (l0 R4), 0, 0, 0, 0] ∧ Loose W' bu 9) ⟨(B.trans (S.below o6)).setCell o1 _, (hQ.other S c2).set 4 (by simp) _, (lQ.sets S).set _ _, (hR.other S c3).setOther c6 _, (lR.sets S).set _ _, (hD.other S (Ne.symm c1)).setOther c4 _, (hU.sets S (by simp)).setOther c2 _, (lU.sets S).set _ _⟩ ?_
  clear B hQ lQ hR lR hD hU lU gq GG sq sf S w'
  rintro W' ⟨B, hQ, lQ, hR, lR, hD, hU, lU⟩
  clear W
  generalize W' = W at *
  -- digit 3
  have gq : W.cell? ⟨bq, 3, none⟩ = some (.int .u64 0) ∧ W.frozen? ⟨bq, 3, none⟩ = false := ⟨hQ 3 (by simp), lQ 3 (by simp)⟩
  have GG : Hid (Calls Try.prog 54 #[.slice (some ⟨bu, 3, none⟩) 2 6, .slice (some ⟨bd, 0, none⟩) 1 4] W.drew fun e w' => e = .returned (.int .u64 q3) ∧ Sets bu 3 [(l0 R3), 0] W.drew w') := G3.out bu bd c1 W.drew (hU 3 (by simp)) (hU 4 (by simp)) (hD 0 (by simp)) (lU 3 (by simp)) (lU 4 (by simp))
  clear G3
  rw [rounds_succ]; go_wp2
  go_region_with (go_at_call 54; refine GG.out.mono ?_; rintro e w' ⟨rfl, S⟩; have sq := S.other (p := ⟨bq, 3, none⟩) c2; have sf := S.frozen)
  go_wp2
  replace S := (Sets.ofDraws (n := 1) S)
  refine rounds_world (fun W' => Below w.heap.size w W' ∧ Row W' bq [0, 0, 0, q3, q4, q5, q6, q7] ∧ Loose W' bq 8 ∧ Row W' br [0, 0, 0, 0] ∧ Loose W' br 4 ∧ Row W' bd [(l0 D), (l1 D), (l2 D), (l3 D)] ∧ Row W' bu [t0, t1, t2, (l0 R3), 0, 0, 0, 0, 0] ∧ Loose W' bu 9) ⟨(B.trans (S.below o6)).setCell o1 _, (hQ.other S c2).set 3 (by simp) _, (lQ.sets S).set _ _, (hR.other S c3).setOther c6 _, (lR.sets S).set _ _, (hD.other S (Ne.symm c1)).setOther c4 _, (hU.sets S (by simp)).setOther c2 _, (lU.sets S).set _ _⟩ ?_
  clear B hQ lQ hR lR hD hU lU gq GG sq sf S w'
  rintro W' ⟨B, hQ, lQ, hR, lR, hD, hU, lU⟩
  clear W
  generalize W' = W at *
  -- digit 2
  have gq : W.cell? ⟨bq, 2, none⟩ = some (.int .u64 0) ∧ W.frozen? ⟨bq, 2, none⟩ = false := ⟨hQ 2 (by simp), lQ 2 (by simp)⟩
  have GG : Hid (Calls Try.prog 54 #[.slice (some ⟨bu, 2, none⟩) 2 7, .slice (some ⟨bd, 0, none⟩) 1 4] W.drew fun e w' => e = .returned (.int .u64 q2) ∧ Sets bu 2 [(l0 R2), 0] W.drew w') := G2.out bu bd c1 W.drew (hU 2 (by simp)) (hU 3 (by simp)) (hD 0 (by simp)) (lU 2 (by simp)) (lU 3 (by simp))
  clear G2
  rw [rounds_succ]; go_wp2
  go_region_with (go_at_call 54; refine GG.out.mono ?_; rintro e w' ⟨rfl, S⟩; have sq := S.other (p := ⟨bq, 2, none⟩) c2; have sf := S.frozen)
  go_wp2
  replace S := (Sets.ofDraws (n := 1) S)
  refine rounds_world (fun W' => Below w.heap.size w W' ∧ Row W' bq [0, 0, q2, q3, q4, q5, q6, q7] ∧ Loose W' bq 8 ∧ Row W' br [0, 0, 0, 0] ∧ Loose W' br 4 ∧ Row W' bd [(l0 D), (l1 D), (l2 D), (l3 D)] ∧ Row W' bu [t0, t1, (l0 R2), 0, 0, 0, 0, 0, 0] ∧ Loose W' bu 9) ⟨(B.trans (S.below o6)).setCell o1 _, (hQ.other S c2).set 2 (by simp) _, (lQ.sets S).set _ _, (hR.other S c3).setOther c6 _, (lR.sets S).set _ _, (hD.other S (Ne.symm c1)).setOther c4 _, (hU.sets S (by simp)).setOther c2 _, (lU.sets S).set _ _⟩ ?_
  clear B hQ lQ hR lR hD hU lU gq GG sq sf S w'
  rintro W' ⟨B, hQ, lQ, hR, lR, hD, hU, lU⟩
  clear W
  generalize W' = W at *
  -- digit 1
  have gq : W.cell? ⟨bq, 1, none⟩ = some (.int .u64 0) ∧ W.frozen? ⟨bq, 1, none⟩ = false := ⟨hQ 1 (by simp), lQ 1 (by simp)⟩
  have GG : Hid (Calls Try.prog 54 #[.slice (some ⟨bu, 1, none⟩) 2 8, .slice (some ⟨bd, 0, none⟩) 1 4] W.drew fun e w' => e = .returned (.int .u64 q1) ∧ Sets bu 1 [(l0 R1), 0] W.drew w') := G1.out bu bd c1 W.drew (hU 1 (by simp)) (hU 2 (by simp)) (hD 0 (by simp)) (lU 1 (by simp)) (lU 2 (by simp))
  clear G1
  rw [rounds_succ]; go_wp2
  go_region_with (go_at_call 54; refine GG.out.mono ?_; rintro e w' ⟨rfl, S⟩; have sq := S.other (p := ⟨bq, 1, none⟩) c2; have sf := S.frozen)
  go_wp2
  replace S := (Sets.ofDraws (n := 1) S)
  refine rounds_world (fun W' => Below w.heap.size w W' ∧ Row W' bq [0, q1, q2, q3, q4, q5, q6, q7] ∧ Loose W' bq 8 ∧ Row W' br [0, 0, 0, 0] ∧ Loose W' br 4 ∧ Row W' bd [(l0 D), (l1 D), (l2 D), (l3 D)] ∧ Row W' bu [t0, (l0 R1), 0, 0, 0, 0, 0, 0, 0] ∧ Loose W' bu 9) ⟨(B.trans (S.below o6)).setCell o1 _, (hQ.other S c2).set 1 (by simp) _, (lQ.sets S).set _ _, (hR.other S c3).setOther c6 _, (lR.sets S).set _ _, (hD.other S (Ne.symm c1)).setOther c4 _, (hU.sets S (by simp)).setOther c2 _, (lU.sets S).set _ _⟩ ?_
  clear B hQ lQ hR lR hD hU lU gq GG sq sf S w'
  rintro W' ⟨B, hQ, lQ, hR, lR, hD, hU, lU⟩
  clear W
  generalize W' = W at *
  -- digit 0
  have gq : W.cell? ⟨bq, 0, none⟩ = some (.int .u64 0) ∧ W.frozen? ⟨bq, 0, none⟩ = false := ⟨hQ 0 (by simp), lQ 0 (by simp)⟩
  have GG : Hid (Calls Try.prog 54 #[.slice (some ⟨bu, 0, none⟩) 2 9, .slice (some ⟨bd, 0, none⟩) 1 4] W.drew fun e w' => e = .returned (.int .u64 q0) ∧ Sets bu 0 [(l0 R0), 0] W.drew w') := G0.out bu bd c1 W.drew (hU 0 (by simp)) (hU 1 (by simp)) (hD 0 (by simp)) (lU 0 (by simp)) (lU 1 (by simp))
  clear G0
  rw [rounds_succ]; go_wp2
  go_region_with (go_at_call 54; refine GG.out.mono ?_; rintro e w' ⟨rfl, S⟩; have sq := S.other (p := ⟨bq, 0, none⟩) c2; have sf := S.frozen)
  go_wp2
  replace S := (Sets.ofDraws (n := 1) S)
  refine rounds_world (fun W' => Below w.heap.size w W' ∧ Row W' bq [q0, q1, q2, q3, q4, q5, q6, q7] ∧ Loose W' bq 8 ∧ Row W' br [0, 0, 0, 0] ∧ Loose W' br 4 ∧ Row W' bd [(l0 D), (l1 D), (l2 D), (l3 D)] ∧ Row W' bu [(l0 R0), 0, 0, 0, 0, 0, 0, 0, 0] ∧ Loose W' bu 9) ⟨(B.trans (S.below o6)).setCell o1 _, (hQ.other S c2).set 0 (by simp) _, (lQ.sets S).set _ _, (hR.other S c3).setOther c6 _, (lR.sets S).set _ _, (hD.other S (Ne.symm c1)).setOther c4 _, (hU.sets S (by simp)).setOther c2 _, (lU.sets S).set _ _⟩ ?_
  clear B hQ lQ hR lR hD hU lU gq GG sq sf S w'
  rintro W' ⟨B, hQ, lQ, hR, lR, hD, hU, lU⟩
  clear W
  generalize W' = W at *
  rw [rounds_succ]; go_wp2
  have cp : (Builtin.copy_ #[78, 78] 3 #[.slice (some ⟨br, 0, none⟩) 4 4, .slice (some ⟨bu, 0, none⟩) 1 9]).run Try.prog W.drew = .ok (goInt 1) (W.setCell ⟨br, 0, none⟩ (.int .u64 (l0 R0))).drew := by
    refine (run_copy_cells (P := Try.prog) W.drew 78 78 3 22 br 0 4 4 ⟨bu, 0, none⟩ 1 9 [.int .u64 (l0 R0)] (by kernel_rfl) (by kernel_rfl) rfl ?_ ?_ ?_ ?_).trans rfl
    · intro j v hj
      match j, hj with
      | 0, hj => simp at hj; subst hj; exact hU 0 (by simp)
    · intro j hj
      simp at hj
      have e := hR j (by simp; omega)
      show (W.cell? ⟨br, 0 + j, none⟩).isSome = true
      rw [Nat.zero_add, e]
      rfl
    · intro j hj
      simp at hj
      show W.frozen? ⟨br, 0 + j, none⟩ = false
      rw [Nat.zero_add]
      exact lR j (by omega)
    · intro v hv
      simp only [List.mem_cons, List.not_mem_nil, or_false] at hv
      rcases hv with rfl <;> rfl
  go_region
  clear cp
  go_wp2_with fail
  refine wp_world (fun W' => Below w.heap.size w W' ∧ Row W' bq [q0, q1, q2, q3, q4, q5, q6, q7] ∧ Loose W' bq 8 ∧ Row W' br [(l0 R0), 0, 0, 0] ∧ Loose W' br 4) ⟨?_, ?_, ?_, ?_, ?_⟩ ?_
  · repeat (first | with_reducible refine Below.drew ?_ | with_reducible refine Below.setCell ?_ o2 _ | exact B)
  · exact (hQ.setOther (p := ⟨br, 0, none⟩) c6' _).drew
  · exact (lQ.set ⟨br, 0, none⟩ _).drew
  · exact (hR.set 0 (by simp) _).drew
  · exact (lR.set ⟨br, 0, none⟩ _).drew
  clear B hQ lQ hR lR hD hU lU
  rintro W' ⟨B, hQ, lQ, hR, lR⟩
  clear W
  generalize W' = W at *
  rw [show ([(l0 R0), 0, 0, 0] : List Int) = [l0 R0, l1 R0, l2 R0, l3 R0] by
    have := RR.out
    simp only [List.cons.injEq, and_true, true_and]
    unfold l1 l2 l3; omega] at hR
  clear RR
  have bl : bq < W.heap.size := hQ.lt (by simp)
  have bl' : br < W.heap.size := hR.lt (by simp)
  have gq : W.cell? ⟨bq, 0, none⟩ = some (.int .u64 q0) ∧ W.cell? ⟨bq, 1, none⟩ = some (.int .u64 q1) ∧ W.cell? ⟨bq, 2, none⟩ = some (.int .u64 q2) ∧ W.cell? ⟨bq, 3, none⟩ = some (.int .u64 q3) ∧ W.cell? ⟨bq, 4, none⟩ = some (.int .u64 q4) ∧ W.cell? ⟨bq, 5, none⟩ = some (.int .u64 q5) ∧ W.cell? ⟨bq, 6, none⟩ = some (.int .u64 q6) ∧ W.cell? ⟨bq, 7, none⟩ = some (.int .u64 q7) := ⟨hQ 0 (by simp), hQ 1 (by simp), hQ 2 (by simp), hQ 3 (by simp), hQ 4 (by simp), hQ 5 (by simp), hQ 6 (by simp), hQ 7 (by simp)⟩
  have gr : W.cell? ⟨br, 0, none⟩ = some (.int .u64 (l0 R0)) ∧ W.cell? ⟨br, 1, none⟩ = some (.int .u64 (l1 R0)) ∧ W.cell? ⟨br, 2, none⟩ = some (.int .u64 (l2 R0)) ∧ W.cell? ⟨br, 3, none⟩ = some (.int .u64 (l3 R0)) := ⟨hR 0 (by simp), hR 1 (by simp), hR 2 (by simp), hR 3 (by simp)⟩
  have fq : W.frozen? ⟨bq, 0, none⟩ = false ∧ W.frozen? ⟨bq, 1, none⟩ = false ∧ W.frozen? ⟨bq, 2, none⟩ = false ∧ W.frozen? ⟨bq, 3, none⟩ = false ∧ W.frozen? ⟨bq, 4, none⟩ = false ∧ W.frozen? ⟨bq, 5, none⟩ = false ∧ W.frozen? ⟨bq, 6, none⟩ = false ∧ W.frozen? ⟨bq, 7, none⟩ = false := ⟨lQ 0 (by simp), lQ 1 (by simp), lQ 2 (by simp), lQ 3 (by simp), lQ 4 (by simp), lQ 5 (by simp), lQ 6 (by simp), lQ 7 (by simp)⟩
  have fr : W.frozen? ⟨br, 0, none⟩ = false ∧ W.frozen? ⟨br, 1, none⟩ = false ∧ W.frozen? ⟨br, 2, none⟩ = false ∧ W.frozen? ⟨br, 3, none⟩ = false := ⟨lR 0 (by simp), lR 1 (by simp), lR 2 (by simp), lR 3 (by simp)⟩
  clear hQ lQ hR lR
  go_region_with (go_at_call 8; refine (SR.out _).mono ?_; rintro e w' ⟨rfl, hb⟩; have cq := fun j => oldCells hb bq j bl; have cr := fun j => oldCells hb br j bl')
  all_goals
    go_wp2
    simp [bodyPost, results, Try.results41, go_sem, cq, cr, gq, gr]
    repeat (first | (with_reducible refine Below.setCell ?_ (by first | exact o1 | exact o2) _) | exact B.drew.trans (hb.mono B.drew.size))

end Go.Proofs.Ytmegdnalpaddmaa
