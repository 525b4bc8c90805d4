import Derived.Test.YtjppjieidjodfaaDoorLen
import Derived.Test.YtjppjieidjodfaaDoorDigitNum
import Derived.Test.YtjppjieidjodfaaDoorLift
import Derived.Test.YtjppjieidjodfaaDoorRow
import Derived.Deep.RegionWith
namespace Go.Proofs.YtjppjieidjodfaaDoor
open Go.RowKit

set_option maxHeartbeats 8000000 in
theorem divide_1 {x0 x1 x2 x3 x4 x5 x6 x7 m s L D t0 t1 t2 t3 t4 t5 t6 t7 t8 R0 R1 R2 R3 R4 R5 R6 R7 R8 q0 q1 q2 q3 q4 q5 q6 q7 : Int} (hm : Num m) (L0 : 0 ≤ L) (L1 : L ≤ 256) (eL : lenN m = L) (hL : (L + 63) / 64 = 1) (s0 : 0 ≤ s) (s1 : s ≤ 63)
    (lz : ∀ w, Calls Tryd.prog 98 #[.int .u64 (l0 m)] w fun e w' => e = .returned (.int .i64 s) ∧ w' = w)
    (eD : upN m s = D) (hn : 9223372036854775808 ≤ l0 D) (vD : val [(l0 D)] = D) (bD : D < 18446744073709551616)
    (wt : Words [t0, t1, t2, t3, t4, t5, t6, t7, t8])
    (li : ∀ w : World, Calls Tryd.prog 99 #[.agg #[.int .u64 x0, .int .u64 x1, .int .u64 x2, .int .u64 x3, .int .u64 x4, .int .u64 x5, .int .u64 x6, .int .u64 x7], .int .i64 s] w fun e w' => e = .returned (.agg #[.int .u64 t0, .int .u64 t1, .int .u64 t2, .int .u64 t3, .int .u64 t4, .int .u64 t5, .int .u64 t6, .int .u64 t7, .int .u64 t8]) ∧ Below w.heap.size w w')
    (r8 : val [t8] = R8) (g8 : R8 < D)
    (e7 : (t7 + 18446744073709551616 * R8) / D = q7) (r7 : (t7 + 18446744073709551616 * R8) % D = R7) (e6 : (t6 + 18446744073709551616 * R7) / D = q6) (r6 : (t6 + 18446744073709551616 * R7) % D = R6) (e5 : (t5 + 18446744073709551616 * R6) / D = q5) (r5 : (t5 + 18446744073709551616 * R6) % D = R5) (e4 : (t4 + 18446744073709551616 * R5) / D = q4) (r4 : (t4 + 18446744073709551616 * R5) % D = R4) (e3 : (t3 + 18446744073709551616 * R4) / D = q3) (r3 : (t3 + 18446744073709551616 * R4) % D = R3) (e2 : (t2 + 18446744073709551616 * R3) / D = q2) (r2 : (t2 + 18446744073709551616 * R3) % D = R2) (e1 : (t1 + 18446744073709551616 * R2) / D = q1) (r1 : (t1 + 18446744073709551616 * R2) % D = R1) (e0 : (t0 + 18446744073709551616 * R1) / D = q0) (r0 : (t0 + 18446744073709551616 * R1) % D = R0)
    (w : World) :
    Calls Tryd.prog 79 #[.agg #[.int .u64 x0, .int .u64 x1, .int .u64 x2, .int .u64 x3, .int .u64 x4, .int .u64 x5, .int .u64 x6, .int .u64 x7], .agg #[.int .u64 (l0 m), .int .u64 (l1 m), .int .u64 (l2 m), .int .u64 (l3 m)]] w fun e w' =>
      e = .returned (.tuple #[.agg #[.int .u64 q0, .int .u64 q1, .int .u64 q2, .int .u64 q3, .int .u64 q4, .int .u64 q5, .int .u64 q6, .int .u64 q7], .agg #[.int .u64 (l0 (downN R0 s)), .int .u64 (l1 (downN R0 s)), .int .u64 (l2 (downN R0 s)), .int .u64 (l3 (downN R0 s))]]) ∧ Below w.heap.size w w' := by
  have D0 : 0 < D := by
    have := l0_word D; have := l1_word D; have := l2_word D; have := l3_word D
    unfold Word at *
    rw [← vD]
    simp only [val]
    omega
  have WD : Words [(l0 D)] := by
    intro x hx
    simp only [List.mem_cons, List.not_mem_nil, or_false] at hx
    rcases hx with rfl
    · exact l0_word D
  have n8 : 0 ≤ R8 := by rw [← r8]; exact (val_nonneg (fun x hx => wt x (List.mem_of_mem_drop (show x ∈ [t0, t1, t2, t3, t4, t5, t6, t7, t8].drop 8 from hx)))).1
  have n7 : 0 ≤ R7 := by rw [← r7]; exact Int.emod_nonneg _ (by omega)
  have g7 : R7 < D := by rw [← r7]; exact Int.emod_lt_of_pos _ D0
  have n6 : 0 ≤ R6 := by rw [← r6]; exact Int.emod_nonneg _ (by omega)
  have g6 : R6 < D := by rw [← r6]; exact Int.emod_lt_of_pos _ D0
  have n5 : 0 ≤ R5 := by rw [← r5]; exact Int.emod_nonneg _ (by omega)
  have g5 : R5 < D := by rw [← r5]; exact Int.emod_lt_of_pos _ D0
  have n4 : 0 ≤ R4 := by rw [← r4]; exact Int.emod_nonneg _ (by omega)
  have g4 : R4 < D := by rw [← r4]; exact Int.emod_lt_of_pos _ D0
  have n3 : 0 ≤ R3 := by rw [← r3]; exact Int.emod_nonneg _ (by omega)
  have g3 : R3 < D := by rw [← r3]; exact Int.emod_lt_of_pos _ D0
  have n2 : 0 ≤ R2 := by rw [← r2]; exact Int.emod_nonneg _ (by omega)
  have g2 : R2 < D := by rw [← r2]; exact Int.emod_lt_of_pos _ D0
  have n1 : 0 ≤ R1 := by rw [← r1]; exact Int.emod_nonneg _ (by omega)
  have g1 : R1 < D := by rw [← r1]; exact Int.emod_lt_of_pos _ D0
  have n0 : 0 ≤ R0 := by rw [← r0]; exact Int.emod_nonneg _ (by omega)
  have g0 : R0 < D := by rw [← r0]; exact Int.emod_lt_of_pos _ D0
  have G7 : Hid (∀ (bu bd : Nat), bu ≠ bd → ∀ w, w.cell? ⟨bu, 7, none⟩ = some (.int .u64 t7) → w.cell? ⟨bu, 8, none⟩ = some (.int .u64 (l0 R8)) → w.cell? ⟨bd, 0, none⟩ = some (.int .u64 (l0 D)) → w.frozen? ⟨bu, 7, none⟩ = false → w.frozen? ⟨bu, 8, none⟩ = false → Calls Tryd.prog 100 #[.slice (some ⟨bu, 7, none⟩) 2 2, .slice (some ⟨bd, 0, none⟩) 1 4] w fun e w' => e = .returned (.int .u64 q7) ∧ Sets bu 7 [(l0 R7), 0] w w') := by
    intro bu bd ne w a0 a1 b0 c0 c1
    have h : val [(l0 R8)] = R8 := by
      simp only [val]; unfold l0; omega
    have vU : val [t7, (l0 R8)] = t7 + 18446744073709551616 * R8 := congrArg (fun v => t7 + 18446744073709551616 * v) h
    have wt7 := wt t7 (by simp)
    have d := digit_1 (o := 7) (ku := 2) (kd := 4) wt7 (l0_word R8) (l0_word D) hn (by rw [vU, vD]; obtain ⟨_, _⟩ := wt7; omega) ne w a0 a1 b0 c0 c1
    rw [vU, vD, e7, r7] at d
    refine d.mono ?_
    rintro e w' ⟨rfl, vs, S, ln, wv, ev⟩
    rw [limbs_1 ln wv ev (by omega)] at S
    exact ⟨rfl, S⟩
  have G6 : Hid (∀ (bu bd : Nat), bu ≠ bd → ∀ w, w.cell? ⟨bu, 6, none⟩ = some (.int .u64 t6) → w.cell? ⟨bu, 7, none⟩ = some (.int .u64 (l0 R7)) → w.cell? ⟨bd, 0, none⟩ = some (.int .u64 (l0 D)) → w.frozen? ⟨bu, 6, none⟩ = false → w.frozen? ⟨bu, 7, none⟩ = false → Calls Tryd.prog 100 #[.slice (some ⟨bu, 6, none⟩) 2 3, .slice (some ⟨bd, 0, none⟩) 1 4] w fun e w' => e = .returned (.int .u64 q6) ∧ Sets bu 6 [(l0 R6), 0] w w') := by
    intro bu bd ne w a0 a1 b0 c0 c1
    have h : val [(l0 R7)] = R7 := by
      simp only [val]; unfold l0; omega
    have vU : val [t6, (l0 R7)] = t6 + 18446744073709551616 * R7 := congrArg (fun v => t6 + 18446744073709551616 * v) h
    have wt6 := wt t6 (by simp)
    have d := digit_1 (o := 6) (ku := 3) (kd := 4) wt6 (l0_word R7) (l0_word D) hn (by rw [vU, vD]; obtain ⟨_, _⟩ := wt6; omega) ne w a0 a1 b0 c0 c1
    rw [vU, vD, e6, r6] at d
    refine d.mono ?_
    rintro e w' ⟨rfl, vs, S, ln, wv, ev⟩
    rw [limbs_1 ln wv ev (by omega)] at S
    exact ⟨rfl, S⟩
  have G5 : Hid (∀ (bu bd : Nat), bu ≠ bd → ∀ w, w.cell? ⟨bu, 5, none⟩ = some (.int .u64 t5) → w.cell? ⟨bu, 6, none⟩ = some (.int .u64 (l0 R6)) → w.cell? ⟨bd, 0, none⟩ = some (.int .u64 (l0 D)) → w.frozen? ⟨bu, 5, none⟩ = false → w.frozen? ⟨bu, 6, none⟩ = false → Calls Tryd.prog 100 #[.slice (some ⟨bu, 5, none⟩) 2 4, .slice (some ⟨bd, 0, none⟩) 1 4] w fun e w' => e = .returned (.int .u64 q5) ∧ Sets bu 5 [(l0 R5), 0] w w') := by
    intro bu bd ne w a0 a1 b0 c0 c1
    have h : val [(l0 R6)] = R6 := by
      simp only [val]; unfold l0; omega
    have vU : val [t5, (l0 R6)] = t5 + 18446744073709551616 * R6 := congrArg (fun v => t5 + 18446744073709551616 * v) h
    have wt5 := wt t5 (by simp)
    have d := digit_1 (o := 5) (ku := 4) (kd := 4) wt5 (l0_word R6) (l0_word D) hn (by rw [vU, vD]; obtain ⟨_, _⟩ := wt5; omega) ne w a0 a1 b0 c0 c1
    rw [vU, vD, e5, r5] at d
    refine d.mono ?_
    rintro e w' ⟨rfl, vs, S, ln, wv, ev⟩
    rw [limbs_1 ln wv ev (by omega)] at S
    exact ⟨rfl, S⟩
  have G4 : Hid (∀ (bu bd : Nat), bu ≠ bd → ∀ w, w.cell? ⟨bu, 4, none⟩ = some (.int .u64 t4) → w.cell? ⟨bu, 5, none⟩ = some (.int .u64 (l0 R5)) → w.cell? ⟨bd, 0, none⟩ = some (.int .u64 (l0 D)) → w.frozen? ⟨bu, 4, none⟩ = false → w.frozen? ⟨bu, 5, none⟩ = false → Calls Tryd.prog 100 #[.slice (some ⟨bu, 4, none⟩) 2 5, .slice (some ⟨bd, 0, none⟩) 1 4] w fun e w' => e = .returned (.int .u64 q4) ∧ Sets bu 4 [(l0 R4), 0] w w') := by
    intro bu bd ne w a0 a1 b0 c0 c1
    have h : val [(l0 R5)] = R5 := by
      simp only [val]; unfold l0; omega
    have vU : val [t4, (l0 R5)] = t4 + 18446744073709551616 * R5 := congrArg (fun v => t4 + 18446744073709551616 * v) h
    have wt4 := wt t4 (by simp)
    have d := digit_1 (o := 4) (ku := 5) (kd := 4) wt4 (l0_word R5) (l0_word D) hn (by rw [vU, vD]; obtain ⟨_, _⟩ := wt4; omega) ne w a0 a1 b0 c0 c1
    rw [vU, vD, e4, r4] at d
    refine d.mono ?_
    rintro e w' ⟨rfl, vs, S, ln, wv, ev⟩
    rw [limbs_1 ln wv ev (by omega)] at S
    exact ⟨rfl, S⟩
  have G3 : Hid (∀ (bu bd : Nat), bu ≠ bd → ∀ w, w.cell? ⟨bu, 3, none⟩ = some (.int .u64 t3) → w.cell? ⟨bu, 4, none⟩ = some (.int .u64 (l0 R4)) → w.cell? ⟨bd, 0, none⟩ = some (.int .u64 (l0 D)) → w.frozen? ⟨bu, 3, none⟩ = false → w.frozen? ⟨bu, 4, none⟩ = false → Calls Tryd.prog 100 #[.slice (some ⟨bu, 3, none⟩) 2 6, .slice (some ⟨bd, 0, none⟩) 1 4] w fun e w' => e = .returned (.int .u64 q3) ∧ Sets bu 3 [(l0 R3), 0] w w') := by
    intro bu bd ne w a0 a1 b0 c0 c1
    have h : val [(l0 R4)] = R4 := by
      simp only [val]; unfold l0; omega
    have vU : val [t3, (l0 R4)] = t3 + 18446744073709551616 * R4 := congrArg (fun v => t3 + 18446744073709551616 * v) h
    have wt3 := wt t3 (by simp)
    have d := digit_1 (o := 3) (ku := 6) (kd := 4) wt3 (l0_word R4) (l0_word D) hn (by rw [vU, vD]; obtain ⟨_, _⟩ := wt3; omega) ne w a0 a1 b0 c0 c1
    rw [vU, vD, e3, r3] at d
    refine d.mono ?_
    rintro e w' ⟨rfl, vs, S, ln, wv, ev⟩
    rw [limbs_1 ln wv ev (by omega)] at S
    exact ⟨rfl, S⟩
  have G2 : Hid (∀ (bu bd : Nat), bu ≠ bd → ∀ w, w.cell? ⟨bu, 2, none⟩ = some (.int .u64 t2) → w.cell? ⟨bu, 3, none⟩ = some (.int .u64 (l0 R3)) → w.cell? ⟨bd, 0, none⟩ = some (.int .u64 (l0 D)) → w.frozen? ⟨bu, 2, none⟩ = false → w.frozen? ⟨bu, 3, none⟩ = false → Calls Tryd.prog 100 #[.slice (some ⟨bu, 2, none⟩) 2 7, .slice (some ⟨bd, 0, none⟩) 1 4] w fun e w' => e = .returned (.int .u64 q2) ∧ Sets bu 2 [(l0 R2), 0] w w') := by
    intro bu bd ne w a0 a1 b0 c0 c1
    have h : val [(l0 R3)] = R3 := by
      simp only [val]; unfold l0; omega
    have vU : val [t2, (l0 R3)] = t2 + 18446744073709551616 * R3 := congrArg (fun v => t2 + 18446744073709551616 * v) h
    have wt2 := wt t2 (by simp)
    have d := digit_1 (o := 2) (ku := 7) (kd := 4) wt2 (l0_word R3) (l0_word D) hn (by rw [vU, vD]; obtain ⟨_, _⟩ := wt2; omega) ne w a0 a1 b0 c0 c1
    rw [vU, vD, e2, r2] at d
    refine d.mono ?_
    rintro e w' ⟨rfl, vs, S, ln, wv, ev⟩
    rw [limbs_1 ln wv ev (by omega)] at S
    exact ⟨rfl, S⟩
  have G1 : Hid (∀ (bu bd : Nat), bu ≠ bd → ∀ w, w.cell? ⟨bu, 1, none⟩ = some (.int .u64 t1) → w.cell? ⟨bu, 2, none⟩ = some (.int .u64 (l0 R2)) → w.cell? ⟨bd, 0, none⟩ = some (.int .u64 (l0 D)) → w.frozen? ⟨bu, 1, none⟩ = false → w.frozen? ⟨bu, 2, none⟩ = false → Calls Tryd.prog 100 #[.slice (some ⟨bu, 1, none⟩) 2 8, .slice (some ⟨bd, 0, none⟩) 1 4] w fun e w' => e = .returned (.int .u64 q1) ∧ Sets bu 1 [(l0 R1), 0] w w') := by
    intro bu bd ne w a0 a1 b0 c0 c1
    have h : val [(l0 R2)] = R2 := by
      simp only [val]; unfold l0; omega
    have vU : val [t1, (l0 R2)] = t1 + 18446744073709551616 * R2 := congrArg (fun v => t1 + 18446744073709551616 * v) h
    have wt1 := wt t1 (by simp)
    have d := digit_1 (o := 1) (ku := 8) (kd := 4) wt1 (l0_word R2) (l0_word D) hn (by rw [vU, vD]; obtain ⟨_, _⟩ := wt1; omega) ne w a0 a1 b0 c0 c1
    rw [vU, vD, e1, r1] at d
    refine d.mono ?_
    rintro e w' ⟨rfl, vs, S, ln, wv, ev⟩
    rw [limbs_1 ln wv ev (by omega)] at S
    exact ⟨rfl, S⟩
  have G0 : Hid (∀ (bu bd : Nat), bu ≠ bd → ∀ w, w.cell? ⟨bu, 0, none⟩ = some (.int .u64 t0) → w.cell? ⟨bu, 1, none⟩ = some (.int .u64 (l0 R1)) → w.cell? ⟨bd, 0, none⟩ = some (.int .u64 (l0 D)) → w.frozen? ⟨bu, 0, none⟩ = false → w.frozen? ⟨bu, 1, none⟩ = false → Calls Tryd.prog 100 #[.slice (some ⟨bu, 0, none⟩) 2 9, .slice (some ⟨bd, 0, none⟩) 1 4] w fun e w' => e = .returned (.int .u64 q0) ∧ Sets bu 0 [(l0 R0), 0] w w') := by
    intro bu bd ne w a0 a1 b0 c0 c1
    have h : val [(l0 R1)] = R1 := by
      simp only [val]; unfold l0; omega
    have vU : val [t0, (l0 R1)] = t0 + 18446744073709551616 * R1 := congrArg (fun v => t0 + 18446744073709551616 * v) h
    have wt0 := wt t0 (by simp)
    have d := digit_1 (o := 0) (ku := 9) (kd := 4) wt0 (l0_word R1) (l0_word D) hn (by rw [vU, vD]; obtain ⟨_, _⟩ := wt0; omega) ne w a0 a1 b0 c0 c1
    rw [vU, vD, e0, r0] at d
    refine d.mono ?_
    rintro e w' ⟨rfl, vs, S, ln, wv, ev⟩
    rw [limbs_1 ln wv ev (by omega)] at S
    exact ⟨rfl, S⟩
  have tops : t8 = l0 R8 := by
    obtain ⟨_, _⟩ := wt t8 (by simp)
    rw [← r8]
    simp only [val]
    unfold l0
    omega
  have SR : Hid (∀ w, Calls Tryd.prog 69 #[.agg #[.int .u64 (l0 R0), .int .u64 (l1 R0), .int .u64 (l2 R0), .int .u64 (l3 R0)], .int .i64 s] w fun e w' => e = .returned (.agg #[.int .u64 (l0 (downN R0 s)), .int .u64 (l1 (downN R0 s)), .int .u64 (l2 (downN R0 s)), .int .u64 (l3 (downN R0 s))]) ∧ Below w.heap.size w w') := fun w => shr_near ⟨n0, by omega⟩ s0 (by omega) w
  have LZ : Hid (∀ w, Calls Tryd.prog 98 #[.int .u64 (l0 m)] w fun e w' => e = .returned (.int .i64 s) ∧ w' = w) := lz
  have LI : Hid (∀ w : World, Calls Tryd.prog 99 #[.agg #[.int .u64 x0, .int .u64 x1, .int .u64 x2, .int .u64 x3, .int .u64 x4, .int .u64 x5, .int .u64 x6, .int .u64 x7], .int .i64 s] w fun e w' => e = .returned (.agg #[.int .u64 t0, .int .u64 t1, .int .u64 t2, .int .u64 t3, .int .u64 t4, .int .u64 t5, .int .u64 t6, .int .u64 t7, .int .u64 t8]) ∧ Below w.heap.size w w') := li
  have LE := len_any hm
  rw [eL] at LE
  have LE' : Hid (∀ w, Calls Tryd.prog 25 #[.agg #[.int .u64 (l0 m), .int .u64 (l1 m), .int .u64 (l2 m), .int .u64 (l3 m)]] w fun e w' => e = .returned (.int .i64 L) ∧ Below w.heap.size w w') := LE
  have SH := fun w => shl_near (n := m) hm s0 (by omega) w
  rw [eD] at SH
  have SH' : Hid (∀ w, Calls Tryd.prog 27 #[.agg #[.int .u64 (l0 m), .int .u64 (l1 m), .int .u64 (l2 m), .int .u64 (l3 m)], .int .i64 s] w fun e w' => e = .returned (.agg #[.int .u64 (l0 D), .int .u64 (l1 D), .int .u64 (l2 D), .int .u64 (l3 D)]) ∧ Below w.heap.size w w') := SH
  have TT : Hid (t8 = l0 R8) := tops
  have RR : Hid (R0 < 18446744073709551616 ∧ 0 ≤ R0) := ⟨by omega, n0⟩
  clear lz li LE SH eL eD hm hn vD bD wt tops WD D0 r0 g0 n0 r1 g1 n1 r2 g2 n2 r3 g3 n3 r4 g4 n4 r5 g5 n5 r6 g6 n6 r7 g7 n7 r8 g8 n8 e0 e1 e2 e3 e4 e5 e6 e7
  go_enter Tryd.func79, Tryd.ntmps79
  go_wp2_with fail
  refine calls_world (fun W => Below w.heap.size w W ∧ Row W w.heap.size [x0, x1, x2, x3, x4, x5, x6, x7] ∧ Hold W (w.heap.size + 1) m ∧ Row W (w.heap.size + 1 + 1) [0, 0, 0, 0, 0, 0, 0, 0] ∧ Loose W (w.heap.size + 1 + 1) 8 ∧ Row W (w.heap.size + 1 + 1 + 1) [0, 0, 0, 0] ∧ Loose W (w.heap.size + 1 + 1 + 1) 4 ∧ w.heap.size + 1 + 1 + 1 < W.heap.size) ⟨?_, ?_, ?_, ?_, ?_, ?_, ?_, ?_⟩ ?_
  · repeat (first | with_reducible exact Below.refl _ _ | with_reducible refine Below.alloc ?_ (by first | omega | (simp; done) | (simp; omega)) _)
  · exact (((Row.new w [x0, x1, x2, x3, x4, x5, x6, x7] _).alloc _).alloc _).alloc _
  · have := Hold.new (w.alloc (.cells #[.int .u64 x0, .int .u64 x1, .int .u64 x2, .int .u64 x3, .int .u64 x4, .int .u64 x5, .int .u64 x6, .int .u64 x7] 91)) m 24
    simp at this
    exact (this.alloc _).alloc _
  · have := Row.new ((w.alloc (.cells #[.int .u64 x0, .int .u64 x1, .int .u64 x2, .int .u64 x3, .int .u64 x4, .int .u64 x5, .int .u64 x6, .int .u64 x7] 91)).alloc (.cells #[.int .u64 (l0 m), .int .u64 (l1 m), .int .u64 (l2 m), .int .u64 (l3 m)] 24)) [0, 0, 0, 0, 0, 0, 0, 0] 91
    simp at this
    exact this.alloc _
  · have := Loose.new ((w.alloc (.cells #[.int .u64 x0, .int .u64 x1, .int .u64 x2, .int .u64 x3, .int .u64 x4, .int .u64 x5, .int .u64 x6, .int .u64 x7] 91)).alloc (.cells #[.int .u64 (l0 m), .int .u64 (l1 m), .int .u64 (l2 m), .int .u64 (l3 m)] 24)) #[.int .u64 0, .int .u64 0, .int .u64 0, .int .u64 0, .int .u64 0, .int .u64 0, .int .u64 0, .int .u64 0] 91 8
    simp at this
    exact this.alloc (by simp) _
  · have := Row.new (((w.alloc (.cells #[.int .u64 x0, .int .u64 x1, .int .u64 x2, .int .u64 x3, .int .u64 x4, .int .u64 x5, .int .u64 x6, .int .u64 x7] 91)).alloc (.cells #[.int .u64 (l0 m), .int .u64 (l1 m), .int .u64 (l2 m), .int .u64 (l3 m)] 24)).alloc (.cells #[.int .u64 0, .int .u64 0, .int .u64 0, .int .u64 0, .int .u64 0, .int .u64 0, .int .u64 0, .int .u64 0] 91)) [0, 0, 0, 0] 24
    simp at this
    exact this
  · have := Loose.new (((w.alloc (.cells #[.int .u64 x0, .int .u64 x1, .int .u64 x2, .int .u64 x3, .int .u64 x4, .int .u64 x5, .int .u64 x6, .int .u64 x7] 91)).alloc (.cells #[.int .u64 (l0 m), .int .u64 (l1 m), .int .u64 (l2 m), .int .u64 (l3 m)] 24)).alloc (.cells #[.int .u64 0, .int .u64 0, .int .u64 0, .int .u64 0, .int .u64 0, .int .u64 0, .int .u64 0, .int .u64 0] 91)) #[.int .u64 0, .int .u64 0, .int .u64 0, .int .u64 0] 24 4
    simp at this
    exact this
  · simp
  rintro W ⟨B, hX, hM, hQ, lQ, hR, lR, hlt⟩
  have o1 : w.heap.size ≤ w.heap.size + 1 + 1 := by omega
  have o2 : w.heap.size ≤ w.heap.size + 1 + 1 + 1 := by omega
  have o3 : w.heap.size + 1 + 1 < w.heap.size + 1 + 1 + 1 := by omega
  generalize w.heap.size + 1 + 1 + 1 = br at *
  generalize w.heap.size + 1 + 1 = bq at *
  generalize w.heap.size + 1 = bm at *
  refine (LE'.out W).mono ?_
  rintro e w1 ⟨rfl, hb⟩
  replace B := B.trans (hb.mono B.size)
  replace lQ := lQ.keep hb (by omega); replace lR := lR.keep hb (by omega)
  replace hX := hX.keep hb; replace hM := hM.keep hb; replace hQ := hQ.keep hb; replace hR := hR.keep hb
  replace hlt := Nat.lt_of_lt_of_le hlt hb.size
  clear hb W LE'
  have gM := hM.cells
  go_wp2_with fail
  refine (LZ.out _).mono ?_
  rintro e w' ⟨rfl, rfl⟩
  go_wp2_with fail
  refine (SH'.out _).mono ?_
  rintro e w2 ⟨rfl, hb⟩
  replace B := B.trans (hb.mono B.size)
  replace lQ := lQ.keep hb (by omega); replace lR := lR.keep hb (by omega)
  replace hX := hX.keep hb; replace hQ := hQ.keep hb; replace hR := hR.keep hb
  replace hlt := Nat.lt_of_lt_of_le hlt hb.size
  clear hb gM hM SH' LZ
  have gX : ∀ o, (w2.alloc o).cell? ⟨w.heap.size, 0, none⟩ = some (.int .u64 x0) ∧ (w2.alloc o).cell? ⟨w.heap.size, 1, none⟩ = some (.int .u64 x1) ∧ (w2.alloc o).cell? ⟨w.heap.size, 2, none⟩ = some (.int .u64 x2) ∧ (w2.alloc o).cell? ⟨w.heap.size, 3, none⟩ = some (.int .u64 x3) ∧ (w2.alloc o).cell? ⟨w.heap.size, 4, none⟩ = some (.int .u64 x4) ∧ (w2.alloc o).cell? ⟨w.heap.size, 5, none⟩ = some (.int .u64 x5) ∧ (w2.alloc o).cell? ⟨w.heap.size, 6, none⟩ = some (.int .u64 x6) ∧ (w2.alloc o).cell? ⟨w.heap.size, 7, none⟩ = some (.int .u64 x7) := fun o => ⟨(hX.alloc o) 0 (by simp), (hX.alloc o) 1 (by simp), (hX.alloc o) 2 (by simp), (hX.alloc o) 3 (by simp), (hX.alloc o) 4 (by simp), (hX.alloc o) 5 (by simp), (hX.alloc o) 6 (by simp), (hX.alloc o) 7 (by simp)⟩
  go_wp2_with fail
  refine calls_world (fun W => Below w.heap.size w W ∧ Row W bq [0, 0, 0, 0, 0, 0, 0, 0] ∧ Loose W bq 8 ∧ Row W br [0, 0, 0, 0] ∧ Loose W br 4 ∧ br < W.heap.size ∧ Row W w2.heap.size [(l0 D), (l1 D), (l2 D), (l3 D)] ∧ w2.heap.size < W.heap.size ∧ br < w2.heap.size) ⟨B.alloc B.size _, hQ.alloc _, lQ.alloc (by omega) _, hR.alloc _, lR.alloc (by omega) _, by simp; omega, Row.new w2 [(l0 D), (l1 D), (l2 D), (l3 D)] _, by simp, hlt⟩ ?_
  clear B hX hQ lQ hR lR gX hlt
  rintro W ⟨B, hQ, lQ, hR, lR, hlt, hD, hlt2, o4⟩
  generalize w2.heap.size = bd at *
  refine (LI.out W).mono ?_
  rintro e w3 ⟨rfl, hb⟩
  replace B := B.trans (hb.mono B.size)
  replace lQ := lQ.keep hb (by omega); replace lR := lR.keep hb (by omega)
  replace hD := hD.keep hb; replace hQ := hQ.keep hb; replace hR := hR.keep hb
  replace hlt2 := Nat.lt_of_lt_of_le hlt2 hb.size
  clear hb hlt LI
  go_wp2_with fail
  refine wp_world (fun W => Below w.heap.size w W ∧ Row W bq [0, 0, 0, 0, 0, 0, 0, 0] ∧ Loose W bq 8 ∧ Row W br [0, 0, 0, 0] ∧ Loose W br 4 ∧ Row W bd [(l0 D), (l1 D), (l2 D), (l3 D)] ∧ Row W w3.heap.size [t0, t1, t2, t3, t4, t5, t6, t7, t8] ∧ Loose W w3.heap.size 9 ∧ bd < w3.heap.size) ⟨B.alloc B.size _, hQ.alloc _, lQ.alloc (by omega) _, hR.alloc _, lR.alloc (by omega) _, hD.alloc _, Row.new w3 [t0, t1, t2, t3, t4, t5, t6, t7, t8] _, Loose.new w3 _ _ 9, hlt2⟩ ?_
  clear B hQ lQ hR lR hD hlt2
  rintro W ⟨B, hQ, lQ, hR, lR, hD, hU, lU, o5⟩
  generalize w3.heap.size = bu at *
  have o6 : w.heap.size ≤ bu := by omega
  have c1 : bu ≠ bd := by omega
  have c2 : bq ≠ bu := by omega
  have c3 : br ≠ bu := by omega
  have c4 : bq ≠ bd := by omega
  have c5 : br ≠ bd := by omega
  have c6 : bq ≠ br := by omega
  have c2' := Ne.symm c2
  have c6' := Ne.symm c6
  clear o3 o4 o5
  rw [TT.out] at hU
  clear TT
  have wr : IntKind.i64.wrap 0 = 0 ∧ IntKind.i64.wrap 1 = 1 ∧ IntKind.i64.wrap 2 = 2 ∧ IntKind.i64.wrap 3 = 3 ∧ IntKind.i64.wrap 4 = 4 ∧ IntKind.i64.wrap 5 = 5 ∧ IntKind.i64.wrap 6 = 6 ∧ IntKind.i64.wrap 7 = 7 ∧ IntKind.i64.wrap 8 = 8 ∧ IntKind.i64.wrap 9 = 9 := by decide
  refine wp_loop_rounds 9 ?_
  -- digit 7
  have gq : W.cell? ⟨bq, 7, none⟩ = some (.int .u64 0) ∧ W.frozen? ⟨bq, 7, none⟩ = false := ⟨hQ 7 (by simp), lQ 7 (by simp)⟩
  have GG : Hid (Calls Tryd.prog 100 #[.slice (some ⟨bu, 7, none⟩) 2 2, .slice (some ⟨bd, 0, none⟩) 1 4] W.drew fun e w' => e = .returned (.int .u64 q7) ∧ Sets bu 7 [(l0 R7), 0] W.drew w') := G7.out bu bd c1 W.drew (hU 7 (by simp)) (hU 8 (by simp)) (hD 0 (by simp)) (lU 7 (by simp)) (lU 8 (by simp))
  clear G7
  rw [rounds_succ]; go_wp2
  go_region_with (go_at_call 100; refine GG.out.mono ?_; rintro e w' ⟨rfl, S⟩; have sq := S.other (p := ⟨bq, 7, none⟩) c2; have sf := S.frozen)
  go_wp2
  replace S := (Sets.ofDraws (n := 1) S)
  refine rounds_world (fun W' => Below w.heap.size w W' ∧ Row W' bq [0, 0, 0, 0, 0, 0, 0, q7] ∧ Loose W' bq 8 ∧ Row W' br [0, 0, 0, 0] ∧ Loose W' br 4 ∧ Row W' bd [(l0 D), (l1 D), (l2 D), (l3 D)] ∧ Row W' bu [t0, t1, t2, t3, t4, t5, t6, (l0 R7), 0] ∧ Loose W' bu 9) ⟨(B.trans (S.below o6)).setCell o1 _, (hQ.other S c2).set 7 (by simp) _, (lQ.sets S).set _ _, (hR.other S c3).setOther c6 _, (lR.sets S).set _ _, (hD.other S (Ne.symm c1)).setOther c4 _, (hU.sets S (by simp)).setOther c2 _, (lU.sets S).set _ _⟩ ?_
  clear B hQ lQ hR lR hD hU lU gq GG sq sf S w'
  rintro W' ⟨B, hQ, lQ, hR, lR, hD, hU, lU⟩
  clear W
  generalize W' = W at *
  -- digit 6
  have gq : W.cell? ⟨bq, 6, none⟩ = some (.int .u64 0) ∧ W.frozen? ⟨bq, 6, none⟩ = false := ⟨hQ 6 (by simp), lQ 6 (by simp)⟩
  have GG : Hid (Calls Tryd.prog 100 #[.slice (some ⟨bu, 6, none⟩) 2 3, .slice (some ⟨bd, 0, none⟩) 1 4] W.drew fun e w' => e = .returned (.int .u64 q6) ∧ Sets bu 6 [(l0 R6), 0] W.drew w') := G6.out bu bd c1 W.drew (hU 6 (by simp)) (hU 7 (by simp)) (hD 0 (by simp)) (lU 6 (by simp)) (lU 7 (by simp))
  clear G6
  rw [rounds_succ]; go_wp2
  go_region_with (go_at_call 100; refine GG.out.mono ?_; rintro e w' ⟨rfl, S⟩; have sq := S.other (p := ⟨bq, 6, none⟩) c2; have sf := S.frozen)
  go_wp2
  replace S := (Sets.ofDraws (n := 1) S)
  refine rounds_world (fun W' => Below w.heap.size w W' ∧ Row W' bq [0, 0, 0, 0, 0, 0, q6, q7] ∧ Loose W' bq 8 ∧ Row W' br [0, 0, 0, 0] ∧ Loose W' br 4 ∧ Row W' bd [(l0 D), (l1 D), (l2 D), (l3 D)] ∧ Row W' bu [t0, t1, t2, t3, t4, t5, (l0 R6), 0, 0] ∧ Loose W' bu 9) ⟨(B.trans (S.below o6)).setCell o1 _, (hQ.other S c2).set 6 (by simp) _, (lQ.sets S).set _ _, (hR.other S c3).setOther c6 _, (lR.sets S).set _ _, (hD.other S (Ne.symm c1)).setOther c4 _, (hU.sets S (by simp)).setOther c2 _, (lU.sets S).set _ _⟩ ?_
  clear B hQ lQ hR lR hD hU lU gq GG sq sf S w'
  rintro W' ⟨B, hQ, lQ, hR, lR, hD, hU, lU⟩
  clear W
  generalize W' = W at *
  -- digit 5
  have gq : W.cell? ⟨bq, 5, none⟩ = some (.int .u64 0) ∧ W.frozen? ⟨bq, 5, none⟩ = false := ⟨hQ 5 (by simp), lQ 5 (by simp)⟩
  have GG : Hid (Calls Tryd.prog 100 #[.slice (some ⟨bu, 5, none⟩) 2 4, .slice (some ⟨bd, 0, none⟩) 1 4] W.drew fun e w' => e = .returned (.int .u64 q5) ∧ Sets bu 5 [(l0 R5), 0] W.drew w') := G5.out bu bd c1 W.drew (hU 5 (by simp)) (hU 6 (by simp)) (hD 0 (by simp)) (lU 5 (by simp)) (lU 6 (by simp))
  clear G5
  rw [rounds_succ]; go_wp2
  go_region_with (go_at_call 100; refine GG.out.mono ?_; rintro e w' ⟨rfl, S⟩; have sq := S.other (p := ⟨bq, 5, none⟩) c2; have sf := S.frozen)
  go_wp2
  replace S := (Sets.ofDraws (n := 1) S)
  refine rounds_world (fun W' => Below w.heap.size w W' ∧ Row W' bq [0, 0, 0, 0, 0, q5, q6, q7] ∧ Loose W' bq 8 ∧ Row W' br [0, 0, 0, 0] ∧ Loose W' br 4 ∧ Row W' bd [(l0 D), (l1 D), (l2 D), (l3 D)] ∧ Row W' bu [t0, t1, t2, t3, t4, (l0 R5), 0, 0, 0] ∧ Loose W' bu 9) ⟨(B.trans (S.below o6)).setCell o1 _, (hQ.other S c2).set 5 (by simp) _, (lQ.sets S).set _ _, (hR.other S c3).setOther c6 _, (lR.sets S).set _ _, (hD.other S (Ne.symm c1)).setOther c4 _, (hU.sets S (by simp)).setOther c2 _, (lU.sets S).set _ _⟩ ?_
  clear B hQ lQ hR lR hD hU lU gq GG sq sf S w'
  rintro W' ⟨B, hQ, lQ, hR, lR, hD, hU, lU⟩
  clear W
  generalize W' = W at *
  -- digit 4
  have gq : W.cell? ⟨bq, 4, none⟩ = some (.int .u64 0) ∧ W.frozen? ⟨bq, 4, none⟩ = false := ⟨hQ 4 (by simp), lQ 4 (by simp)⟩
  have GG : Hid (Calls Tryd.prog 100 #[.slice (some ⟨bu, 4, none⟩) 2 5, .slice (some ⟨bd, 0, none⟩) 1 4] W.drew fun e w' => e = .returned (.int .u64 q4) ∧ Sets bu 4 [(l0 R4), 0] W.drew w') := G4.out bu bd c1 W.drew (hU 4 (by simp)) (hU 5 (by simp)) (hD 0 (by simp)) (lU 4 (by simp)) (lU 5 (by simp))
  clear G4
  rw [rounds_succ]; go_wp2
  go_region_with (go_at_call 100; refine GG.out.mono ?_; rintro e w' ⟨rfl, S⟩; have sq := S.other (p := ⟨bq, 4, none⟩) c2; have sf := S.frozen)
  go_wp2
  replace S := (Sets.ofDraws (n := 1) S)
  refine rounds_world (fun W' => Below w.heap.size w W' ∧ Row W' bq [0, 0, 0, 0, q4, q5, q6, q7] ∧ Loose W' bq 8 ∧ Row W' br [0, 0, 0, 0] ∧ Loose W' br 4 ∧ Row W' bd [(l0 D), (l1 D), (l2 D), (l3 D)] ∧ Row W' bu [t0, t1, t2, t3, (l0 R4), 0, 0, 0, 0] ∧ Loose W' bu 9) ⟨(B.trans (S.below o6)).setCell o1 _, (hQ.other S c2).set 4 (by simp) _, (lQ.sets S).set _ _, (hR.other S c3).setOther c6 _, (lR.sets S).set _ _, (hD.other S (Ne.symm c1)).setOther c4 _, (hU.sets S (by simp)).setOther c2 _, (lU.sets S).set _ _⟩ ?_
  clear B hQ lQ hR lR hD hU lU gq GG sq sf S w'
  rintro W' ⟨B, hQ, lQ, hR, lR, hD, hU, lU⟩
  clear W
  generalize W' = W at *
  -- digit 3
  have gq : W.cell? ⟨bq, 3, none⟩ = some (.int .u64 0) ∧ W.frozen? ⟨bq, 3, none⟩ = false := ⟨hQ 3 (by simp), lQ 3 (by simp)⟩
  have GG : Hid (Calls Tryd.prog 100 #[.slice (some ⟨bu, 3, none⟩) 2 6, .slice (some ⟨bd, 0, none⟩) 1 4] W.drew fun e w' => e = .returned (.int .u64 q3) ∧ Sets bu 3 [(l0 R3), 0] W.drew w') := G3.out bu bd c1 W.drew (hU 3 (by simp)) (hU 4 (by simp)) (hD 0 (by simp)) (lU 3 (by simp)) (lU 4 (by simp))
  clear G3
  rw [rounds_succ]; go_wp2
  go_region_with (go_at_call 100; refine GG.out.mono ?_; rintro e w' ⟨rfl, S⟩; have sq := S.other (p := ⟨bq, 3, none⟩) c2; have sf := S.frozen)
  go_wp2
  replace S := (Sets.ofDraws (n := 1) S)
  refine rounds_world (fun W' => Below w.heap.size w W' ∧ Row W' bq [0, 0, 0, q3, q4, q5, q6, q7] ∧ Loose W' bq 8 ∧ Row W' br [0, 0, 0, 0] ∧ Loose W' br 4 ∧ Row W' bd [(l0 D), (l1 D), (l2 D), (l3 D)] ∧ Row W' bu [t0, t1, t2, (l0 R3), 0, 0, 0, 0, 0] ∧ Loose W' bu 9) ⟨(B.trans (S.below o6)).setCell o1 _, (hQ.other S c2).set 3 (by simp) _, (lQ.sets S).set _ _, (hR.other S c3).setOther c6 _, (lR.sets S).set _ _, (hD.other S (Ne.symm c1)).setOther c4 _, (hU.sets S (by simp)).setOther c2 _, (lU.sets S).set _ _⟩ ?_
  clear B hQ lQ hR lR hD hU lU gq GG sq sf S w'
  rintro W' ⟨B, hQ, lQ, hR, lR, hD, hU, lU⟩
  clear W
  generalize W' = W at *
  -- digit 2
  have gq : W.cell? ⟨bq, 2, none⟩ = some (.int .u64 0) ∧ W.frozen? ⟨bq, 2, none⟩ = false := ⟨hQ 2 (by simp), lQ 2 (by simp)⟩
  have GG : Hid (Calls Tryd.prog 100 #[.slice (some ⟨bu, 2, none⟩) 2 7, .slice (some ⟨bd, 0, none⟩) 1 4] W.drew fun e w' => e = .returned (.int .u64 q2) ∧ Sets bu 2 [(l0 R2), 0] W.drew w') := G2.out bu bd c1 W.drew (hU 2 (by simp)) (hU 3 (by simp)) (hD 0 (by simp)) (lU 2 (by simp)) (lU 3 (by simp))
  clear G2
  rw [rounds_succ]; go_wp2
  go_region_with (go_at_call 100; refine GG.out.mono ?_; rintro e w' ⟨rfl, S⟩; have sq := S.other (p := ⟨bq, 2, none⟩) c2; have sf := S.frozen)
  go_wp2
  replace S := (Sets.ofDraws (n := 1) S)
  refine rounds_world (fun W' => Below w.heap.size w W' ∧ Row W' bq [0, 0, q2, q3, q4, q5, q6, q7] ∧ Loose W' bq 8 ∧ Row W' br [0, 0, 0, 0] ∧ Loose W' br 4 ∧ Row W' bd [(l0 D), (l1 D), (l2 D), (l3 D)] ∧ Row W' bu [t0, t1, (l0 R2), 0, 0, 0, 0, 0, 0] ∧ Loose W' bu 9) ⟨(B.trans (S.below o6)).setCell o1 _, (hQ.other S c2).set 2 (by simp) _, (lQ.sets S).set _ _, (hR.other S c3).setOther c6 _, (lR.sets S).set _ _, (hD.other S (Ne.symm c1)).setOther c4 _, (hU.sets S (by simp)).setOther c2 _, (lU.sets S).set _ _⟩ ?_
  clear B hQ lQ hR lR hD hU lU gq GG sq sf S w'
  rintro W' ⟨B, hQ, lQ, hR, lR, hD, hU, lU⟩
  clear W
  generalize W' = W at *
  -- digit 1
  have gq : W.cell? ⟨bq, 1, none⟩ = some (.int .u64 0) ∧ W.frozen? ⟨bq, 1, none⟩ = false := ⟨hQ 1 (by simp), lQ 1 (by simp)⟩
  have GG : Hid (Calls Tryd.prog 100 #[.slice (some ⟨bu, 1, none⟩) 2 8, .slice (some ⟨bd, 0, none⟩) 1 4] W.drew fun e w' => e = .returned (.int .u64 q1) ∧ Sets bu 1 [(l0 R1), 0] W.drew w') := G1.out bu bd c1 W.drew (hU 1 (by simp)) (hU 2 (by simp)) (hD 0 (by simp)) (lU 1 (by simp)) (lU 2 (by simp))
  clear G1
  rw [rounds_succ]; go_wp2
  go_region_with (go_at_call 100; refine GG.out.mono ?_; rintro e w' ⟨rfl, S⟩; have sq := S.other (p := ⟨bq, 1, none⟩) c2; have sf := S.frozen)
  go_wp2
  replace S := (Sets.ofDraws (n := 1) S)
  refine rounds_world (fun W' => Below w.heap.size w W' ∧ Row W' bq [0, q1, q2, q3, q4, q5, q6, q7] ∧ Loose W' bq 8 ∧ Row W' br [0, 0, 0, 0] ∧ Loose W' br 4 ∧ Row W' bd [(l0 D), (l1 D), (l2 D), (l3 D)] ∧ Row W' bu [t0, (l0 R1), 0, 0, 0, 0, 0, 0, 0] ∧ Loose W' bu 9) ⟨(B.trans (S.below o6)).setCell o1 _, (hQ.other S c2).set 1 (by simp) _, (lQ.sets S).set _ _, (hR.other S c3).setOther c6 _, (lR.sets S).set _ _, (hD.other S (Ne.symm c1)).setOther c4 _, (hU.sets S (by simp)).setOther c2 _, (lU.sets S).set _ _⟩ ?_
  clear B hQ lQ hR lR hD hU lU gq GG sq sf S w'
  rintro W' ⟨B, hQ, lQ, hR, lR, hD, hU, lU⟩
  clear W
  generalize W' = W at *
  -- digit 0
  have gq : W.cell? ⟨bq, 0, none⟩ = some (.int .u64 0) ∧ W.frozen? ⟨bq, 0, none⟩ = false := ⟨hQ 0 (by simp), lQ 0 (by simp)⟩
  have GG : Hid (Calls Tryd.prog 100 #[.slice (some ⟨bu, 0, none⟩) 2 9, .slice (some ⟨bd, 0, none⟩) 1 4] W.drew fun e w' => e = .returned (.int .u64 q0) ∧ Sets bu 0 [(l0 R0), 0] W.drew w') := G0.out bu bd c1 W.drew (hU 0 (by simp)) (hU 1 (by simp)) (hD 0 (by simp)) (lU 0 (by simp)) (lU 1 (by simp))
  clear G0
  rw [rounds_succ]; go_wp2
  go_region_with (go_at_call 100; refine GG.out.mono ?_; rintro e w' ⟨rfl, S⟩; have sq := S.other (p := ⟨bq, 0, none⟩) c2; have sf := S.frozen)
  go_wp2
  replace S := (Sets.ofDraws (n := 1) S)
  refine rounds_world (fun W' => Below w.heap.size w W' ∧ Row W' bq [q0, q1, q2, q3, q4, q5, q6, q7] ∧ Loose W' bq 8 ∧ Row W' br [0, 0, 0, 0] ∧ Loose W' br 4 ∧ Row W' bd [(l0 D), (l1 D), (l2 D), (l3 D)] ∧ Row W' bu [(l0 R0), 0, 0, 0, 0, 0, 0, 0, 0] ∧ Loose W' bu 9) ⟨(B.trans (S.below o6)).setCell o1 _, (hQ.other S c2).set 0 (by simp) _, (lQ.sets S).set _ _, (hR.other S c3).setOther c6 _, (lR.sets S).set _ _, (hD.other S (Ne.symm c1)).setOther c4 _, (hU.sets S (by simp)).setOther c2 _, (lU.sets S).set _ _⟩ ?_
  clear B hQ lQ hR lR hD hU lU gq GG sq sf S w'
  rintro W' ⟨B, hQ, lQ, hR, lR, hD, hU, lU⟩
  clear W
  generalize W' = W at *
  rw [rounds_succ]; go_wp2
  have cp : (Builtin.copy_ #[109, 109] 3 #[.slice (some ⟨br, 0, none⟩) 4 4, .slice (some ⟨bu, 0, none⟩) 1 9]).run Tryd.prog W.drew = .ok (goInt 1) (W.setCell ⟨br, 0, none⟩ (.int .u64 (l0 R0))).drew := by
    refine (run_copy_cells (P := Tryd.prog) W.drew 109 109 3 22 br 0 4 4 ⟨bu, 0, none⟩ 1 9 [.int .u64 (l0 R0)] (by kernel_rfl) (by kernel_rfl) rfl ?_ ?_ ?_ ?_).trans rfl
    · intro j v hj
      match j, hj with
      | 0, hj => simp at hj; subst hj; exact hU 0 (by simp)
    · intro j hj
      simp at hj
      have e := hR j (by simp; omega)
      show (W.cell? ⟨br, 0 + j, none⟩).isSome = true
      rw [Nat.zero_add, e]
      rfl
    · intro j hj
      simp at hj
      show W.frozen? ⟨br, 0 + j, none⟩ = false
      rw [Nat.zero_add]
      exact lR j (by omega)
    · intro v hv
      simp only [List.mem_cons, List.not_mem_nil, or_false] at hv
      rcases hv with rfl <;> rfl
  go_region
  clear cp
  go_wp2_with fail
  refine wp_world (fun W' => Below w.heap.size w W' ∧ Row W' bq [q0, q1, q2, q3, q4, q5, q6, q7] ∧ Loose W' bq 8 ∧ Row W' br [(l0 R0), 0, 0, 0] ∧ Loose W' br 4) ⟨?_, ?_, ?_, ?_, ?_⟩ ?_
  · repeat (first | with_reducible refine Below.drew ?_ | with_reducible refine Below.setCell ?_ o2 _ | exact B)
  · exact (hQ.setOther (p := ⟨br, 0, none⟩) c6' _).drew
  · exact (lQ.set ⟨br, 0, none⟩ _).drew
  · exact (hR.set 0 (by simp) _).drew
  · exact (lR.set ⟨br, 0, none⟩ _).drew
  clear B hQ lQ hR lR hD hU lU
  rintro W' ⟨B, hQ, lQ, hR, lR⟩
  clear W
  generalize W' = W at *
  rw [show ([(l0 R0), 0, 0, 0] : List Int) = [l0 R0, l1 R0, l2 R0, l3 R0] by
    have := RR.out
    simp only [List.cons.injEq, and_true, true_and]
    unfold l1 l2 l3; omega] at hR
  clear RR
  have bl : bq < W.heap.size := hQ.lt (by simp)
  have bl' : br < W.heap.size := hR.lt (by simp)
  have gq : W.cell? ⟨bq, 0, none⟩ = some (.int .u64 q0) ∧ W.cell? ⟨bq, 1, none⟩ = some (.int .u64 q1) ∧ W.cell? ⟨bq, 2, none⟩ = some (.int .u64 q2) ∧ W.cell? ⟨bq, 3, none⟩ = some (.int .u64 q3) ∧ W.cell? ⟨bq, 4, none⟩ = some (.int .u64 q4) ∧ W.cell? ⟨bq, 5, none⟩ = some (.int .u64 q5) ∧ W.cell? ⟨bq, 6, none⟩ = some (.int .u64 q6) ∧ W.cell? ⟨bq, 7, none⟩ = some (.int .u64 q7) := ⟨hQ 0 (by simp), hQ 1 (by simp), hQ 2 (by simp), hQ 3 (by simp), hQ 4 (by simp), hQ 5 (by simp), hQ 6 (by simp), hQ 7 (by simp)⟩
  have gr : W.cell? ⟨br, 0, none⟩ = some (.int .u64 (l0 R0)) ∧ W.cell? ⟨br, 1, none⟩ = some (.int .u64 (l1 R0)) ∧ W.cell? ⟨br, 2, none⟩ = some (.int .u64 (l2 R0)) ∧ W.cell? ⟨br, 3, none⟩ = some (.int .u64 (l3 R0)) := ⟨hR 0 (by simp), hR 1 (by simp), hR 2 (by simp), hR 3 (by simp)⟩
  have fq : W.frozen? ⟨bq, 0, none⟩ = false ∧ W.frozen? ⟨bq, 1, none⟩ = false ∧ W.frozen? ⟨bq, 2, none⟩ = false ∧ W.frozen? ⟨bq, 3, none⟩ = false ∧ W.frozen? ⟨bq, 4, none⟩ = false ∧ W.frozen? ⟨bq, 5, none⟩ = false ∧ W.frozen? ⟨bq, 6, none⟩ = false ∧ W.frozen? ⟨bq, 7, none⟩ = false := ⟨lQ 0 (by simp), lQ 1 (by simp), lQ 2 (by simp), lQ 3 (by simp), lQ 4 (by simp), lQ 5 (by simp), lQ 6 (by simp), lQ 7 (by simp)⟩
  have fr : W.frozen? ⟨br, 0, none⟩ = false ∧ W.frozen? ⟨br, 1, none⟩ = false ∧ W.frozen? ⟨br, 2, none⟩ = false ∧ W.frozen? ⟨br, 3, none⟩ = false := ⟨lR 0 (by simp), lR 1 (by simp), lR 2 (by simp), lR 3 (by simp)⟩
  clear hQ lQ hR lR
  go_region_with (go_at_call 69; refine (SR.out _).mono ?_; rintro e w' ⟨rfl, hb⟩; have cq := fun j => oldCells hb bq j bl; have cr := fun j => oldCells hb br j bl')
  all_goals
    go_wp2
    simp [bodyPost, results, Tryd.results79, go_sem, cq, cr, gq, gr]
    repeat (first | (with_reducible refine Below.setCell ?_ (by first | exact o1 | exact o2) _) | exact B.drew.trans (hb.mono B.drew.size))

end Go.Proofs.YtjppjieidjodfaaDoor

namespace Go.Proofs.YtjppjieidjodfaaDoor
open Go.RowKit

set_option maxHeartbeats 8000000 in
theorem divide_2 {x0 x1 x2 x3 x4 x5 x6 x7 m s L D t0 t1 t2 t3 t4 t5 t6 t7 t8 R0 R1 R2 R3 R4 R5 R6 R7 q0 q1 q2 q3 q4 q5 q6 : Int} (hm : Num m) (L0 : 0 ≤ L) (L1 : L ≤ 256) (eL : lenN m = L) (hL : (L + 63) / 64 = 2) (s0 : 0 ≤ s) (s1 : s ≤ 63)
    (lz : ∀ w, Calls Tryd.prog 98 #[.int .u64 (l1 m)] w fun e w' => e = .returned (.int .i64 s) ∧ w' = w)
    (eD : upN m s = D) (hn : 9223372036854775808 ≤ l1 D) (vD : val [(l0 D), (l1 D)] = D) (bD : D < 340282366920938463463374607431768211456)
    (wt : Words [t0, t1, t2, t3, t4, t5, t6, t7, t8])
    (li : ∀ w : World, Calls Tryd.prog 99 #[.agg #[.int .u64 x0, .int .u64 x1, .int .u64 x2, .int .u64 x3, .int .u64 x4, .int .u64 x5, .int .u64 x6, .int .u64 x7], .int .i64 s] w fun e w' => e = .returned (.agg #[.int .u64 t0, .int .u64 t1, .int .u64 t2, .int .u64 t3, .int .u64 t4, .int .u64 t5, .int .u64 t6, .int .u64 t7, .int .u64 t8]) ∧ Below w.heap.size w w')
    (r7 : val [t7, t8] = R7) (g7 : R7 < D)
    (e6 : (t6 + 18446744073709551616 * R7) / D = q6) (r6 : (t6 + 18446744073709551616 * R7) % D = R6) (e5 : (t5 + 18446744073709551616 * R6) / D = q5) (r5 : (t5 + 18446744073709551616 * R6) % D = R5) (e4 : (t4 + 18446744073709551616 * R5) / D = q4) (r4 : (t4 + 18446744073709551616 * R5) % D = R4) (e3 : (t3 + 18446744073709551616 * R4) / D = q3) (r3 : (t3 + 18446744073709551616 * R4) % D = R3) (e2 : (t2 + 18446744073709551616 * R3) / D = q2) (r2 : (t2 + 18446744073709551616 * R3) % D = R2) (e1 : (t1 + 18446744073709551616 * R2) / D = q1) (r1 : (t1 + 18446744073709551616 * R2) % D = R1) (e0 : (t0 + 18446744073709551616 * R1) / D = q0) (r0 : (t0 + 18446744073709551616 * R1) % D = R0)
    (w : World) :
    Calls Tryd.prog 79 #[.agg #[.int .u64 x0, .int .u64 x1, .int .u64 x2, .int .u64 x3, .int .u64 x4, .int .u64 x5, .int .u64 x6, .int .u64 x7], .agg #[.int .u64 (l0 m), .int .u64 (l1 m), .int .u64 (l2 m), .int .u64 (l3 m)]] w fun e w' =>
      e = .returned (.tuple #[.agg #[.int .u64 q0, .int .u64 q1, .int .u64 q2, .int .u64 q3, .int .u64 q4, .int .u64 q5, .int .u64 q6, .int .u64 0], .agg #[.int .u64 (l0 (downN R0 s)), .int .u64 (l1 (downN R0 s)), .int .u64 (l2 (downN R0 s)), .int .u64 (l3 (downN R0 s))]]) ∧ Below w.heap.size w w' := by
  have D0 : 0 < D := by
    have := l0_word D; have := l1_word D; have := l2_word D; have := l3_word D
    unfold Word at *
    rw [← vD]
    simp only [val]
    omega
  have WD : Words [(l0 D), (l1 D)] := by
    intro x hx
    simp only [List.mem_cons, List.not_mem_nil, or_false] at hx
    rcases hx with rfl | rfl
    · exact l0_word D
    · exact l1_word D
  have n7 : 0 ≤ R7 := by rw [← r7]; exact (val_nonneg (fun x hx => wt x (List.mem_of_mem_drop (show x ∈ [t0, t1, t2, t3, t4, t5, t6, t7, t8].drop 7 from hx)))).1
  have n6 : 0 ≤ R6 := by rw [← r6]; exact Int.emod_nonneg _ (by omega)
  have g6 : R6 < D := by rw [← r6]; exact Int.emod_lt_of_pos _ D0
  have n5 : 0 ≤ R5 := by rw [← r5]; exact Int.emod_nonneg _ (by omega)
  have g5 : R5 < D := by rw [← r5]; exact Int.emod_lt_of_pos _ D0
  have n4 : 0 ≤ R4 := by rw [← r4]; exact Int.emod_nonneg _ (by omega)
  have g4 : R4 < D := by rw [← r4]; exact Int.emod_lt_of_pos _ D0
  have n3 : 0 ≤ R3 := by rw [← r3]; exact Int.emod_nonneg _ (by omega)
  have g3 : R3 < D := by rw [← r3]; exact Int.emod_lt_of_pos _ D0
  have n2 : 0 ≤ R2 := by rw [← r2]; exact Int.emod_nonneg _ (by omega)
  have g2 : R2 < D := by rw [← r2]; exact Int.emod_lt_of_pos _ D0
  have n1 : 0 ≤ R1 := by rw [← r1]; exact Int.emod_nonneg _ (by omega)
  have g1 : R1 < D := by rw [← r1]; exact Int.emod_lt_of_pos _ D0
  have n0 : 0 ≤ R0 := by rw [← r0]; exact Int.emod_nonneg _ (by omega)
  have g0 : R0 < D := by rw [← r0]; exact Int.emod_lt_of_pos _ D0
  have G6 : Hid (∀ (bu bd : Nat), bu ≠ bd → ∀ w, w.cell? ⟨bu, 6, none⟩ = some (.int .u64 t6) → w.cell? ⟨bu, 7, none⟩ = some (.int .u64 (l0 R7)) → w.cell? ⟨bu, 8, none⟩ = some (.int .u64 (l1 R7)) → w.cell? ⟨bd, 0, none⟩ = some (.int .u64 (l0 D)) → w.cell? ⟨bd, 1, none⟩ = some (.int .u64 (l1 D)) → w.frozen? ⟨bu, 6, none⟩ = false → w.frozen? ⟨bu, 7, none⟩ = false → w.frozen? ⟨bu, 8, none⟩ = false → Calls Tryd.prog 100 #[.slice (some ⟨bu, 6, none⟩) 3 3, .slice (some ⟨bd, 0, none⟩) 2 4] w fun e w' => e = .returned (.int .u64 q6) ∧ Sets bu 6 [(l0 R6), (l1 R6), 0] w w') := by
    intro bu bd ne w a0 a1 a2 b0 b1 c0 c1 c2
    have h : val [(l0 R7), (l1 R7)] = R7 := by
      simp only [val]; unfold l0 l1; omega
    have vU : val [t6, (l0 R7), (l1 R7)] = t6 + 18446744073709551616 * R7 := congrArg (fun v => t6 + 18446744073709551616 * v) h
    have wt6 := wt t6 (by simp)
    have d := digit_2 (o := 6) (ku := 3) (kd := 4) wt6 (l0_word R7) (l1_word R7) (l0_word D) (l1_word D) hn (by rw [vU, vD]; obtain ⟨_, _⟩ := wt6; omega) ne w a0 a1 a2 b0 b1 c0 c1 c2
    rw [vU, vD, e6, r6] at d
    refine d.mono ?_
    rintro e w' ⟨rfl, vs, S, ln, wv, ev⟩
    rw [limbs_2 ln wv ev (by omega)] at S
    exact ⟨rfl, S⟩
  have G5 : Hid (∀ (bu bd : Nat), bu ≠ bd → ∀ w, w.cell? ⟨bu, 5, none⟩ = some (.int .u64 t5) → w.cell? ⟨bu, 6, none⟩ = some (.int .u64 (l0 R6)) → w.cell? ⟨bu, 7, none⟩ = some (.int .u64 (l1 R6)) → w.cell? ⟨bd, 0, none⟩ = some (.int .u64 (l0 D)) → w.cell? ⟨bd, 1, none⟩ = some (.int .u64 (l1 D)) → w.frozen? ⟨bu, 5, none⟩ = false → w.frozen? ⟨bu, 6, none⟩ = false → w.frozen? ⟨bu, 7, none⟩ = false → Calls Tryd.prog 100 #[.slice (some ⟨bu, 5, none⟩) 3 4, .slice (some ⟨bd, 0, none⟩) 2 4] w fun e w' => e = .returned (.int .u64 q5) ∧ Sets bu 5 [(l0 R5), (l1 R5), 0] w w') := by
    intro bu bd ne w a0 a1 a2 b0 b1 c0 c1 c2
    have h : val [(l0 R6), (l1 R6)] = R6 := by
      simp only [val]; unfold l0 l1; omega
    have vU : val [t5, (l0 R6), (l1 R6)] = t5 + 18446744073709551616 * R6 := congrArg (fun v => t5 + 18446744073709551616 * v) h
    have wt5 := wt t5 (by simp)
    have d := digit_2 (o := 5) (ku := 4) (kd := 4) wt5 (l0_word R6) (l1_word R6) (l0_word D) (l1_word D) hn (by rw [vU, vD]; obtain ⟨_, _⟩ := wt5; omega) ne w a0 a1 a2 b0 b1 c0 c1 c2
    rw [vU, vD, e5, r5] at d
    refine d.mono ?_
    rintro e w' ⟨rfl, vs, S, ln, wv, ev⟩
    rw [limbs_2 ln wv ev (by omega)] at S
    exact ⟨rfl, S⟩
  have G4 : Hid (∀ (bu bd : Nat), bu ≠ bd → ∀ w, w.cell? ⟨bu, 4, none⟩ = some (.int .u64 t4) → w.cell? ⟨bu, 5, none⟩ = some (.int .u64 (l0 R5)) → w.cell? ⟨bu, 6, none⟩ = some (.int .u64 (l1 R5)) → w.cell? ⟨bd, 0, none⟩ = some (.int .u64 (l0 D)) → w.cell? ⟨bd, 1, none⟩ = some (.int .u64 (l1 D)) → w.frozen? ⟨bu, 4, none⟩ = false → w.frozen? ⟨bu, 5, none⟩ = false → w.frozen? ⟨bu, 6, none⟩ = false → Calls Tryd.prog 100 #[.slice (some ⟨bu, 4, none⟩) 3 5, .slice (some ⟨bd, 0, none⟩) 2 4] w fun e w' => e = .returned (.int .u64 q4) ∧ Sets bu 4 [(l0 R4), (l1 R4), 0] w w') := by
    intro bu bd ne w a0 a1 a2 b0 b1 c0 c1 c2
    have h : val [(l0 R5), (l1 R5)] = R5 := by
      simp only [val]; unfold l0 l1; omega
    have vU : val [t4, (l0 R5), (l1 R5)] = t4 + 18446744073709551616 * R5 := congrArg (fun v => t4 + 18446744073709551616 * v) h
    have wt4 := wt t4 (by simp)
    have d := digit_2 (o := 4) (ku := 5) (kd := 4) wt4 (l0_word R5) (l1_word R5) (l0_word D) (l1_word D) hn (by rw [vU, vD]; obtain ⟨_, _⟩ := wt4; omega) ne w a0 a1 a2 b0 b1 c0 c1 c2
    rw [vU, vD, e4, r4] at d
    refine d.mono ?_
    rintro e w' ⟨rfl, vs, S, ln, wv, ev⟩
    rw [limbs_2 ln wv ev (by omega)] at S
    exact ⟨rfl, S⟩
  have G3 : Hid (∀ (bu bd : Nat), bu ≠ bd → ∀ w, w.cell? ⟨bu, 3, none⟩ = some (.int .u64 t3) → w.cell? ⟨bu, 4, none⟩ = some (.int .u64 (l0 R4)) → w.cell? ⟨bu, 5, none⟩ = some (.int .u64 (l1 R4)) → w.cell? ⟨bd, 0, none⟩ = some (.int .u64 (l0 D)) → w.cell? ⟨bd, 1, none⟩ = some (.int .u64 (l1 D)) → w.frozen? ⟨bu, 3, none⟩ = false → w.frozen? ⟨bu, 4, none⟩ = false → w.frozen? ⟨bu, 5, none⟩ = false → Calls Tryd.prog 100 #[.slice (some ⟨bu, 3, none⟩) 3 6, .slice (some ⟨bd, 0, none⟩) 2 4] w fun e w' => e = .returned (.int .u64 q3) ∧ Sets bu 3 [(l0 R3), (l1 R3), 0] w w') := by
    intro bu bd ne w a0 a1 a2 b0 b1 c0 c1 c2
    have h : val [(l0 R4), (l1 R4)] = R4 := by
      simp only [val]; unfold l0 l1; omega
    have vU : val [t3, (l0 R4), (l1 R4)] = t3 + 18446744073709551616 * R4 := congrArg (fun v => t3 + 18446744073709551616 * v) h
    have wt3 := wt t3 (by simp)
    have d := digit_2 (o := 3) (ku := 6) (kd := 4) wt3 (l0_word R4) (l1_word R4) (l0_word D) (l1_word D) hn (by rw [vU, vD]; obtain ⟨_, _⟩ := wt3; omega) ne w a0 a1 a2 b0 b1 c0 c1 c2
    rw [vU, vD, e3, r3] at d
    refine d.mono ?_
    rintro e w' ⟨rfl, vs, S, ln, wv, ev⟩
    rw [limbs_2 ln wv ev (by omega)] at S
    exact ⟨rfl, S⟩
  have G2 : Hid (∀ (bu bd : Nat), bu ≠ bd → ∀ w, w.cell? ⟨bu, 2, none⟩ = some (.int .u64 t2) → w.cell? ⟨bu, 3, none⟩ = some (.int .u64 (l0 R3)) → w.cell? ⟨bu, 4, none⟩ = some (.int .u64 (l1 R3)) → w.cell? ⟨bd, 0, none⟩ = some (.int .u64 (l0 D)) → w.cell? ⟨bd, 1, none⟩ = some (.int .u64 (l1 D)) → w.frozen? ⟨bu, 2, none⟩ = false → w.frozen? ⟨bu, 3, none⟩ = false → w.frozen? ⟨bu, 4, none⟩ = false → Calls Tryd.prog 100 #[.slice (some ⟨bu, 2, none⟩) 3 7, .slice (some ⟨bd, 0, none⟩) 2 4] w fun e w' => e = .returned (.int .u64 q2) ∧ Sets bu 2 [(l0 R2), (l1 R2), 0] w w') := by
    intro bu bd ne w a0 a1 a2 b0 b1 c0 c1 c2
    have h : val [(l0 R3), (l1 R3)] = R3 := by
      simp only [val]; unfold l0 l1; omega
    have vU : val [t2, (l0 R3), (l1 R3)] = t2 + 18446744073709551616 * R3 := congrArg (fun v => t2 + 18446744073709551616 * v) h
    have wt2 := wt t2 (by simp)
    have d := digit_2 (o := 2) (ku := 7) (kd := 4) wt2 (l0_word R3) (l1_word R3) (l0_word D) (l1_word D) hn (by rw [vU, vD]; obtain ⟨_, _⟩ := wt2; omega) ne w a0 a1 a2 b0 b1 c0 c1 c2
    rw [vU, vD, e2, r2] at d
    refine d.mono ?_
    rintro e w' ⟨rfl, vs, S, ln, wv, ev⟩
    rw [limbs_2 ln wv ev (by omega)] at S
    exact ⟨rfl, S⟩
  have G1 : Hid (∀ (bu bd : Nat), bu ≠ bd → ∀ w, w.cell? ⟨bu, 1, none⟩ = some (.int .u64 t1) → w.cell? ⟨bu, 2, none⟩ = some (.int .u64 (l0 R2)) → w.cell? ⟨bu, 3, none⟩ = some (.int .u64 (l1 R2)) → w.cell? ⟨bd, 0, none⟩ = some (.int .u64 (l0 D)) → w.cell? ⟨bd, 1, none⟩ = some (.int .u64 (l1 D)) → w.frozen? ⟨bu, 1, none⟩ = false → w.frozen? ⟨bu, 2, none⟩ = false → w.frozen? ⟨bu, 3, none⟩ = false → Calls Tryd.prog 100 #[.slice (some ⟨bu, 1, none⟩) 3 8, .slice (some ⟨bd, 0, none⟩) 2 4] w fun e w' => e = .returned (.int .u64 q1) ∧ Sets bu 1 [(l0 R1), (l1 R1), 0] w w') := by
    intro bu bd ne w a0 a1 a2 b0 b1 c0 c1 c2
    have h : val [(l0 R2), (l1 R2)] = R2 := by
      simp only [val]; unfold l0 l1; omega
    have vU : val [t1, (l0 R2), (l1 R2)] = t1 + 18446744073709551616 * R2 := congrArg (fun v => t1 + 18446744073709551616 * v) h
    have wt1 := wt t1 (by simp)
    have d := digit_2 (o := 1) (ku := 8) (kd := 4) wt1 (l0_word R2) (l1_word R2) (l0_word D) (l1_word D) hn (by rw [vU, vD]; obtain ⟨_, _⟩ := wt1; omega) ne w a0 a1 a2 b0 b1 c0 c1 c2
    rw [vU, vD, e1, r1] at d
    refine d.mono ?_
    rintro e w' ⟨rfl, vs, S, ln, wv, ev⟩
    rw [limbs_2 ln wv ev (by omega)] at S
    exact ⟨rfl, S⟩
  have G0 : Hid (∀ (bu bd : Nat), bu ≠ bd → ∀ w, w.cell? ⟨bu, 0, none⟩ = some (.int .u64 t0) → w.cell? ⟨bu, 1, none⟩ = some (.int .u64 (l0 R1)) → w.cell? ⟨bu, 2, none⟩ = some (.int .u64 (l1 R1)) → w.cell? ⟨bd, 0, none⟩ = some (.int .u64 (l0 D)) → w.cell? ⟨bd, 1, none⟩ = some (.int .u64 (l1 D)) → w.frozen? ⟨bu, 0, none⟩ = false → w.frozen? ⟨bu, 1, none⟩ = false → w.frozen? ⟨bu, 2, none⟩ = false → Calls Tryd.prog 100 #[.slice (some ⟨bu, 0, none⟩) 3 9, .slice (some ⟨bd, 0, none⟩) 2 4] w fun e w' => e = .returned (.int .u64 q0) ∧ Sets bu 0 [(l0 R0), (l1 R0), 0] w w') := by
    intro bu bd ne w a0 a1 a2 b0 b1 c0 c1 c2
    have h : val [(l0 R1), (l1 R1)] = R1 := by
      simp only [val]; unfold l0 l1; omega
    have vU : val [t0, (l0 R1), (l1 R1)] = t0 + 18446744073709551616 * R1 := congrArg (fun v => t0 + 18446744073709551616 * v) h
    have wt0 := wt t0 (by simp)
    have d := digit_2 (o := 0) (ku := 9) (kd := 4) wt0 (l0_word R1) (l1_word R1) (l0_word D) (l1_word D) hn (by rw [vU, vD]; obtain ⟨_, _⟩ := wt0; omega) ne w a0 a1 a2 b0 b1 c0 c1 c2
    rw [vU, vD, e0, r0] at d
    refine d.mono ?_
    rintro e w' ⟨rfl, vs, S, ln, wv, ev⟩
    rw [limbs_2 ln wv ev (by omega)] at S
    exact ⟨rfl, S⟩
  have tops : t7 = l0 R7 ∧ t8 = l1 R7 := by
    obtain ⟨_, _⟩ := wt t7 (by simp)
    obtain ⟨_, _⟩ := wt t8 (by simp)
    rw [← r7]
    simp only [val]
    unfold l0 l1
    omega
  have SR : Hid (∀ w, Calls Tryd.prog 69 #[.agg #[.int .u64 (l0 R0), .int .u64 (l1 R0), .int .u64 (l2 R0), .int .u64 (l3 R0)], .int .i64 s] w fun e w' => e = .returned (.agg #[.int .u64 (l0 (downN R0 s)), .int .u64 (l1 (downN R0 s)), .int .u64 (l2 (downN R0 s)), .int .u64 (l3 (downN R0 s))]) ∧ Below w.heap.size w w') := fun w => shr_near ⟨n0, by omega⟩ s0 (by omega) w
  have LZ : Hid (∀ w, Calls Tryd.prog 98 #[.int .u64 (l1 m)] w fun e w' => e = .returned (.int .i64 s) ∧ w' = w) := lz
  have LI : Hid (∀ w : World, Calls Tryd.prog 99 #[.agg #[.int .u64 x0, .int .u64 x1, .int .u64 x2, .int .u64 x3, .int .u64 x4, .int .u64 x5, .int .u64 x6, .int .u64 x7], .int .i64 s] w fun e w' => e = .returned (.agg #[.int .u64 t0, .int .u64 t1, .int .u64 t2, .int .u64 t3, .int .u64 t4, .int .u64 t5, .int .u64 t6, .int .u64 t7, .int .u64 t8]) ∧ Below w.heap.size w w') := li
  have LE := len_any hm
  rw [eL] at LE
  have LE' : Hid (∀ w, Calls Tryd.prog 25 #[.agg #[.int .u64 (l0 m), .int .u64 (l1 m), .int .u64 (l2 m), .int .u64 (l3 m)]] w fun e w' => e = .returned (.int .i64 L) ∧ Below w.heap.size w w') := LE
  have SH := fun w => shl_near (n := m) hm s0 (by omega) w
  rw [eD] at SH
  have SH' : Hid (∀ w, Calls Tryd.prog 27 #[.agg #[.int .u64 (l0 m), .int .u64 (l1 m), .int .u64 (l2 m), .int .u64 (l3 m)], .int .i64 s] w fun e w' => e = .returned (.agg #[.int .u64 (l0 D), .int .u64 (l1 D), .int .u64 (l2 D), .int .u64 (l3 D)]) ∧ Below w.heap.size w w') := SH
  have TT : Hid (t7 = l0 R7 ∧ t8 = l1 R7) := tops
  have RR : Hid (R0 < 340282366920938463463374607431768211456 ∧ 0 ≤ R0) := ⟨by omega, n0⟩
  clear lz li LE SH eL eD hm hn vD bD wt tops WD D0 r0 g0 n0 r1 g1 n1 r2 g2 n2 r3 g3 n3 r4 g4 n4 r5 g5 n5 r6 g6 n6 r7 g7 n7 e0 e1 e2 e3 e4 e5 e6
  go_enter Tryd.func79, Tryd.ntmps79
  go_wp2_with fail
  refine calls_world (fun W => Below w.heap.size w W ∧ Row W w.heap.size [x0, x1, x2, x3, x4, x5, x6, x7] ∧ Hold W (w.heap.size + 1) m ∧ Row W (w.heap.size + 1 + 1) [0, 0, 0, 0, 0, 0, 0, 0] ∧ Loose W (w.heap.size + 1 + 1) 8 ∧ Row W (w.heap.size + 1 + 1 + 1) [0, 0, 0, 0] ∧ Loose W (w.heap.size + 1 + 1 + 1) 4 ∧ w.heap.size + 1 + 1 + 1 < W.heap.size) ⟨?_, ?_, ?_, ?_, ?_, ?_, ?_, ?_⟩ ?_
  · repeat (first | with_reducible exact Below.refl _ _ | with_reducible refine Below.alloc ?_ (by first | omega | (simp; done) | (simp; omega)) _)
  · exact (((Row.new w [x0, x1, x2, x3, x4, x5, x6, x7] _).alloc _).alloc _).alloc _
  · have := Hold.new (w.alloc (.cells #[.int .u64 x0, .int .u64 x1, .int .u64 x2, .int .u64 x3, .int .u64 x4, .int .u64 x5, .int .u64 x6, .int .u64 x7] 91)) m 24
    simp at this
    exact (this.alloc _).alloc _
  · have := Row.new ((w.alloc (.cells #[.int .u64 x0, .int .u64 x1, .int .u64 x2, .int .u64 x3, .int .u64 x4, .int .u64 x5, .int .u64 x6, .int .u64 x7] 91)).alloc (.cells #[.int .u64 (l0 m), .int .u64 (l1 m), .int .u64 (l2 m), .int .u64 (l3 m)] 24)) [0, 0, 0, 0, 0, 0, 0, 0] 91
    simp at this
    exact this.alloc _
  · have := Loose.new ((w.alloc (.cells #[.int .u64 x0, .int .u64 x1, .int .u64 x2, .int .u64 x3, .int .u64 x4, .int .u64 x5, .int .u64 x6, .int .u64 x7] 91)).alloc (.cells #[.int .u64 (l0 m), .int .u64 (l1 m), .int .u64 (l2 m), .int .u64 (l3 m)] 24)) #[.int .u64 0, .int .u64 0, .int .u64 0, .int .u64 0, .int .u64 0, .int .u64 0, .int .u64 0, .int .u64 0] 91 8
    simp at this
    exact this.alloc (by simp) _
  · have := Row.new (((w.alloc (.cells #[.int .u64 x0, .int .u64 x1, .int .u64 x2, .int .u64 x3, .int .u64 x4, .int .u64 x5, .int .u64 x6, .int .u64 x7] 91)).alloc (.cells #[.int .u64 (l0 m), .int .u64 (l1 m), .int .u64 (l2 m), .int .u64 (l3 m)] 24)).alloc (.cells #[.int .u64 0, .int .u64 0, .int .u64 0, .int .u64 0, .int .u64 0, .int .u64 0, .int .u64 0, .int .u64 0] 91)) [0, 0, 0, 0] 24
    simp at this
    exact this
  · have := Loose.new (((w.alloc (.cells #[.int .u64 x0, .int .u64 x1, .int .u64 x2, .int .u64 x3, .int .u64 x4, .int .u64 x5, .int .u64 x6, .int .u64 x7] 91)).alloc (.cells #[.int .u64 (l0 m), .int .u64 (l1 m), .int .u64 (l2 m), .int .u64 (l3 m)] 24)).alloc (.cells #[.int .u64 0, .int .u64 0, .int .u64 0, .int .u64 0, .int .u64 0, .int .u64 0, .int .u64 0, .int .u64 0] 91)) #[.int .u64 0, .int .u64 0, .int .u64 0, .int .u64 0] 24 4
    simp at this
    exact this
  · simp
  rintro W ⟨B, hX, hM, hQ, lQ, hR, lR, hlt⟩
  have o1 : w.heap.size ≤ w.heap.size + 1 + 1 := by omega
  have o2 : w.heap.size ≤ w.heap.size + 1 + 1 + 1 := by omega
  have o3 : w.heap.size + 1 + 1 < w.heap.size + 1 + 1 + 1 := by omega
  generalize w.heap.size + 1 + 1 + 1 = br at *
  generalize w.heap.size + 1 + 1 = bq at *
  generalize w.heap.size + 1 = bm at *
  refine (LE'.out W).mono ?_
  rintro e w1 ⟨rfl, hb⟩
  replace B := B.trans (hb.mono B.size)
  replace lQ := lQ.keep hb (by omega); replace lR := lR.keep hb (by omega)
  replace hX := hX.keep hb; replace hM := hM.keep hb; replace hQ := hQ.keep hb; replace hR := hR.keep hb
  replace hlt := Nat.lt_of_lt_of_le hlt hb.size
  clear hb W LE'
  have gM := hM.cells
  go_wp2_with fail
  refine (LZ.out _).mono ?_
  rintro e w' ⟨rfl, rfl⟩
  go_wp2_with fail
  refine (SH'.out _).mono ?_
  rintro e w2 ⟨rfl, hb⟩
  replace B := B.trans (hb.mono B.size)
  replace lQ := lQ.keep hb (by omega); replace lR := lR.keep hb (by omega)
  replace hX := hX.keep hb; replace hQ := hQ.keep hb; replace hR := hR.keep hb
  replace hlt := Nat.lt_of_lt_of_le hlt hb.size
  clear hb gM hM SH' LZ
  have gX : ∀ o, (w2.alloc o).cell? ⟨w.heap.size, 0, none⟩ = some (.int .u64 x0) ∧ (w2.alloc o).cell? ⟨w.heap.size, 1, none⟩ = some (.int .u64 x1) ∧ (w2.alloc o).cell? ⟨w.heap.size, 2, none⟩ = some (.int .u64 x2) ∧ (w2.alloc o).cell? ⟨w.heap.size, 3, none⟩ = some (.int .u64 x3) ∧ (w2.alloc o).cell? ⟨w.heap.size, 4, none⟩ = some (.int .u64 x4) ∧ (w2.alloc o).cell? ⟨w.heap.size, 5, none⟩ = some (.int .u64 x5) ∧ (w2.alloc o).cell? ⟨w.heap.size, 6, none⟩ = some (.int .u64 x6) ∧ (w2.alloc o).cell? ⟨w.heap.size, 7, none⟩ = some (.int .u64 x7) := fun o => ⟨(hX.alloc o) 0 (by simp), (hX.alloc o) 1 (by simp), (hX.alloc o) 2 (by simp), (hX.alloc o) 3 (by simp), (hX.alloc o) 4 (by simp), (hX.alloc o) 5 (by simp), (hX.alloc o) 6 (by simp), (hX.alloc o) 7 (by simp)⟩
  go_wp2_with fail
  refine calls_world (fun W => Below w.heap.size w W ∧ Row W bq [0, 0, 0, 0, 0, 0, 0, 0] ∧ Loose W bq 8 ∧ Row W br [0, 0, 0, 0] ∧ Loose W br 4 ∧ br < W.heap.size ∧ Row W w2.heap.size [(l0 D), (l1 D), (l2 D), (l3 D)] ∧ w2.heap.size < W.heap.size ∧ br < w2.heap.size) ⟨B.alloc B.size _, hQ.alloc _, lQ.alloc (by omega) _, hR.alloc _, lR.alloc (by omega) _, by simp; omega, Row.new w2 [(l0 D), (l1 D), (l2 D), (l3 D)] _, by simp, hlt⟩ ?_
  clear B hX hQ lQ hR lR gX hlt
  rintro W ⟨B, hQ, lQ, hR, lR, hlt, hD, hlt2, o4⟩
  generalize w2.heap.size = bd at *
  refine (LI.out W).mono ?_
  rintro e w3 ⟨rfl, hb⟩
  replace B := B.trans (hb.mono B.size)
  replace lQ := lQ.keep hb (by omega); replace lR := lR.keep hb (by omega)
  replace hD := hD.keep hb; replace hQ := hQ.keep hb; replace hR := hR.keep hb
  replace hlt2 := Nat.lt_of_lt_of_le hlt2 hb.size
  clear hb hlt LI
  go_wp2_with fail
  refine wp_world (fun W => Below w.heap.size w W ∧ Row W bq [0, 0, 0, 0, 0, 0, 0, 0] ∧ Loose W bq 8 ∧ Row W br [0, 0, 0, 0] ∧ Loose W br 4 ∧ Row W bd [(l0 D), (l1 D), (l2 D), (l3 D)] ∧ Row W w3.heap.size [t0, t1, t2, t3, t4, t5, t6, t7, t8] ∧ Loose W w3.heap.size 9 ∧ bd < w3.heap.size) ⟨B.alloc B.size _, hQ.alloc _, lQ.alloc (by omega) _, hR.alloc _, lR.alloc (by omega) _, hD.alloc _, Row.new w3 [t0, t1, t2, t3, t4, t5, t6, t7, t8] _, Loose.new w3 _ _ 9, hlt2⟩ ?_
  clear B hQ lQ hR lR hD hlt2
  rintro W ⟨B, hQ, lQ, hR, lR, hD, hU, lU, o5⟩
  generalize w3.heap.size = bu at *
  have o6 : w.heap.size ≤ bu := by omega
  have c1 : bu ≠ bd := by omega
  have c2 : bq ≠ bu := by omega
  have c3 : br ≠ bu := by omega
  have c4 : bq ≠ bd := by omega
  have c5 : br ≠ bd := by omega
  have c6 : bq ≠ br := by omega
  have c2' := Ne.symm c2
  have c6' := Ne.symm c6
  clear o3 o4 o5
  rw [TT.out.1, TT.out.2] at hU
  clear TT
  have wr : IntKind.i64.wrap 0 = 0 ∧ IntKind.i64.wrap 1 = 1 ∧ IntKind.i64.wrap 2 = 2 ∧ IntKind.i64.wrap 3 = 3 ∧ IntKind.i64.wrap 4 = 4 ∧ IntKind.i64.wrap 5 = 5 ∧ IntKind.i64.wrap 6 = 6 ∧ IntKind.i64.wrap 7 = 7 ∧ IntKind.i64.wrap 8 = 8 ∧ IntKind.i64.wrap 9 = 9 := by decide
  refine wp_loop_rounds 8 ?_
  -- digit 6
  have gq : W.cell? ⟨bq, 6, none⟩ = some (.int .u64 0) ∧ W.frozen? ⟨bq, 6, none⟩ = false := ⟨hQ 6 (by simp), lQ 6 (by simp)⟩
  have GG : Hid (Calls Tryd.prog 100 #[.slice (some ⟨bu, 6, none⟩) 3 3, .slice (some ⟨bd, 0, none⟩) 2 4] W.drew fun e w' => e = .returned (.int .u64 q6) ∧ Sets bu 6 [(l0 R6), (l1 R6), 0] W.drew w') := G6.out bu bd c1 W.drew (hU 6 (by simp)) (hU 7 (by simp)) (hU 8 (by simp)) (hD 0 (by simp)) (hD 1 (by simp)) (lU 6 (by simp)) (lU 7 (by simp)) (lU 8 (by simp))
  clear G6
  rw [rounds_succ]; go_wp2
  go_region_with (go_at_call 100; refine GG.out.mono ?_; rintro e w' ⟨rfl, S⟩; have sq := S.other (p := ⟨bq, 6, none⟩) c2; have sf := S.frozen)
  go_wp2
  replace S := (Sets.ofDraws (n := 1) S)
  refine rounds_world (fun W' => Below w.heap.size w W' ∧ Row W' bq [0, 0, 0, 0, 0, 0, q6, 0] ∧ Loose W' bq 8 ∧ Row W' br [0, 0, 0, 0] ∧ Loose W' br 4 ∧ Row W' bd [(l0 D), (l1 D), (l2 D), (l3 D)] ∧ Row W' bu [t0, t1, t2, t3, t4, t5, (l0 R6), (l1 R6), 0] ∧ Loose W' bu 9) ⟨(B.trans (S.below o6)).setCell o1 _, (hQ.other S c2).set 6 (by simp) _, (lQ.sets S).set _ _, (hR.other S c3).setOther c6 _, (lR.sets S).set _ _, (hD.other S (Ne.symm c1)).setOther c4 _, (hU.sets S (by simp)).setOther c2 _, (lU.sets S).set _ _⟩ ?_
  clear B hQ lQ hR lR hD hU lU gq GG sq sf S w'
  rintro W' ⟨B, hQ, lQ, hR, lR, hD, hU, lU⟩
  clear W
  generalize W' = W at *
  -- digit 5
  have gq : W.cell? ⟨bq, 5, none⟩ = some (.int .u64 0) ∧ W.frozen? ⟨bq, 5, none⟩ = false := ⟨hQ 5 (by simp), lQ 5 (by simp)⟩
  have GG : Hid (Calls Tryd.prog 100 #[.slice (some ⟨bu, 5, none⟩) 3 4, .slice (some ⟨bd, 0, none⟩) 2 4] W.drew fun e w' => e = .returned (.int .u64 q5) ∧ Sets bu 5 [(l0 R5), (l1 R5), 0] W.drew w') := G5.out bu bd c1 W.drew (hU 5 (by simp)) (hU 6 (by simp)) (hU 7 (by simp)) (hD 0 (by simp)) (hD 1 (by simp)) (lU 5 (by simp)) (lU 6 (by simp)) (lU 7 (by simp))
  clear G5
  rw [rounds_succ]; go_wp2
  go_region_with (go_at_call 100; refine GG.out.mono ?_; rintro e w' ⟨rfl, S⟩; have sq := S.other (p := ⟨bq, 5, none⟩) c2; have sf := S.frozen)
  go_wp2
  replace S := (Sets.ofDraws (n := 1) S)
  refine rounds_world (fun W' => Below w.heap.size w W' ∧ Row W' bq [0, 0, 0, 0, 0, q5, q6, 0] ∧ Loose W' bq 8 ∧ Row W' br [0, 0, 0, 0] ∧ Loose W' br 4 ∧ Row W' bd [(l0 D), (l1 D), (l2 D), (l3 D)] ∧ Row W' bu [t0, t1, t2, t3, t4, (l0 R5), (l1 R5), 0, 0] ∧ Loose W' bu 9) ⟨(B.trans (S.below o6)).setCell o1 _, (hQ.other S c2).set 5 (by simp) _, (lQ.sets S).set _ _, (hR.other S c3).setOther c6 _, (lR.sets S).set _ _, (hD.other S (Ne.symm c1)).setOther c4 _, (hU.sets S (by simp)).setOther c2 _, (lU.sets S).set _ _⟩ ?_
  clear B hQ lQ hR lR hD hU lU gq GG sq sf S w'
  rintro W' ⟨B, hQ, lQ, hR, lR, hD, hU, lU⟩
  clear W
  generalize W' = W at *
  -- digit 4
  have gq : W.cell? ⟨bq, 4, none⟩ = some (.int .u64 0) ∧ W.frozen? ⟨bq, 4, none⟩ = false := ⟨hQ 4 (by simp), lQ 4 (by simp)⟩
  have GG : Hid (Calls Tryd.prog 100 #[.slice (some ⟨bu, 4, none⟩) 3 5, .slice (some ⟨bd, 0, none⟩) 2 4] W.drew fun e w' => e = .returned (.int .u64 q4) ∧ Sets bu 4 [(l0 R4), (l1 R4), 0] W.drew w') := G4.out bu bd c1 W.drew (hU 4 (by simp)) (hU 5 (by simp)) (hU 6 (by simp)) (hD 0 (by simp)) (hD 1 (by simp)) (lU 4 (by simp)) (lU 5 (by simp)) (lU 6 (by simp))
  clear G4
  rw [rounds_succ]; go_wp2
  go_region_with (go_at_call 100; refine GG.out.mono ?_; rintro e w' ⟨rfl, S⟩; have sq := S.other (p := ⟨bq, 4, none⟩) c2; have sf := S.frozen)
  go_wp2
  replace S := (Sets.ofDraws (n := 1) S)
  refine rounds_world (fun W' => Below w.heap.size w W' ∧ Row W' bq [0, 0, 0, 0, q4, q5, q6, 0] ∧ Loose W' bq 8 ∧ Row W' br [0, 0, 0, 0] ∧ Loose W' br 4 ∧ Row W' bd [(l0 D), (l1 D), (l2 D), (l3 D)] ∧ Row W' bu [t0, t1, t2, t3, (l0 R4), (l1 R4), 0, 0, 0] ∧ Loose W' bu 9) ⟨(B.trans (S.below o6)).setCell o1 _, (hQ.other S c2).set 4 (by simp) _, (lQ.sets S).set _ _, (hR.other S c3).setOther c6 _, (lR.sets S).set _ _, (hD.other S (Ne.symm c1)).setOther c4 _, (hU.sets S (by simp)).setOther c2 _, (lU.sets S).set _ _⟩ ?_
  clear B hQ lQ hR lR hD hU lU gq GG sq sf S w'
  rintro W' ⟨B, hQ, lQ, hR, lR, hD, hU, lU⟩
  clear W
  generalize W' = W at *
  -- digit 3
  have gq : W.cell? ⟨bq, 3, none⟩ = some (.int .u64 0) ∧ W.frozen? ⟨bq, 3, none⟩ = false := ⟨hQ 3 (by simp), lQ 3 (by simp)⟩
  have GG : Hid (Calls Tryd.prog 100 #[.slice (some ⟨bu, 3, none⟩) 3 6, .slice (some ⟨bd, 0, none⟩) 2 4] W.drew fun e w' => e = .returned (.int .u64 q3) ∧ Sets bu 3 [(l0 R3), (l1 R3), 0] W.drew w') := G3.out bu bd c1 W.drew (hU 3 (by simp)) (hU 4 (by simp)) (hU 5 (by simp)) (hD 0 (by simp)) (hD 1 (by simp)) (lU 3 (by simp)) (lU 4 (by simp)) (lU 5 (by simp))
  clear G3
  rw [rounds_succ]; go_wp2
  go_region_with (go_at_call 100; refine GG.out.mono ?_; rintro e w' ⟨rfl, S⟩; have sq := S.other (p := ⟨bq, 3, none⟩) c2; have sf := S.frozen)
  go_wp2
  replace S := (Sets.ofDraws (n := 1) S)
  refine rounds_world (fun W' => Below w.heap.size w W' ∧ Row W' bq [0, 0, 0, q3, q4, q5, q6, 0] ∧ Loose W' bq 8 ∧ Row W' br [0, 0, 0, 0] ∧ Loose W' br 4 ∧ Row W' bd [(l0 D), (l1 D), (l2 D), (l3 D)] ∧ Row W' bu [t0, t1, t2, (l0 R3), (l1 R3), 0, 0, 0, 0] ∧ Loose W' bu 9) ⟨(B.trans (S.below o6)).setCell o1 _, (hQ.other S c2).set 3 (by simp) _, (lQ.sets S).set _ _, (hR.other S c3).setOther c6 _, (lR.sets S).set _ _, (hD.other S (Ne.symm c1)).setOther c4 _, (hU.sets S (by simp)).setOther c2 _, (lU.sets S).set _ _⟩ ?_
  clear B hQ lQ hR lR hD hU lU gq GG sq sf S w'
  rintro W' ⟨B, hQ, lQ, hR, lR, hD, hU, lU⟩
  clear W
  generalize W' = W at *
  -- digit 2
  have gq : W.cell? ⟨bq, 2, none⟩ = some (.int .u64 0) ∧ W.frozen? ⟨bq, 2, none⟩ = false := ⟨hQ 2 (by simp), lQ 2 (by simp)⟩
  have GG : Hid (Calls Tryd.prog 100 #[.slice (some ⟨bu, 2, none⟩) 3 7, .slice (some ⟨bd, 0, none⟩) 2 4] W.drew fun e w' => e = .returned (.int .u64 q2) ∧ Sets bu 2 [(l0 R2), (l1 R2), 0] W.drew w') := G2.out bu bd c1 W.drew (hU 2 (by simp)) (hU 3 (by simp)) (hU 4 (by simp)) (hD 0 (by simp)) (hD 1 (by simp)) (lU 2 (by simp)) (lU 3 (by simp)) (lU 4 (by simp))
  clear G2
  rw [rounds_succ]; go_wp2
  go_region_with (go_at_call 100; refine GG.out.mono ?_; rintro e w' ⟨rfl, S⟩; have sq := S.other (p := ⟨bq, 2, none⟩) c2; have sf := S.frozen)
  go_wp2
  replace S := (Sets.ofDraws (n := 1) S)
  refine rounds_world (fun W' => Below w.heap.size w W' ∧ Row W' bq [0, 0, q2, q3, q4, q5, q6, 0] ∧ Loose W' bq 8 ∧ Row W' br [0, 0, 0, 0] ∧ Loose W' br 4 ∧ Row W' bd [(l0 D), (l1 D), (l2 D), (l3 D)] ∧ Row W' bu [t0, t1, (l0 R2), (l1 R2), 0, 0, 0, 0, 0] ∧ Loose W' bu 9) ⟨(B.trans (S.below o6)).setCell o1 _, (hQ.other S c2).set 2 (by simp) _, (lQ.sets S).set _ _, (hR.other S c3).setOther c6 _, (lR.sets S).set _ _, (hD.other S (Ne.symm c1)).setOther c4 _, (hU.sets S (by simp)).setOther c2 _, (lU.sets S).set _ _⟩ ?_
  clear B hQ lQ hR lR hD hU lU gq GG sq sf S w'
  rintro W' ⟨B, hQ, lQ, hR, lR, hD, hU, lU⟩
  clear W
  generalize W' = W at *
  -- digit 1
  have gq : W.cell? ⟨bq, 1, none⟩ = some (.int .u64 0) ∧ W.frozen? ⟨bq, 1, none⟩ = false := ⟨hQ 1 (by simp), lQ 1 (by simp)⟩
  have GG : Hid (Calls Tryd.prog 100 #[.slice (some ⟨bu, 1, none⟩) 3 8, .slice (some ⟨bd, 0, none⟩) 2 4] W.drew fun e w' => e = .returned (.int .u64 q1) ∧ Sets bu 1 [(l0 R1), (l1 R1), 0] W.drew w') := G1.out bu bd c1 W.drew (hU 1 (by simp)) (hU 2 (by simp)) (hU 3 (by simp)) (hD 0 (by simp)) (hD 1 (by simp)) (lU 1 (by simp)) (lU 2 (by simp)) (lU 3 (by simp))
  clear G1
  rw [rounds_succ]; go_wp2
  go_region_with (go_at_call 100; refine GG.out.mono ?_; rintro e w' ⟨rfl, S⟩; have sq := S.other (p := ⟨bq, 1, none⟩) c2; have sf := S.frozen)
  go_wp2
  replace S := (Sets.ofDraws (n := 1) S)
  refine rounds_world (fun W' => Below w.heap.size w W' ∧ Row W' bq [0, q1, q2, q3, q4, q5, q6, 0] ∧ Loose W' bq 8 ∧ Row W' br [0, 0, 0, 0] ∧ Loose W' br 4 ∧ Row W' bd [(l0 D), (l1 D), (l2 D), (l3 D)] ∧ Row W' bu [t0, (l0 R1), (l1 R1), 0, 0, 0, 0, 0, 0] ∧ Loose W' bu 9) ⟨(B.trans (S.below o6)).setCell o1 _, (hQ.other S c2).set 1 (by simp) _, (lQ.sets S).set _ _, (hR.other S c3).setOther c6 _, (lR.sets S).set _ _, (hD.other S (Ne.symm c1)).setOther c4 _, (hU.sets S (by simp)).setOther c2 _, (lU.sets S).set _ _⟩ ?_
  clear B hQ lQ hR lR hD hU lU gq GG sq sf S w'
  rintro W' ⟨B, hQ, lQ, hR, lR, hD, hU, lU⟩
  clear W
  generalize W' = W at *
  -- digit 0
  have gq : W.cell? ⟨bq, 0, none⟩ = some (.int .u64 0) ∧ W.frozen? ⟨bq, 0, none⟩ = false := ⟨hQ 0 (by simp), lQ 0 (by simp)⟩
  have GG : Hid (Calls Tryd.prog 100 #[.slice (some ⟨bu, 0, none⟩) 3 9, .slice (some ⟨bd, 0, none⟩) 2 4] W.drew fun e w' => e = .returned (.int .u64 q0) ∧ Sets bu 0 [(l0 R0), (l1 R0), 0] W.drew w') := G0.out bu bd c1 W.drew (hU 0 (by simp)) (hU 1 (by simp)) (hU 2 (by simp)) (hD 0 (by simp)) (hD 1 (by simp)) (lU 0 (by simp)) (lU 1 (by simp)) (lU 2 (by simp))
  clear G0
  rw [rounds_succ]; go_wp2
  go_region_with (go_at_call 100; refine GG.out.mono ?_; rintro e w' ⟨rfl, S⟩; have sq := S.other (p := ⟨bq, 0, none⟩) c2; have sf := S.frozen)
  go_wp2
  replace S := (Sets.ofDraws (n := 1) S)
  refine rounds_world (fun W' => Below w.heap.size w W' ∧ Row W' bq [q0, q1, q2, q3, q4, q5, q6, 0] ∧ Loose W' bq 8 ∧ Row W' br [0, 0, 0, 0] ∧ Loose W' br 4 ∧ Row W' bd [(l0 D), (l1 D), (l2 D), (l3 D)] ∧ Row W' bu [(l0 R0), (l1 R0), 0, 0, 0, 0, 0, 0, 0] ∧ Loose W' bu 9) ⟨(B.trans (S.below o6)).setCell o1 _, (hQ.other S c2).set 0 (by simp) _, (lQ.sets S).set _ _, (hR.other S c3).setOther c6 _, (lR.sets S).set _ _, (hD.other S (Ne.symm c1)).setOther c4 _, (hU.sets S (by simp)).setOther c2 _, (lU.sets S).set _ _⟩ ?_
  clear B hQ lQ hR lR hD hU lU gq GG sq sf S w'
  rintro W' ⟨B, hQ, lQ, hR, lR, hD, hU, lU⟩
  clear W
  generalize W' = W at *
  rw [rounds_succ]; go_wp2
  have cp : (Builtin.copy_ #[109, 109] 3 #[.slice (some ⟨br, 0, none⟩) 4 4, .slice (some ⟨bu, 0, none⟩) 2 9]).run Tryd.prog W.drew = .ok (goInt 2) ((W.setCell ⟨br, 0, none⟩ (.int .u64 (l0 R0))).setCell ⟨br, 1, none⟩ (.int .u64 (l1 R0))).drew := by
    refine (run_copy_cells (P := Tryd.prog) W.drew 109 109 3 22 br 0 4 4 ⟨bu, 0, none⟩ 2 9 [.int .u64 (l0 R0), .int .u64 (l1 R0)] (by kernel_rfl) (by kernel_rfl) rfl ?_ ?_ ?_ ?_).trans rfl
    · intro j v hj
      match j, hj with
      | 0, hj => simp at hj; subst hj; exact hU 0 (by simp)
      | 1, hj => simp at hj; subst hj; exact hU 1 (by simp)
    · intro j hj
      simp at hj
      have e := hR j (by simp; omega)
      show (W.cell? ⟨br, 0 + j, none⟩).isSome = true
      rw [Nat.zero_add, e]
      rfl
    · intro j hj
      simp at hj
      show W.frozen? ⟨br, 0 + j, none⟩ = false
      rw [Nat.zero_add]
      exact lR j (by omega)
    · intro v hv
      simp only [List.mem_cons, List.not_mem_nil, or_false] at hv
      rcases hv with rfl | rfl <;> rfl
  go_region
  clear cp
  go_wp2_with fail
  refine wp_world (fun W' => Below w.heap.size w W' ∧ Row W' bq [q0, q1, q2, q3, q4, q5, q6, 0] ∧ Loose W' bq 8 ∧ Row W' br [(l0 R0), (l1 R0), 0, 0] ∧ Loose W' br 4) ⟨?_, ?_, ?_, ?_, ?_⟩ ?_
  · repeat (first | with_reducible refine Below.drew ?_ | with_reducible refine Below.setCell ?_ o2 _ | exact B)
  · exact ((hQ.setOther (p := ⟨br, 0, none⟩) c6' _).setOther (p := ⟨br, 1, none⟩) c6' _).drew
  · exact ((lQ.set ⟨br, 0, none⟩ _).set ⟨br, 1, none⟩ _).drew
  · exact ((hR.set 0 (by simp) _).set 1 (by simp) _).drew
  · exact ((lR.set ⟨br, 0, none⟩ _).set ⟨br, 1, none⟩ _).drew
  clear B hQ lQ hR lR hD hU lU
  rintro W' ⟨B, hQ, lQ, hR, lR⟩
  clear W
  generalize W' = W at *
  rw [show ([(l0 R0), (l1 R0), 0, 0] : List Int) = [l0 R0, l1 R0, l2 R0, l3 R0] by
    have := RR.out
    simp only [List.cons.injEq, and_true, true_and]
    unfold l2 l3; omega] at hR
  clear RR
  have bl : bq < W.heap.size := hQ.lt (by simp)
  have bl' : br < W.heap.size := hR.lt (by simp)
  have gq : W.cell? ⟨bq, 0, none⟩ = some (.int .u64 q0) ∧ W.cell? ⟨bq, 1, none⟩ = some (.int .u64 q1) ∧ W.cell? ⟨bq, 2, none⟩ = some (.int .u64 q2) ∧ W.cell? ⟨bq, 3, none⟩ = some (.int .u64 q3) ∧ W.cell? ⟨bq, 4, none⟩ = some (.int .u64 q4) ∧ W.cell? ⟨bq, 5, none⟩ = some (.int .u64 q5) ∧ W.cell? ⟨bq, 6, none⟩ = some (.int .u64 q6) ∧ W.cell? ⟨bq, 7, none⟩ = some (.int .u64 0) := ⟨hQ 0 (by simp), hQ 1 (by simp), hQ 2 (by simp), hQ 3 (by simp), hQ 4 (by simp), hQ 5 (by simp), hQ 6 (by simp), hQ 7 (by simp)⟩
  have gr : W.cell? ⟨br, 0, none⟩ = some (.int .u64 (l0 R0)) ∧ W.cell? ⟨br, 1, none⟩ = some (.int .u64 (l1 R0)) ∧ W.cell? ⟨br, 2, none⟩ = some (.int .u64 (l2 R0)) ∧ W.cell? ⟨br, 3, none⟩ = some (.int .u64 (l3 R0)) := ⟨hR 0 (by simp), hR 1 (by simp), hR 2 (by simp), hR 3 (by simp)⟩
  have fq : W.frozen? ⟨bq, 0, none⟩ = false ∧ W.frozen? ⟨bq, 1, none⟩ = false ∧ W.frozen? ⟨bq, 2, none⟩ = false ∧ W.frozen? ⟨bq, 3, none⟩ = false ∧ W.frozen? ⟨bq, 4, none⟩ = false ∧ W.frozen? ⟨bq, 5, none⟩ = false ∧ W.frozen? ⟨bq, 6, none⟩ = false ∧ W.frozen? ⟨bq, 7, none⟩ = false := ⟨lQ 0 (by simp), lQ 1 (by simp), lQ 2 (by simp), lQ 3 (by simp), lQ 4 (by simp), lQ 5 (by simp), lQ 6 (by simp), lQ 7 (by simp)⟩
  have fr : W.frozen? ⟨br, 0, none⟩ = false ∧ W.frozen? ⟨br, 1, none⟩ = false ∧ W.frozen? ⟨br, 2, none⟩ = false ∧ W.frozen? ⟨br, 3, none⟩ = false := ⟨lR 0 (by simp), lR 1 (by simp), lR 2 (by simp), lR 3 (by simp)⟩
  clear hQ lQ hR lR
  go_region_with (go_at_call 69; refine (SR.out _).mono ?_; rintro e w' ⟨rfl, hb⟩; have cq := fun j => oldCells hb bq j bl; have cr := fun j => oldCells hb br j bl')
  all_goals
    go_wp2
    simp [bodyPost, results, Tryd.results79, go_sem, cq, cr, gq, gr]
    repeat (first | (with_reducible refine Below.setCell ?_ (by first | exact o1 | exact o2) _) | exact B.drew.trans (hb.mono B.drew.size))

end Go.Proofs.YtjppjieidjodfaaDoor

namespace Go.Proofs.YtjppjieidjodfaaDoor
open Go.RowKit

set_option maxHeartbeats 8000000 in
theorem divide_3 {x0 x1 x2 x3 x4 x5 x6 x7 m s L D t0 t1 t2 t3 t4 t5 t6 t7 t8 R0 R1 R2 R3 R4 R5 R6 q0 q1 q2 q3 q4 q5 : Int} (hm : Num m) (L0 : 0 ≤ L) (L1 : L ≤ 256) (eL : lenN m = L) (hL : (L + 63) / 64 = 3) (s0 : 0 ≤ s) (s1 : s ≤ 63)
    (lz : ∀ w, Calls Tryd.prog 98 #[.int .u64 (l2 m)] w fun e w' => e = .returned (.int .i64 s) ∧ w' = w)
    (eD : upN m s = D) (hn : 9223372036854775808 ≤ l2 D) (vD : val [(l0 D), (l1 D), (l2 D)] = D) (bD : D < 6277101735386680763835789423207666416102355444464034512896)
    (wt : Words [t0, t1, t2, t3, t4, t5, t6, t7, t8])
    (li : ∀ w : World, Calls Tryd.prog 99 #[.agg #[.int .u64 x0, .int .u64 x1, .int .u64 x2, .int .u64 x3, .int .u64 x4, .int .u64 x5, .int .u64 x6, .int .u64 x7], .int .i64 s] w fun e w' => e = .returned (.agg #[.int .u64 t0, .int .u64 t1, .int .u64 t2, .int .u64 t3, .int .u64 t4, .int .u64 t5, .int .u64 t6, .int .u64 t7, .int .u64 t8]) ∧ Below w.heap.size w w')
    (r6 : val [t6, t7, t8] = R6) (g6 : R6 < D)
    (e5 : (t5 + 18446744073709551616 * R6) / D = q5) (r5 : (t5 + 18446744073709551616 * R6) % D = R5) (e4 : (t4 + 18446744073709551616 * R5) / D = q4) (r4 : (t4 + 18446744073709551616 * R5) % D = R4) (e3 : (t3 + 18446744073709551616 * R4) / D = q3) (r3 : (t3 + 18446744073709551616 * R4) % D = R3) (e2 : (t2 + 18446744073709551616 * R3) / D = q2) (r2 : (t2 + 18446744073709551616 * R3) % D = R2) (e1 : (t1 + 18446744073709551616 * R2) / D = q1) (r1 : (t1 + 18446744073709551616 * R2) % D = R1) (e0 : (t0 + 18446744073709551616 * R1) / D = q0) (r0 : (t0 + 18446744073709551616 * R1) % D = R0)
    (w : World) :
    Calls Tryd.prog 79 #[.agg #[.int .u64 x0, .int .u64 x1, .int .u64 x2, .int .u64 x3, .int .u64 x4, .int .u64 x5, .int .u64 x6, .int .u64 x7], .agg #[.int .u64 (l0 m), .int .u64 (l1 m), .int .u64 (l2 m), .int .u64 (l3 m)]] w fun e w' =>
      e = .returned (.tuple #[.agg #[.int .u64 q0, .int .u64 q1, .int .u64 q2, .int .u64 q3, .int .u64 q4, .int .u64 q5, .int .u64 0, .int .u64 0], .agg #[.int .u64 (l0 (downN R0 s)), .int .u64 (l1 (downN R0 s)), .int .u64 (l2 (downN R0 s)), .int .u64 (l3 (downN R0 s))]]) ∧ Below w.heap.size w w' := by
  have D0 : 0 < D := by
    have := l0_word D; have := l1_word D; have := l2_word D; have := l3_word D
    unfold Word at *
    rw [← vD]
    simp only [val]
    omega
  have WD : Words [(l0 D), (l1 D), (l2 D)] := by
    intro x hx
    simp only [List.mem_cons, List.not_mem_nil, or_false] at hx
    rcases hx with rfl | rfl | rfl
    · exact l0_word D
    · exact l1_word D
    · exact l2_word D
  have n6 : 0 ≤ R6 := by rw [← r6]; exact (val_nonneg (fun x hx => wt x (List.mem_of_mem_drop (show x ∈ [t0, t1, t2, t3, t4, t5, t6, t7, t8].drop 6 from hx)))).1
  have n5 : 0 ≤ R5 := by rw [← r5]; exact Int.emod_nonneg _ (by omega)
  have g5 : R5 < D := by rw [← r5]; exact Int.emod_lt_of_pos _ D0
  have n4 : 0 ≤ R4 := by rw [← r4]; exact Int.emod_nonneg _ (by omega)
  have g4 : R4 < D := by rw [← r4]; exact Int.emod_lt_of_pos _ D0
  have n3 : 0 ≤ R3 := by rw [← r3]; exact Int.emod_nonneg _ (by omega)
  have g3 : R3 < D := by rw [← r3]; exact Int.emod_lt_of_pos _ D0
  have n2 : 0 ≤ R2 := by rw [← r2]; exact Int.emod_nonneg _ (by omega)
  have g2 : R2 < D := by rw [← r2]; exact Int.emod_lt_of_pos _ D0
  have n1 : 0 ≤ R1 := by rw [← r1]; exact Int.emod_nonneg _ (by omega)
  have g1 : R1 < D := by rw [← r1]; exact Int.emod_lt_of_pos _ D0
  have n0 : 0 ≤ R0 := by rw [← r0]; exact Int.emod_nonneg _ (by omega)
  have g0 : R0 < D := by rw [← r0]; exact Int.emod_lt_of_pos _ D0
  have G5 : Hid (∀ (bu bd : Nat), bu ≠ bd → ∀ w, w.cell? ⟨bu, 5, none⟩ = some (.int .u64 t5) → w.cell? ⟨bu, 6, none⟩ = some (.int .u64 (l0 R6)) → w.cell? ⟨bu, 7, none⟩ = some (.int .u64 (l1 R6)) → w.cell? ⟨bu, 8, none⟩ = some (.int .u64 (l2 R6)) → w.cell? ⟨bd, 0, none⟩ = some (.int .u64 (l0 D)) → w.cell? ⟨bd, 1, none⟩ = some (.int .u64 (l1 D)) → w.cell? ⟨bd, 2, none⟩ = some (.int .u64 (l2 D)) → w.frozen? ⟨bu, 5, none⟩ = false → w.frozen? ⟨bu, 6, none⟩ = false → w.frozen? ⟨bu, 7, none⟩ = false → w.frozen? ⟨bu, 8, none⟩ = false → Calls Tryd.prog 100 #[.slice (some ⟨bu, 5, none⟩) 4 4, .slice (some ⟨bd, 0, none⟩) 3 4] w fun e w' => e = .returned (.int .u64 q5) ∧ Sets bu 5 [(l0 R5), (l1 R5), (l2 R5), 0] w w') := by
    intro bu bd ne w a0 a1 a2 a3 b0 b1 b2 c0 c1 c2 c3
    have h : val [(l0 R6), (l1 R6), (l2 R6)] = R6 := by
      simp only [val]; unfold l0 l1 l2; omega
    have vU : val [t5, (l0 R6), (l1 R6), (l2 R6)] = t5 + 18446744073709551616 * R6 := congrArg (fun v => t5 + 18446744073709551616 * v) h
    have wt5 := wt t5 (by simp)
    have d := digit_3 (o := 5) (ku := 4) (kd := 4) wt5 (l0_word R6) (l1_word R6) (l2_word R6) (l0_word D) (l1_word D) (l2_word D) hn (by rw [vU, vD]; obtain ⟨_, _⟩ := wt5; omega) ne w a0 a1 a2 a3 b0 b1 b2 c0 c1 c2 c3
    rw [vU, vD, e5, r5] at d
    refine d.mono ?_
    rintro e w' ⟨rfl, vs, S, ln, wv, ev⟩
    rw [limbs_3 ln wv ev (by omega)] at S
    exact ⟨rfl, S⟩
  have G4 : Hid (∀ (bu bd : Nat), bu ≠ bd → ∀ w, w.cell? ⟨bu, 4, none⟩ = some (.int .u64 t4) → w.cell? ⟨bu, 5, none⟩ = some (.int .u64 (l0 R5)) → w.cell? ⟨bu, 6, none⟩ = some (.int .u64 (l1 R5)) → w.cell? ⟨bu, 7, none⟩ = some (.int .u64 (l2 R5)) → w.cell? ⟨bd, 0, none⟩ = some (.int .u64 (l0 D)) → w.cell? ⟨bd, 1, none⟩ = some (.int .u64 (l1 D)) → w.cell? ⟨bd, 2, none⟩ = some (.int .u64 (l2 D)) → w.frozen? ⟨bu, 4, none⟩ = false → w.frozen? ⟨bu, 5, none⟩ = false → w.frozen? ⟨bu, 6, none⟩ = false → w.frozen? ⟨bu, 7, none⟩ = false → Calls Tryd.prog 100 #[.slice (some ⟨bu, 4, none⟩) 4 5, .slice (some ⟨bd, 0, none⟩) 3 4] w fun e w' => e = .returned (.int .u64 q4) ∧ Sets bu 4 [(l0 R4), (l1 R4), (l2 R4), 0] w w') := by
    intro bu bd ne w a0 a1 a2 a3 b0 b1 b2 c0 c1 c2 c3
    have h : val [(l0 R5), (l1 R5), (l2 R5)] = R5 := by
      simp only [val]; unfold l0 l1 l2; omega
    have vU : val [t4, (l0 R5), (l1 R5), (l2 R5)] = t4 + 18446744073709551616 * R5 := congrArg (fun v => t4 + 18446744073709551616 * v) h
    have wt4 := wt t4 (by simp)
    have d := digit_3 (o := 4) (ku := 5) (kd := 4) wt4 (l0_word R5) (l1_word R5) (l2_word R5) (l0_word D) (l1_word D) (l2_word D) hn (by rw [vU, vD]; obtain ⟨_, _⟩ := wt4; omega) ne w a0 a1 a2 a3 b0 b1 b2 c0 c1 c2 c3
    rw [vU, vD, e4, r4] at d
    refine d.mono ?_
    rintro e w' ⟨rfl, vs, S, ln, wv, ev⟩
    rw [limbs_3 ln wv ev (by omega)] at S
    exact ⟨rfl, S⟩
  have G3 : Hid (∀ (bu bd : Nat), bu ≠ bd → ∀ w, w.cell? ⟨bu, 3, none⟩ = some (.int .u64 t3) → w.cell? ⟨bu, 4, none⟩ = some (.int .u64 (l0 R4)) → w.cell? ⟨bu, 5, none⟩ = some (.int .u64 (l1 R4)) → w.cell? ⟨bu, 6, none⟩ = some (.int .u64 (l2 R4)) → w.cell? ⟨bd, 0, none⟩ = some (.int .u64 (l0 D)) → w.cell? ⟨bd, 1, none⟩ = some (.int .u64 (l1 D)) → w.cell? ⟨bd, 2, none⟩ = some (.int .u64 (l2 D)) → w.frozen? ⟨bu, 3, none⟩ = false → w.frozen? ⟨bu, 4, none⟩ = false → w.frozen? ⟨bu, 5, none⟩ = false → w.frozen? ⟨bu, 6, none⟩ = false → Calls Tryd.prog 100 #[.slice (some ⟨bu, 3, none⟩) 4 6, .slice (some ⟨bd, 0, none⟩) 3 4] w fun e w' => e = .returned (.int .u64 q3) ∧ Sets bu 3 [(l0 R3), (l1 R3), (l2 R3), 0] w w') := by
    intro bu bd ne w a0 a1 a2 a3 b0 b1 b2 c0 c1 c2 c3
    have h : val [(l0 R4), (l1 R4), (l2 R4)] = R4 := by
      simp only [val]; unfold l0 l1 l2; omega
    have vU : val [t3, (l0 R4), (l1 R4), (l2 R4)] = t3 + 18446744073709551616 * R4 := congrArg (fun v => t3 + 18446744073709551616 * v) h
    have wt3 := wt t3 (by simp)
    have d := digit_3 (o := 3) (ku := 6) (kd := 4) wt3 (l0_word R4) (l1_word R4) (l2_word R4) (l0_word D) (l1_word D) (l2_word D) hn (by rw [vU, vD]; obtain ⟨_, _⟩ := wt3; omega) ne w a0 a1 a2 a3 b0 b1 b2 c0 c1 c2 c3
    rw [vU, vD, e3, r3] at d
    refine d.mono ?_
    rintro e w' ⟨rfl, vs, S, ln, wv, ev⟩
    rw [limbs_3 ln wv ev (by omega)] at S
    exact ⟨rfl, S⟩
  have G2 : Hid (∀ (bu bd : Nat), bu ≠ bd → ∀ w, w.cell? ⟨bu, 2, none⟩ = some (.int .u64 t2) → w.cell? ⟨bu, 3, none⟩ = some (.int .u64 (l0 R3)) → w.cell? ⟨bu, 4, none⟩ = some (.int .u64 (l1 R3)) → w.cell? ⟨bu, 5, none⟩ = some (.int .u64 (l2 R3)) → w.cell? ⟨bd, 0, none⟩ = some (.int .u64 (l0 D)) → w.cell? ⟨bd, 1, none⟩ = some (.int .u64 (l1 D)) → w.cell? ⟨bd, 2, none⟩ = some (.int .u64 (l2 D)) → w.frozen? ⟨bu, 2, none⟩ = false → w.frozen? ⟨bu, 3, none⟩ = false → w.frozen? ⟨bu, 4, none⟩ = false → w.frozen? ⟨bu, 5, none⟩ = false → Calls Tryd.prog 100 #[.slice (some ⟨bu, 2, none⟩) 4 7, .slice (some ⟨bd, 0, none⟩) 3 4] w fun e w' => e = .returned (.int .u64 q2) ∧ Sets bu 2 [(l0 R2), (l1 R2), (l2 R2), 0] w w') := by
    intro bu bd ne w a0 a1 a2 a3 b0 b1 b2 c0 c1 c2 c3
    have h : val [(l0 R3), (l1 R3), (l2 R3)] = R3 := by
      simp only [val]; unfold l0 l1 l2; omega
    have vU : val [t2, (l0 R3), (l1 R3), (l2 R3)] = t2 + 18446744073709551616 * R3 := congrArg (fun v => t2 + 18446744073709551616 * v) h
    have wt2 := wt t2 (by simp)
    have d := digit_3 (o := 2) (ku := 7) (kd := 4) wt2 (l0_word R3) (l1_word R3) (l2_word R3) (l0_word D) (l1_word D) (l2_word D) hn (by rw [vU, vD]; obtain ⟨_, _⟩ := wt2; omega) ne w a0 a1 a2 a3 b0 b1 b2 c0 c1 c2 c3
    rw [vU, vD, e2, r2] at d
    refine d.mono ?_
    rintro e w' ⟨rfl, vs, S, ln, wv, ev⟩
    rw [limbs_3 ln wv ev (by omega)] at S
    exact ⟨rfl, S⟩
  have G1 : Hid (∀ (bu bd : Nat), bu ≠ bd → ∀ w, w.cell? ⟨bu, 1, none⟩ = some (.int .u64 t1) → w.cell? ⟨bu, 2, none⟩ = some (.int .u64 (l0 R2)) → w.cell? ⟨bu, 3, none⟩ = some (.int .u64 (l1 R2)) → w.cell? ⟨bu, 4, none⟩ = some (.int .u64 (l2 R2)) → w.cell? ⟨bd, 0, none⟩ = some (.int .u64 (l0 D)) → w.cell? ⟨bd, 1, none⟩ = some (.int .u64 (l1 D)) → w.cell? ⟨bd, 2, none⟩ = some (.int .u64 (l2 D)) → w.frozen? ⟨bu, 1, none⟩ = false → w.frozen? ⟨bu, 2, none⟩ = false → w.frozen? ⟨bu, 3, none⟩ = false → w.frozen? ⟨bu, 4, none⟩ = false → Calls Tryd.prog 100 #[.slice (some ⟨bu, 1, none⟩) 4 8, .slice (some ⟨bd, 0, none⟩) 3 4] w fun e w' => e = .returned (.int .u64 q1) ∧ Sets bu 1 [(l0 R1), (l1 R1), (l2 R1), 0] w w') := by
    intro bu bd ne w a0 a1 a2 a3 b0 b1 b2 c0 c1 c2 c3
    have h : val [(l0 R2), (l1 R2), (l2 R2)] = R2 := by
      simp only [val]; unfold l0 l1 l2; omega
    have vU : val [t1, (l0 R2), (l1 R2), (l2 R2)] = t1 + 18446744073709551616 * R2 := congrArg (fun v => t1 + 18446744073709551616 * v) h
    have wt1 := wt t1 (by simp)
    have d := digit_3 (o := 1) (ku := 8) (kd := 4) wt1 (l0_word R2) (l1_word R2) (l2_word R2) (l0_word D) (l1_word D) (l2_word D) hn (by rw [vU, vD]; obtain ⟨_, _⟩ := wt1; omega) ne w a0 a1 a2 a3 b0 b1 b2 c0 c1 c2 c3
    rw [vU, vD, e1, r1] at d
    refine d.mono ?_
    rintro e w' ⟨rfl, vs, S, ln, wv, ev⟩
    rw [limbs_3 ln wv ev (by omega)] at S
    exact ⟨rfl, S⟩
  have G0 : Hid (∀ (bu bd : Nat), bu ≠ bd → ∀ w, w.cell? ⟨bu, 0, none⟩ = some (.int .u64 t0) → w.cell? ⟨bu, 1, none⟩ = some (.int .u64 (l0 R1)) → w.cell? ⟨bu, 2, none⟩ = some (.int .u64 (l1 R1)) → w.cell? ⟨bu, 3, none⟩ = some (.int .u64 (l2 R1)) → w.cell? ⟨bd, 0, none⟩ = some (.int .u64 (l0 D)) → w.cell? ⟨bd, 1, none⟩ = some (.int .u64 (l1 D)) → w.cell? ⟨bd, 2, none⟩ = some (.int .u64 (l2 D)) → w.frozen? ⟨bu, 0, none⟩ = false → w.frozen? ⟨bu, 1, none⟩ = false → w.frozen? ⟨bu, 2, none⟩ = false → w.frozen? ⟨bu, 3, none⟩ = false → Calls Tryd.prog 100 #[.slice (some ⟨bu, 0, none⟩) 4 9, .slice (some ⟨bd, 0, none⟩) 3 4] w fun e w' => e = .returned (.int .u64 q0) ∧ Sets bu 0 [(l0 R0), (l1 R0), (l2 R0), 0] w w') := by
    intro bu bd ne w a0 a1 a2 a3 b0 b1 b2 c0 c1 c2 c3
    have h : val [(l0 R1), (l1 R1), (l2 R1)] = R1 := by
      simp only [val]; unfold l0 l1 l2; omega
    have vU : val [t0, (l0 R1), (l1 R1), (l2 R1)] = t0 + 18446744073709551616 * R1 := congrArg (fun v => t0 + 18446744073709551616 * v) h
    have wt0 := wt t0 (by simp)
    have d := digit_3 (o := 0) (ku := 9) (kd := 4) wt0 (l0_word R1) (l1_word R1) (l2_word R1) (l0_word D) (l1_word D) (l2_word D) hn (by rw [vU, vD]; obtain ⟨_, _⟩ := wt0; omega) ne w a0 a1 a2 a3 b0 b1 b2 c0 c1 c2 c3
    rw [vU, vD, e0, r0] at d
    refine d.mono ?_
    rintro e w' ⟨rfl, vs, S, ln, wv, ev⟩
    rw [limbs_3 ln wv ev (by omega)] at S
    exact ⟨rfl, S⟩
  have tops : t6 = l0 R6 ∧ t7 = l1 R6 ∧ t8 = l2 R6 := by
    obtain ⟨_, _⟩ := wt t6 (by simp)
    obtain ⟨_, _⟩ := wt t7 (by simp)
    obtain ⟨_, _⟩ := wt t8 (by simp)
    rw [← r6]
    simp only [val]
    unfold l0 l1 l2
    omega
  have SR : Hid (∀ w, Calls Tryd.prog 69 #[.agg #[.int .u64 (l0 R0), .int .u64 (l1 R0), .int .u64 (l2 R0), .int .u64 (l3 R0)], .int .i64 s] w fun e w' => e = .returned (.agg #[.int .u64 (l0 (downN R0 s)), .int .u64 (l1 (downN R0 s)), .int .u64 (l2 (downN R0 s)), .int .u64 (l3 (downN R0 s))]) ∧ Below w.heap.size w w') := fun w => shr_near ⟨n0, by omega⟩ s0 (by omega) w
  have LZ : Hid (∀ w, Calls Tryd.prog 98 #[.int .u64 (l2 m)] w fun e w' => e = .returned (.int .i64 s) ∧ w' = w) := lz
  have LI : Hid (∀ w : World, Calls Tryd.prog 99 #[.agg #[.int .u64 x0, .int .u64 x1, .int .u64 x2, .int .u64 x3, .int .u64 x4, .int .u64 x5, .int .u64 x6, .int .u64 x7], .int .i64 s] w fun e w' => e = .returned (.agg #[.int .u64 t0, .int .u64 t1, .int .u64 t2, .int .u64 t3, .int .u64 t4, .int .u64 t5, .int .u64 t6, .int .u64 t7, .int .u64 t8]) ∧ Below w.heap.size w w') := li
  have LE := len_any hm
  rw [eL] at LE
  have LE' : Hid (∀ w, Calls Tryd.prog 25 #[.agg #[.int .u64 (l0 m), .int .u64 (l1 m), .int .u64 (l2 m), .int .u64 (l3 m)]] w fun e w' => e = .returned (.int .i64 L) ∧ Below w.heap.size w w') := LE
  have SH := fun w => shl_near (n := m) hm s0 (by omega) w
  rw [eD] at SH
  have SH' : Hid (∀ w, Calls Tryd.prog 27 #[.agg #[.int .u64 (l0 m), .int .u64 (l1 m), .int .u64 (l2 m), .int .u64 (l3 m)], .int .i64 s] w fun e w' => e = .returned (.agg #[.int .u64 (l0 D), .int .u64 (l1 D), .int .u64 (l2 D), .int .u64 (l3 D)]) ∧ Below w.heap.size w w') := SH
  have TT : Hid (t6 = l0 R6 ∧ t7 = l1 R6 ∧ t8 = l2 R6) := tops
  have RR : Hid (R0 < 6277101735386680763835789423207666416102355444464034512896 ∧ 0 ≤ R0) := ⟨by omega, n0⟩
  clear lz li LE SH eL eD hm hn vD bD wt tops WD D0 r0 g0 n0 r1 g1 n1 r2 g2 n2 r3 g3 n3 r4 g4 n4 r5 g5 n5 r6 g6 n6 e0 e1 e2 e3 e4 e5
  go_enter Tryd.func79, Tryd.ntmps79
  go_wp2_with fail
  refine calls_world (fun W => Below w.heap.size w W ∧ Row W w.heap.size [x0, x1, x2, x3, x4, x5, x6, x7] ∧ Hold W (w.heap.size + 1) m ∧ Row W (w.heap.size + 1 + 1) [0, 0, 0, 0, 0, 0, 0, 0] ∧ Loose W (w.heap.size + 1 + 1) 8 ∧ Row W (w.heap.size + 1 + 1 + 1) [0, 0, 0, 0] ∧ Loose W (w.heap.size + 1 + 1 + 1) 4 ∧ w.heap.size + 1 + 1 + 1 < W.heap.size) ⟨?_, ?_, ?_, ?_, ?_, ?_, ?_, ?_⟩ ?_
  · repeat (first | with_reducible exact Below.refl _ _ | with_reducible refine Below.alloc ?_ (by first | omega | (simp; done) | (simp; omega)) _)
  · exact (((Row.new w [x0, x1, x2, x3, x4, x5, x6, x7] _).alloc _).alloc _).alloc _
  · have := Hold.new (w.alloc (.cells #[.int .u64 x0, .int .u64 x1, .int .u64 x2, .int .u64 x3, .int .u64 x4, .int .u64 x5, .int .u64 x6, .int .u64 x7] 91)) m 24
    simp at this
    exact (this.alloc _).alloc _
  · have := Row.new ((w.alloc (.cells #[.int .u64 x0, .int .u64 x1, .int .u64 x2, .int .u64 x3, .int .u64 x4, .int .u64 x5, .int .u64 x6, .int .u64 x7] 91)).alloc (.cells #[.int .u64 (l0 m), .int .u64 (l1 m), .int .u64 (l2 m), .int .u64 (l3 m)] 24)) [0, 0, 0, 0, 0, 0, 0, 0] 91
    simp at this
    exact this.alloc _
  · have := Loose.new ((w.alloc (.cells #[.int .u64 x0, .int .u64 x1, .int .u64 x2, .int .u64 x3, .int .u64 x4, .int .u64 x5, .int .u64 x6, .int .u64 x7] 91)).alloc (.cells #[.int .u64 (l0 m), .int .u64 (l1 m), .int .u64 (l2 m), .int .u64 (l3 m)] 24)) #[.int .u64 0, .int .u64 0, .int .u64 0, .int .u64 0, .int .u64 0, .int .u64 0, .int .u64 0, .int .u64 0] 91 8
    simp at this
    exact this.alloc (by simp) _
  · have := Row.new (((w.alloc (.cells #[.int .u64 x0, .int .u64 x1, .int .u64 x2, .int .u64 x3, .int .u64 x4, .int .u64 x5, .int .u64 x6, .int .u64 x7] 91)).alloc (.cells #[.int .u64 (l0 m), .int .u64 (l1 m), .int .u64 (l2 m), .int .u64 (l3 m)] 24)).alloc (.cells #[.int .u64 0, .int .u64 0, .int .u64 0, .int .u64 0, .int .u64 0, .int .u64 0, .int .u64 0, .int .u64 0] 91)) [0, 0, 0, 0] 24
    simp at this
    exact this
  · have := Loose.new (((w.alloc (.cells #[.int .u64 x0, .int .u64 x1, .int .u64 x2, .int .u64 x3, .int .u64 x4, .int .u64 x5, .int .u64 x6, .int .u64 x7] 91)).alloc (.cells #[.int .u64 (l0 m), .int .u64 (l1 m), .int .u64 (l2 m), .int .u64 (l3 m)] 24)).alloc (.cells #[.int .u64 0, .int .u64 0, .int .u64 0, .int .u64 0, .int .u64 0, .int .u64 0, .int .u64 0, .int .u64 0] 91)) #[.int .u64 0, .int .u64 0, .int .u64 0, .int .u64 0] 24 4
    simp at this
    exact this
  · simp
  rintro W ⟨B, hX, hM, hQ, lQ, hR, lR, hlt⟩
  have o1 : w.heap.size ≤ w.heap.size + 1 + 1 := by omega
  have o2 : w.heap.size ≤ w.heap.size + 1 + 1 + 1 := by omega
  have o3 : w.heap.size + 1 + 1 < w.heap.size + 1 + 1 + 1 := by omega
  generalize w.heap.size + 1 + 1 + 1 = br at *
  generalize w.heap.size + 1 + 1 = bq at *
  generalize w.heap.size + 1 = bm at *
  refine (LE'.out W).mono ?_
  rintro e w1 ⟨rfl, hb⟩
  replace B := B.trans (hb.mono B.size)
  replace lQ := lQ.keep hb (by omega); replace lR := lR.keep hb (by omega)
  replace hX := hX.keep hb; replace hM := hM.keep hb; replace hQ := hQ.keep hb; replace hR := hR.keep hb
  replace hlt := Nat.lt_of_lt_of_le hlt hb.size
  clear hb W LE'
  have gM := hM.cells
  go_wp2_with fail
  refine (LZ.out _).mono ?_
  rintro e w' ⟨rfl, rfl⟩
  go_wp2_with fail
  refine (SH'.out _).mono ?_
  rintro e w2 ⟨rfl, hb⟩
  replace B := B.trans (hb.mono B.size)
  replace lQ := lQ.keep hb (by omega); replace lR := lR.keep hb (by omega)
  replace hX := hX.keep hb; replace hQ := hQ.keep hb; replace hR := hR.keep hb
  replace hlt := Nat.lt_of_lt_of_le hlt hb.size
  clear hb gM hM SH' LZ
  have gX : ∀ o, (w2.alloc o).cell? ⟨w.heap.size, 0, none⟩ = some (.int .u64 x0) ∧ (w2.alloc o).cell? ⟨w.heap.size, 1, none⟩ = some (.int .u64 x1) ∧ (w2.alloc o).cell? ⟨w.heap.size, 2, none⟩ = some (.int .u64 x2) ∧ (w2.alloc o).cell? ⟨w.heap.size, 3, none⟩ = some (.int .u64 x3) ∧ (w2.alloc o).cell? ⟨w.heap.size, 4, none⟩ = some (.int .u64 x4) ∧ (w2.alloc o).cell? ⟨w.heap.size, 5, none⟩ = some (.int .u64 x5) ∧ (w2.alloc o).cell? ⟨w.heap.size, 6, none⟩ = some (.int .u64 x6) ∧ (w2.alloc o).cell? ⟨w.heap.size, 7, none⟩ = some (.int .u64 x7) := fun o => ⟨(hX.alloc o) 0 (by simp), (hX.alloc o) 1 (by simp), (hX.alloc o) 2 (by simp), (hX.alloc o) 3 (by simp), (hX.alloc o) 4 (by simp), (hX.alloc o) 5 (by simp), (hX.alloc o) 6 (by simp), (hX.alloc o) 7 (by simp)⟩
  go_wp2_with fail
  refine calls_world (fun W => Below w.heap.size w W ∧ Row W bq [0, 0, 0, 0, 0, 0, 0, 0] ∧ Loose W bq 8 ∧ Row W br [0, 0, 0, 0] ∧ Loose W br 4 ∧ br < W.heap.size ∧ Row W w2.heap.size [(l0 D), (l1 D), (l2 D), (l3 D)] ∧ w2.heap.size < W.heap.size ∧ br < w2.heap.size) ⟨B.alloc B.size _, hQ.alloc _, lQ.alloc (by omega) _, hR.alloc _, lR.alloc (by omega) _, by simp; omega, Row.new w2 [(l0 D), (l1 D), (l2 D), (l3 D)] _, by simp, hlt⟩ ?_
  clear B hX hQ lQ hR lR gX hlt
  rintro W ⟨B, hQ, lQ, hR, lR, hlt, hD, hlt2, o4⟩
  generalize w2.heap.size = bd at *
  refine (LI.out W).mono ?_
  rintro e w3 ⟨rfl, hb⟩
  replace B := B.trans (hb.mono B.size)
  replace lQ := lQ.keep hb (by omega); replace lR := lR.keep hb (by omega)
  replace hD := hD.keep hb; replace hQ := hQ.keep hb; replace hR := hR.keep hb
  replace hlt2 := Nat.lt_of_lt_of_le hlt2 hb.size
  clear hb hlt LI
  go_wp2_with fail
  refine wp_world (fun W => Below w.heap.size w W ∧ Row W bq [0, 0, 0, 0, 0, 0, 0, 0] ∧ Loose W bq 8 ∧ Row W br [0, 0, 0, 0] ∧ Loose W br 4 ∧ Row W bd [(l0 D), (l1 D), (l2 D), (l3 D)] ∧ Row W w3.heap.size [t0, t1, t2, t3, t4, t5, t6, t7, t8] ∧ Loose W w3.heap.size 9 ∧ bd < w3.heap.size) ⟨B.alloc B.size _, hQ.alloc _, lQ.alloc (by omega) _, hR.alloc _, lR.alloc (by omega) _, hD.alloc _, Row.new w3 [t0, t1, t2, t3, t4, t5, t6, t7, t8] _, Loose.new w3 _ _ 9, hlt2⟩ ?_
  clear B hQ lQ hR lR hD hlt2
  rintro W ⟨B, hQ, lQ, hR, lR, hD, hU, lU, o5⟩
  generalize w3.heap.size = bu at *
  have o6 : w.heap.size ≤ bu := by omega
  have c1 : bu ≠ bd := by omega
  have c2 : bq ≠ bu := by omega
  have c3 : br ≠ bu := by omega
  have c4 : bq ≠ bd := by omega
  have c5 : br ≠ bd := by omega
  have c6 : bq ≠ br := by omega
  have c2' := Ne.symm c2
  have c6' := Ne.symm c6
  clear o3 o4 o5
  rw [TT.out.1, TT.out.2.1, TT.out.2.2] at hU
  clear TT
  have wr : IntKind.i64.wrap 0 = 0 ∧ IntKind.i64.wrap 1 = 1 ∧ IntKind.i64.wrap 2 = 2 ∧ IntKind.i64.wrap 3 = 3 ∧ IntKind.i64.wrap 4 = 4 ∧ IntKind.i64.wrap 5 = 5 ∧ IntKind.i64.wrap 6 = 6 ∧ IntKind.i64.wrap 7 = 7 ∧ IntKind.i64.wrap 8 = 8 ∧ IntKind.i64.wrap 9 = 9 := by decide
  refine wp_loop_rounds 7 ?_
  -- digit 5
  have gq : W.cell? ⟨bq, 5, none⟩ = some (.int .u64 0) ∧ W.frozen? ⟨bq, 5, none⟩ = false := ⟨hQ 5 (by simp), lQ 5 (by simp)⟩
  have GG : Hid (Calls Tryd.prog 100 #[.slice (some ⟨bu, 5, none⟩) 4 4, .slice (some ⟨bd, 0, none⟩) 3 4] W.drew fun e w' => e = .returned (.int .u64 q5) ∧ Sets bu 5 [(l0 R5), (l1 R5), (l2 R5), 0] W.drew w') := G5.out bu bd c1 W.drew (hU 5 (by simp)) (hU 6 (by simp)) (hU 7 (by simp)) (hU 8 (by simp)) (hD 0 (by simp)) (hD 1 (by simp)) (hD 2 (by simp)) (lU 5 (by simp)) (lU 6 (by simp)) (lU 7 (by simp)) (lU 8 (by simp))
  clear G5
  rw [rounds_succ]; go_wp2
  go_region_with (go_at_call 100; refine GG.out.mono ?_; rintro e w' ⟨rfl, S⟩; have sq := S.other (p := ⟨bq, 5, none⟩) c2; have sf := S.frozen)
  go_wp2
  replace S := (Sets.ofDraws (n := 1) S)
  refine rounds_world (fun W' => Below w.heap.size w W' ∧ Row W' bq [0, 0, 0, 0, 0, q5, 0, 0] ∧ Loose W' bq 8 ∧ Row W' br [0, 0, 0, 0] ∧ Loose W' br 4 ∧ Row W' bd [(l0 D), (l1 D), (l2 D), (l3 D)] ∧ Row W' bu [t0, t1, t2, t3, t4, (l0 R5), (l1 R5), (l2 R5), 0] ∧ Loose W' bu 9) ⟨(B.trans (S.below o6)).setCell o1 _, (hQ.other S c2).set 5 (by simp) _, (lQ.sets S).set _ _, (hR.other S c3).setOther c6 _, (lR.sets S).set _ _, (hD.other S (Ne.symm c1)).setOther c4 _, (hU.sets S (by simp)).setOther c2 _, (lU.sets S).set _ _⟩ ?_
  clear B hQ lQ hR lR hD hU lU gq GG sq sf S w'
  rintro W' ⟨B, hQ, lQ, hR, lR, hD, hU, lU⟩
  clear W
  generalize W' = W at *
  -- digit 4
  have gq : W.cell? ⟨bq, 4, none⟩ = some (.int .u64 0) ∧ W.frozen? ⟨bq, 4, none⟩ = false := ⟨hQ 4 (by simp), lQ 4 (by simp)⟩
  have GG : Hid (Calls Tryd.prog 100 #[.slice (some ⟨bu, 4, none⟩) 4 5, .slice (some ⟨bd, 0, none⟩) 3 4] W.drew fun e w' => e = .returned (.int .u64 q4) ∧ Sets bu 4 [(l0 R4), (l1 R4), (l2 R4), 0] W.drew w') := G4.out bu bd c1 W.drew (hU 4 (by simp)) (hU 5 (by simp)) (hU 6 (by simp)) (hU 7 (by simp)) (hD 0 (by simp)) (hD 1 (by simp)) (hD 2 (by simp)) (lU 4 (by simp)) (lU 5 (by simp)) (lU 6 (by simp)) (lU 7 (by simp))
  clear G4
  rw [rounds_succ]; go_wp2
  go_region_with (go_at_call 100; refine GG.out.mono ?_; rintro e w' ⟨rfl, S⟩; have sq := S.other (p := ⟨bq, 4, none⟩) c2; have sf := S.frozen)
  go_wp2
  replace S := (Sets.ofDraws (n := 1) S)
  refine rounds_world (fun W' => Below w.heap.size w W' ∧ Row W' bq [0, 0, 0, 0, q4, q5, 0, 0] ∧ Loose W' bq 8 ∧ Row W' br [0, 0, 0, 0] ∧ Loose W' br 4 ∧ Row W' bd [(l0 D), (l1 D), (l2 D), (l3 D)] ∧ Row W' bu [t0, t1, t2, t3, (l0 R4), (l1 R4), (l2 R4), 0, 0] ∧ Loose W' bu 9) ⟨(B.trans (S.below o6)).setCell o1 _, (hQ.other S c2).set 4 (by simp) _, (lQ.sets S).set _ _, (hR.other S c3).setOther c6 _, (lR.sets S).set _ _, (hD.other S (Ne.symm c1)).setOther c4 _, (hU.sets S (by simp)).setOther c2 _, (lU.sets S).set _ _⟩ ?_
  clear B hQ lQ hR lR hD hU lU gq GG sq sf S w'
  rintro W' ⟨B, hQ, lQ, hR, lR, hD, hU, lU⟩
  clear W
  generalize W' = W at *
  -- digit 3
  have gq : W.cell? ⟨bq, 3, none⟩ = some (.int .u64 0) ∧ W.frozen? ⟨bq, 3, none⟩ = false := ⟨hQ 3 (by simp), lQ 3 (by simp)⟩
  have GG : Hid (Calls Tryd.prog 100 #[.slice (some ⟨bu, 3, none⟩) 4 6, .slice (some ⟨bd, 0, none⟩) 3 4] W.drew fun e w' => e = .returned (.int .u64 q3) ∧ Sets bu 3 [(l0 R3), (l1 R3), (l2 R3), 0] W.drew w') := G3.out bu bd c1 W.drew (hU 3 (by simp)) (hU 4 (by simp)) (hU 5 (by simp)) (hU 6 (by simp)) (hD 0 (by simp)) (hD 1 (by simp)) (hD 2 (by simp)) (lU 3 (by simp)) (lU 4 (by simp)) (lU 5 (by simp)) (lU 6 (by simp))
  clear G3
  rw [rounds_succ]; go_wp2
  go_region_with (go_at_call 100; refine GG.out.mono ?_; rintro e w' ⟨rfl, S⟩; have sq := S.other (p := ⟨bq, 3, none⟩) c2; have sf := S.frozen)
  go_wp2
  replace S := (Sets.ofDraws (n := 1) S)
  refine rounds_world (fun W' => Below w.heap.size w W' ∧ Row W' bq [0, 0, 0, q3, q4, q5, 0, 0] ∧ Loose W' bq 8 ∧ Row W' br [0, 0, 0, 0] ∧ Loose W' br 4 ∧ Row W' bd [(l0 D), (l1 D), (l2 D), (l3 D)] ∧ Row W' bu [t0, t1, t2, (l0 R3), (l1 R3), (l2 R3), 0, 0, 0] ∧ Loose W' bu 9) ⟨(B.trans (S.below o6)).setCell o1 _, (hQ.other S c2).set 3 (by simp) _, (lQ.sets S).set _ _, (hR.other S c3).setOther c6 _, (lR.sets S).set _ _, (hD.other S (Ne.symm c1)).setOther c4 _, (hU.sets S (by simp)).setOther c2 _, (lU.sets S).set _ _⟩ ?_
  clear B hQ lQ hR lR hD hU lU gq GG sq sf S w'
  rintro W' ⟨B, hQ, lQ, hR, lR, hD, hU, lU⟩
  clear W
  generalize W' = W at *
  -- digit 2
  have gq : W.cell? ⟨bq, 2, none⟩ = some (.int .u64 0) ∧ W.frozen? ⟨bq, 2, none⟩ = false := ⟨hQ 2 (by simp), lQ 2 (by simp)⟩
  have GG : Hid (Calls Tryd.prog 100 #[.slice (some ⟨bu, 2, none⟩) 4 7, .slice (some ⟨bd, 0, none⟩) 3 4] W.drew fun e w' => e = .returned (.int .u64 q2) ∧ Sets bu 2 [(l0 R2), (l1 R2), (l2 R2), 0] W.drew w') := G2.out bu bd c1 W.drew (hU 2 (by simp)) (hU 3 (by simp)) (hU 4 (by simp)) (hU 5 (by simp)) (hD 0 (by simp)) (hD 1 (by simp)) (hD 2 (by simp)) (lU 2 (by simp)) (lU 3 (by simp)) (lU 4 (by simp)) (lU 5 (by simp))
  clear G2
  rw [rounds_succ]; go_wp2
  go_region_with (go_at_call 100; refine GG.out.mono ?_; rintro e w' ⟨rfl, S⟩; have sq := S.other (p := ⟨bq, 2, none⟩) c2; have sf := S.frozen)
  go_wp2
  replace S := (Sets.ofDraws (n := 1) S)
  refine rounds_world (fun W' => Below w.heap.size w W' ∧ Row W' bq [0, 0, q2, q3, q4, q5, 0, 0] ∧ Loose W' bq 8 ∧ Row W' br [0, 0, 0, 0] ∧ Loose W' br 4 ∧ Row W' bd [(l0 D), (l1 D), (l2 D), (l3 D)] ∧ Row W' bu [t0, t1, (l0 R2), (l1 R2), (l2 R2), 0, 0, 0, 0] ∧ Loose W' bu 9) ⟨(B.trans (S.below o6)).setCell o1 _, (hQ.other S c2).set 2 (by simp) _, (lQ.sets S).set _ _, (hR.other S c3).setOther c6 _, (lR.sets S).set _ _, (hD.other S (Ne.symm c1)).setOther c4 _, (hU.sets S (by simp)).setOther c2 _, (lU.sets S).set _ _⟩ ?_
  clear B hQ lQ hR lR hD hU lU gq GG sq sf S w'
  rintro W' ⟨B, hQ, lQ, hR, lR, hD, hU, lU⟩
  clear W
  generalize W' = W at *
  -- digit 1
  have gq : W.cell? ⟨bq, 1, none⟩ = some (.int .u64 0) ∧ W.frozen? ⟨bq, 1, none⟩ = false := ⟨hQ 1 (by simp), lQ 1 (by simp)⟩
  have GG : Hid (Calls Tryd.prog 100 #[.slice (some ⟨bu, 1, none⟩) 4 8, .slice (some ⟨bd, 0, none⟩) 3 4] W.drew fun e w' => e = .returned (.int .u64 q1) ∧ Sets bu 1 [(l0 R1), (l1 R1), (l2 R1), 0] W.drew w') := G1.out bu bd c1 W.drew (hU 1 (by simp)) (hU 2 (by simp)) (hU 3 (by simp)) (hU 4 (by simp)) (hD 0 (by simp)) (hD 1 (by simp)) (hD 2 (by simp)) (lU 1 (by simp)) (lU 2 (by simp)) (lU 3 (by simp)) (lU 4 (by simp))
  clear G1
  rw [rounds_succ]; go_wp2
  go_region_with (go_at_call 100; refine GG.out.mono ?_; rintro e w' ⟨rfl, S⟩; have sq := S.other (p := ⟨bq, 1, none⟩) c2; have sf := S.frozen)
  go_wp2
  replace S := (Sets.ofDraws (n := 1) S)
  refine rounds_world (fun W' => Below w.heap.size w W' ∧ Row W' bq [0, q1, q2, q3, q4, q5, 0, 0] ∧ Loose W' bq 8 ∧ Row W' br [0, 0, 0, 0] ∧ Loose W' br 4 ∧ Row W' bd [(l0 D), (l1 D), (l2 D), (l3 D)] ∧ Row W' bu [t0, (l0 R1), (l1 R1), (l2 R1), 0, 0, 0, 0, 0] ∧ Loose W' bu 9) ⟨(B.trans (S.below o6)).setCell o1 _, (hQ.other S c2).set 1 (by simp) _, (lQ.sets S).set _ _, (hR.other S c3).setOther c6 _, (lR.sets S).set _ _, (hD.other S (Ne.symm c1)).setOther c4 _, (hU.sets S (by simp)).setOther c2 _, (lU.sets S).set _ _⟩ ?_
  clear B hQ lQ hR lR hD hU lU gq GG sq sf S w'
  rintro W' ⟨B, hQ, lQ, hR, lR, hD, hU, lU⟩
  clear W
  generalize W' = W at *
  -- digit 0
  have gq : W.cell? ⟨bq, 0, none⟩ = some (.int .u64 0) ∧ W.frozen? ⟨bq, 0, none⟩ = false := ⟨hQ 0 (by simp), lQ 0 (by simp)⟩
  have GG : Hid (Calls Tryd.prog 100 #[.slice (some ⟨bu, 0, none⟩) 4 9, .slice (some ⟨bd, 0, none⟩) 3 4] W.drew fun e w' => e = .returned (.int .u64 q0) ∧ Sets bu 0 [(l0 R0), (l1 R0), (l2 R0), 0] W.drew w') := G0.out bu bd c1 W.drew (hU 0 (by simp)) (hU 1 (by simp)) (hU 2 (by simp)) (hU 3 (by simp)) (hD 0 (by simp)) (hD 1 (by simp)) (hD 2 (by simp)) (lU 0 (by simp)) (lU 1 (by simp)) (lU 2 (by simp)) (lU 3 (by simp))
  clear G0
  rw [rounds_succ]; go_wp2
  go_region_with (go_at_call 100; refine GG.out.mono ?_; rintro e w' ⟨rfl, S⟩; have sq := S.other (p := ⟨bq, 0, none⟩) c2; have sf := S.frozen)
  go_wp2
  replace S := (Sets.ofDraws (n := 1) S)
  refine rounds_world (fun W' => Below w.heap.size w W' ∧ Row W' bq [q0, q1, q2, q3, q4, q5, 0, 0] ∧ Loose W' bq 8 ∧ Row W' br [0, 0, 0, 0] ∧ Loose W' br 4 ∧ Row W' bd [(l0 D), (l1 D), (l2 D), (l3 D)] ∧ Row W' bu [(l0 R0), (l1 R0), (l2 R0), 0, 0, 0, 0, 0, 0] ∧ Loose W' bu 9) ⟨(B.trans (S.below o6)).setCell o1 _, (hQ.other S c2).set 0 (by simp) _, (lQ.sets S).set _ _, (hR.other S c3).setOther c6 _, (lR.sets S).set _ _, (hD.other S (Ne.symm c1)).setOther c4 _, (hU.sets S (by simp)).setOther c2 _, (lU.sets S).set _ _⟩ ?_
  clear B hQ lQ hR lR hD hU lU gq GG sq sf S w'
  rintro W' ⟨B, hQ, lQ, hR, lR, hD, hU, lU⟩
  clear W
  generalize W' = W at *
  rw [rounds_succ]; go_wp2
  have cp : (Builtin.copy_ #[109, 109] 3 #[.slice (some ⟨br, 0, none⟩) 4 4, .slice (some ⟨bu, 0, none⟩) 3 9]).run Tryd.prog W.drew = .ok (goInt 3) (((W.setCell ⟨br, 0, none⟩ (.int .u64 (l0 R0))).setCell ⟨br, 1, none⟩ (.int .u64 (l1 R0))).setCell ⟨br, 2, none⟩ (.int .u64 (l2 R0))).drew := by
    refine (run_copy_cells (P := Tryd.prog) W.drew 109 109 3 22 br 0 4 4 ⟨bu, 0, none⟩ 3 9 [.int .u64 (l0 R0), .int .u64 (l1 R0), .int .u64 (l2 R0)] (by kernel_rfl) (by kernel_rfl) rfl ?_ ?_ ?_ ?_).trans rfl
    · intro j v hj
      match j, hj with
      | 0, hj => simp at hj; subst hj; exact hU 0 (by simp)
      | 1, hj => simp at hj; subst hj; exact hU 1 (by simp)
      | 2, hj => simp at hj; subst hj; exact hU 2 (by simp)
    · intro j hj
      simp at hj
      have e := hR j (by simp; omega)
      show (W.cell? ⟨br, 0 + j, none⟩).isSome = true
      rw [Nat.zero_add, e]
      rfl
    · intro j hj
      simp at hj
      show W.frozen? ⟨br, 0 + j, none⟩ = false
      rw [Nat.zero_add]
      exact lR j (by omega)
    · intro v hv
      simp only [List.mem_cons, List.not_mem_nil, or_false] at hv
      rcases hv with rfl | rfl | rfl <;> rfl
  go_region
  clear cp
  go_wp2_with fail
  refine wp_world (fun W' => Below w.heap.size w W' ∧ Row W' bq [q0, q1, q2, q3, q4, q5, 0, 0] ∧ Loose W' bq 8 ∧ Row W' br [(l0 R0), (l1 R0), (l2 R0), 0] ∧ Loose W' br 4) ⟨?_, ?_, ?_, ?_, ?_⟩ ?_
  · repeat (first | with_reducible refine Below.drew ?_ | with_reducible refine Below.setCell ?_ o2 _ | exact B)
  · exact (((hQ.setOther (p := ⟨br, 0, none⟩) c6' _).setOther (p := ⟨br, 1, none⟩) c6' _).setOther (p := ⟨br, 2, none⟩) c6' _).drew
  · exact (((lQ.set ⟨br, 0, none⟩ _).set ⟨br, 1, none⟩ _).set ⟨br, 2, none⟩ _).drew
  · exact (((hR.set 0 (by simp) _).set 1 (by simp) _).set 2 (by simp) _).drew
  · exact (((lR.set ⟨br, 0, none⟩ _).set ⟨br, 1, none⟩ _).set ⟨br, 2, none⟩ _).drew
  clear B hQ lQ hR lR hD hU lU
  rintro W' ⟨B, hQ, lQ, hR, lR⟩
  clear W
  generalize W' = W at *
  rw [show ([(l0 R0), (l1 R0), (l2 R0), 0] : List Int) = [l0 R0, l1 R0, l2 R0, l3 R0] by
    have := RR.out
    simp only [List.cons.injEq, and_true, true_and]
    unfold l3; omega] at hR
  clear RR
  have bl : bq < W.heap.size := hQ.lt (by simp)
  have bl' : br < W.heap.size := hR.lt (by simp)
  have gq : W.cell? ⟨bq, 0, none⟩ = some (.int .u64 q0) ∧ W.cell? ⟨bq, 1, none⟩ = some (.int .u64 q1) ∧ W.cell? ⟨bq, 2, none⟩ = some (.int .u64 q2) ∧ W.cell? ⟨bq, 3, none⟩ = some (.int .u64 q3) ∧ W.cell? ⟨bq, 4, none⟩ = some (.int .u64 q4) ∧ W.cell? ⟨bq, 5, none⟩ = some (.int .u64 q5) ∧ W.cell? ⟨bq, 6, none⟩ = some (.int .u64 0) ∧ W.cell? ⟨bq, 7, none⟩ = some (.int .u64 0) := ⟨hQ 0 (by simp), hQ 1 (by simp), hQ 2 (by simp), hQ 3 (by simp), hQ 4 (by simp), hQ 5 (by simp), hQ 6 (by simp), hQ 7 (by simp)⟩
  have gr : W.cell? ⟨br, 0, none⟩ = some (.int .u64 (l0 R0)) ∧ W.cell? ⟨br, 1, none⟩ = some (.int .u64 (l1 R0)) ∧ W.cell? ⟨br, 2, none⟩ = some (.int .u64 (l2 R0)) ∧ W.cell? ⟨br, 3, none⟩ = some (.int .u64 (l3 R0)) := ⟨hR 0 (by simp), hR 1 (by simp), hR 2 (by simp), hR 3 (by simp)⟩
  have fq : W.frozen? ⟨bq, 0, none⟩ = false ∧ W.frozen? ⟨bq, 1, none⟩ = false ∧ W.frozen? ⟨bq, 2, none⟩ = false ∧ W.frozen? ⟨bq, 3, none⟩ = false ∧ W.frozen? ⟨bq, 4, none⟩ = false ∧ W.frozen? ⟨bq, 5, none⟩ = false ∧ W.frozen? ⟨bq, 6, none⟩ = false ∧ W.frozen? ⟨bq, 7, none⟩ = false := ⟨lQ 0 (by simp), lQ 1 (by simp), lQ 2 (by simp), lQ 3 (by simp), lQ 4 (by simp), lQ 5 (by simp), lQ 6 (by simp), lQ 7 (by simp)⟩
  have fr : W.frozen? ⟨br, 0, none⟩ = false ∧ W.frozen? ⟨br, 1, none⟩ = false ∧ W.frozen? ⟨br, 2, none⟩ = false ∧ W.frozen? ⟨br, 3, none⟩ = false := ⟨lR 0 (by simp), lR 1 (by simp), lR 2 (by simp), lR 3 (by simp)⟩
  clear hQ lQ hR lR
  go_region_with (go_at_call 69; refine (SR.out _).mono ?_; rintro e w' ⟨rfl, hb⟩; have cq := fun j => oldCells hb bq j bl; have cr := fun j => oldCells hb br j bl')
  all_goals
    go_wp2
    simp [bodyPost, results, Tryd.results79, go_sem, cq, cr, gq, gr]
    repeat (first | (with_reducible refine Below.setCell ?_ (by first | exact o1 | exact o2) _) | exact B.drew.trans (hb.mono B.drew.size))

end Go.Proofs.YtjppjieidjodfaaDoor

namespace Go.Proofs.YtjppjieidjodfaaDoor
open Go.RowKit

set_option maxHeartbeats 8000000 in
theorem divide_4 {x0 x1 x2 x3 x4 x5 x6 x7 m s L D t0 t1 t2 t3 t4 t5 t6 t7 t8 R0 R1 R2 R3 R4 R5 q0 q1 q2 q3 q4 : Int} (hm : Num m) (L0 : 0 ≤ L) (L1 : L ≤ 256) (eL : lenN m = L) (hL : (L + 63) / 64 = 4) (s0 : 0 ≤ s) (s1 : s ≤ 63)
    (lz : ∀ w, Calls Tryd.prog 98 #[.int .u64 (l3 m)] w fun e w' => e = .returned (.int .i64 s) ∧ w' = w)
    (eD : upN m s = D) (hn : 9223372036854775808 ≤ l3 D) (vD : val [(l0 D), (l1 D), (l2 D), (l3 D)] = D) (bD : D < 115792089237316195423570985008687907853269984665640564039457584007913129639936)
    (wt : Words [t0, t1, t2, t3, t4, t5, t6, t7, t8])
    (li : ∀ w : World, Calls Tryd.prog 99 #[.agg #[.int .u64 x0, .int .u64 x1, .int .u64 x2, .int .u64 x3, .int .u64 x4, .int .u64 x5, .int .u64 x6, .int .u64 x7], .int .i64 s] w fun e w' => e = .returned (.agg #[.int .u64 t0, .int .u64 t1, .int .u64 t2, .int .u64 t3, .int .u64 t4, .int .u64 t5, .int .u64 t6, .int .u64 t7, .int .u64 t8]) ∧ Below w.heap.size w w')
    (r5 : val [t5, t6, t7, t8] = R5) (g5 : R5 < D)
    (e4 : (t4 + 18446744073709551616 * R5) / D = q4) (r4 : (t4 + 18446744073709551616 * R5) % D = R4) (e3 : (t3 + 18446744073709551616 * R4) / D = q3) (r3 : (t3 + 18446744073709551616 * R4) % D = R3) (e2 : (t2 + 18446744073709551616 * R3) / D = q2) (r2 : (t2 + 18446744073709551616 * R3) % D = R2) (e1 : (t1 + 18446744073709551616 * R2) / D = q1) (r1 : (t1 + 18446744073709551616 * R2) % D = R1) (e0 : (t0 + 18446744073709551616 * R1) / D = q0) (r0 : (t0 + 18446744073709551616 * R1) % D = R0)
    (w : World) :
    Calls Tryd.prog 79 #[.agg #[.int .u64 x0, .int .u64 x1, .int .u64 x2, .int .u64 x3, .int .u64 x4, .int .u64 x5, .int .u64 x6, .int .u64 x7], .agg #[.int .u64 (l0 m), .int .u64 (l1 m), .int .u64 (l2 m), .int .u64 (l3 m)]] w fun e w' =>
      e = .returned (.tuple #[.agg #[.int .u64 q0, .int .u64 q1, .int .u64 q2, .int .u64 q3, .int .u64 q4, .int .u64 0, .int .u64 0, .int .u64 0], .agg #[.int .u64 (l0 (downN R0 s)), .int .u64 (l1 (downN R0 s)), .int .u64 (l2 (downN R0 s)), .int .u64 (l3 (downN R0 s))]]) ∧ Below w.heap.size w w' := by
  have D0 : 0 < D := by
    have := l0_word D; have := l1_word D; have := l2_word D; have := l3_word D
    unfold Word at *
    rw [← vD]
    simp only [val]
    omega
  have WD : Words [(l0 D), (l1 D), (l2 D), (l3 D)] := by
    intro x hx
    simp only [List.mem_cons, List.not_mem_nil, or_false] at hx
    rcases hx with rfl | rfl | rfl | rfl
    · exact l0_word D
    · exact l1_word D
    · exact l2_word D
    · exact l3_word D
  have n5 : 0 ≤ R5 := by rw [← r5]; exact (val_nonneg (fun x hx => wt x (List.mem_of_mem_drop (show x ∈ [t0, t1, t2, t3, t4, t5, t6, t7, t8].drop 5 from hx)))).1
  have n4 : 0 ≤ R4 := by rw [← r4]; exact Int.emod_nonneg _ (by omega)
  have g4 : R4 < D := by rw [← r4]; exact Int.emod_lt_of_pos _ D0
  have n3 : 0 ≤ R3 := by rw [← r3]; exact Int.emod_nonneg _ (by omega)
  have g3 : R3 < D := by rw [← r3]; exact Int.emod_lt_of_pos _ D0
  have n2 : 0 ≤ R2 := by rw [← r2]; exact Int.emod_nonneg _ (by omega)
  have g2 : R2 < D := by rw [← r2]; exact Int.emod_lt_of_pos _ D0
  have n1 : 0 ≤ R1 := by rw [← r1]; exact Int.emod_nonneg _ (by omega)
  have g1 : R1 < D := by rw [← r1]; exact Int.emod_lt_of_pos _ D0
  have n0 : 0 ≤ R0 := by rw [← r0]; exact Int.emod_nonneg _ (by omega)
  have g0 : R0 < D := by rw [← r0]; exact Int.emod_lt_of_pos _ D0
  have G4 : Hid (∀ (bu bd : Nat), bu ≠ bd → ∀ w, w.cell? ⟨bu, 4, none⟩ = some (.int .u64 t4) → w.cell? ⟨bu, 5, none⟩ = some (.int .u64 (l0 R5)) → w.cell? ⟨bu, 6, none⟩ = some (.int .u64 (l1 R5)) → w.cell? ⟨bu, 7, none⟩ = some (.int .u64 (l2 R5)) → w.cell? ⟨bu, 8, none⟩ = some (.int .u64 (l3 R5)) → w.cell? ⟨bd, 0, none⟩ = some (.int .u64 (l0 D)) → w.cell? ⟨bd, 1, none⟩ = some (.int .u64 (l1 D)) → w.cell? ⟨bd, 2, none⟩ = some (.int .u64 (l2 D)) → w.cell? ⟨bd, 3, none⟩ = some (.int .u64 (l3 D)) → w.frozen? ⟨bu, 4, none⟩ = false → w.frozen? ⟨bu, 5, none⟩ = false → w.frozen? ⟨bu, 6, none⟩ = false → w.frozen? ⟨bu, 7, none⟩ = false → w.frozen? ⟨bu, 8, none⟩ = false → Calls Tryd.prog 100 #[.slice (some ⟨bu, 4, none⟩) 5 5, .slice (some ⟨bd, 0, none⟩) 4 4] w fun e w' => e = .returned (.int .u64 q4) ∧ Sets bu 4 [(l0 R4), (l1 R4), (l2 R4), (l3 R4), 0] w w') := by
    intro bu bd ne w a0 a1 a2 a3 a4 b0 b1 b2 b3 c0 c1 c2 c3 c4
    have h : val [(l0 R5), (l1 R5), (l2 R5), (l3 R5)] = R5 := by
      simp only [val]; unfold l0 l1 l2 l3; omega
    have vU : val [t4, (l0 R5), (l1 R5), (l2 R5), (l3 R5)] = t4 + 18446744073709551616 * R5 := congrArg (fun v => t4 + 18446744073709551616 * v) h
    have wt4 := wt t4 (by simp)
    have d := digit_4 (o := 4) (ku := 5) (kd := 4) wt4 (l0_word R5) (l1_word R5) (l2_word R5) (l3_word R5) (l0_word D) (l1_word D) (l2_word D) (l3_word D) hn (by rw [vU, vD]; obtain ⟨_, _⟩ := wt4; omega) ne w a0 a1 a2 a3 a4 b0 b1 b2 b3 c0 c1 c2 c3 c4
    rw [vU, vD, e4, r4] at d
    refine d.mono ?_
    rintro e w' ⟨rfl, vs, S, ln, wv, ev⟩
    rw [limbs_4 ln wv ev (by omega)] at S
    exact ⟨rfl, S⟩
  have G3 : Hid (∀ (bu bd : Nat), bu ≠ bd → ∀ w, w.cell? ⟨bu, 3, none⟩ = some (.int .u64 t3) → w.cell? ⟨bu, 4, none⟩ = some (.int .u64 (l0 R4)) → w.cell? ⟨bu, 5, none⟩ = some (.int .u64 (l1 R4)) → w.cell? ⟨bu, 6, none⟩ = some (.int .u64 (l2 R4)) → w.cell? ⟨bu, 7, none⟩ = some (.int .u64 (l3 R4)) → w.cell? ⟨bd, 0, none⟩ = some (.int .u64 (l0 D)) → w.cell? ⟨bd, 1, none⟩ = some (.int .u64 (l1 D)) → w.cell? ⟨bd, 2, none⟩ = some (.int .u64 (l2 D)) → w.cell? ⟨bd, 3, none⟩ = some (.int .u64 (l3 D)) → w.frozen? ⟨bu, 3, none⟩ = false → w.frozen? ⟨bu, 4, none⟩ = false → w.frozen? ⟨bu, 5, none⟩ = false → w.frozen? ⟨bu, 6, none⟩ = false → w.frozen? ⟨bu, 7, none⟩ = false → Calls Tryd.prog 100 #[.slice (some ⟨bu, 3, none⟩) 5 6, .slice (some ⟨bd, 0, none⟩) 4 4] w fun e w' => e = .returned (.int .u64 q3) ∧ Sets bu 3 [(l0 R3), (l1 R3), (l2 R3), (l3 R3), 0] w w') := by
    intro bu bd ne w a0 a1 a2 a3 a4 b0 b1 b2 b3 c0 c1 c2 c3 c4
    have h : val [(l0 R4), (l1 R4), (l2 R4), (l3 R4)] = R4 := by
      simp only [val]; unfold l0 l1 l2 l3; omega
    have vU : val [t3, (l0 R4), (l1 R4), (l2 R4), (l3 R4)] = t3 + 18446744073709551616 * R4 := congrArg (fun v => t3 + 18446744073709551616 * v) h
    have wt3 := wt t3 (by simp)
    have d := digit_4 (o := 3) (ku := 6) (kd := 4) wt3 (l0_word R4) (l1_word R4) (l2_word R4) (l3_word R4) (l0_word D) (l1_word D) (l2_word D) (l3_word D) hn (by rw [vU, vD]; obtain ⟨_, _⟩ := wt3; omega) ne w a0 a1 a2 a3 a4 b0 b1 b2 b3 c0 c1 c2 c3 c4
    rw [vU, vD, e3, r3] at d
    refine d.mono ?_
    rintro e w' ⟨rfl, vs, S, ln, wv, ev⟩
    rw [limbs_4 ln wv ev (by omega)] at S
    exact ⟨rfl, S⟩
  have G2 : Hid (∀ (bu bd : Nat), bu ≠ bd → ∀ w, w.cell? ⟨bu, 2, none⟩ = some (.int .u64 t2) → w.cell? ⟨bu, 3, none⟩ = some (.int .u64 (l0 R3)) → w.cell? ⟨bu, 4, none⟩ = some (.int .u64 (l1 R3)) → w.cell? ⟨bu, 5, none⟩ = some (.int .u64 (l2 R3)) → w.cell? ⟨bu, 6, none⟩ = some (.int .u64 (l3 R3)) → w.cell? ⟨bd, 0, none⟩ = some (.int .u64 (l0 D)) → w.cell? ⟨bd, 1, none⟩ = some (.int .u64 (l1 D)) → w.cell? ⟨bd, 2, none⟩ = some (.int .u64 (l2 D)) → w.cell? ⟨bd, 3, none⟩ = some (.int .u64 (l3 D)) → w.frozen? ⟨bu, 2, none⟩ = false → w.frozen? ⟨bu, 3, none⟩ = false → w.frozen? ⟨bu, 4, none⟩ = false → w.frozen? ⟨bu, 5, none⟩ = false → w.frozen? ⟨bu, 6, none⟩ = false → Calls Tryd.prog 100 #[.slice (some ⟨bu, 2, none⟩) 5 7, .slice (some ⟨bd, 0, none⟩) 4 4] w fun e w' => e = .returned (.int .u64 q2) ∧ Sets bu 2 [(l0 R2), (l1 R2), (l2 R2), (l3 R2), 0] w w') := by
    intro bu bd ne w a0 a1 a2 a3 a4 b0 b1 b2 b3 c0 c1 c2 c3 c4
    have h : val [(l0 R3), (l1 R3), (l2 R3), (l3 R3)] = R3 := by
      simp only [val]; unfold l0 l1 l2 l3; omega
    have vU : val [t2, (l0 R3), (l1 R3), (l2 R3), (l3 R3)] = t2 + 18446744073709551616 * R3 := congrArg (fun v => t2 + 18446744073709551616 * v) h
    have wt2 := wt t2 (by simp)
    have d := digit_4 (o := 2) (ku := 7) (kd := 4) wt2 (l0_word R3) (l1_word R3) (l2_word R3) (l3_word R3) (l0_word D) (l1_word D) (l2_word D) (l3_word D) hn (by rw [vU, vD]; obtain ⟨_, _⟩ := wt2; omega) ne w a0 a1 a2 a3 a4 b0 b1 b2 b3 c0 c1 c2 c3 c4
    rw [vU, vD, e2, r2] at d
    refine d.mono ?_
    rintro e w' ⟨rfl, vs, S, ln, wv, ev⟩
    rw [limbs_4 ln wv ev (by omega)] at S
    exact ⟨rfl, S⟩
  have G1 : Hid (∀ (bu bd : Nat), bu ≠ bd → ∀ w, w.cell? ⟨bu, 1, none⟩ = some (.int .u64 t1) → w.cell? ⟨bu, 2, none⟩ = some (.int .u64 (l0 R2)) → w.cell? ⟨bu, 3, none⟩ = some (.int .u64 (l1 R2)) → w.cell? ⟨bu, 4, none⟩ = some (.int .u64 (l2 R2)) → w.cell? ⟨bu, 5, none⟩ = some (.int .u64 (l3 R2)) → w.cell? ⟨bd, 0, none⟩ = some (.int .u64 (l0 D)) → w.cell? ⟨bd, 1, none⟩ = some (.int .u64 (l1 D)) → w.cell? ⟨bd, 2, none⟩ = some (.int .u64 (l2 D)) → w.cell? ⟨bd, 3, none⟩ = some (.int .u64 (l3 D)) → w.frozen? ⟨bu, 1, none⟩ = false → w.frozen? ⟨bu, 2, none⟩ = false → w.frozen? ⟨bu, 3, none⟩ = false → w.frozen? ⟨bu, 4, none⟩ = false → w.frozen? ⟨bu, 5, none⟩ = false → Calls Tryd.prog 100 #[.slice (some ⟨bu, 1, none⟩) 5 8, .slice (some ⟨bd, 0, none⟩) 4 4] w fun e w' => e = .returned (.int .u64 q1) ∧ Sets bu 1 [(l0 R1), (l1 R1), (l2 R1), (l3 R1), 0] w w') := by
    intro bu bd ne w a0 a1 a2 a3 a4 b0 b1 b2 b3 c0 c1 c2 c3 c4
    have h : val [(l0 R2), (l1 R2), (l2 R2), (l3 R2)] = R2 := by
      simp only [val]; unfold l0 l1 l2 l3; omega
    have vU : val [t1, (l0 R2), (l1 R2), (l2 R2), (l3 R2)] = t1 + 18446744073709551616 * R2 := congrArg (fun v => t1 + 18446744073709551616 * v) h
    have wt1 := wt t1 (by simp)
    have d := digit_4 (o := 1) (ku := 8) (kd := 4) wt1 (l0_word R2) (l1_word R2) (l2_word R2) (l3_word R2) (l0_word D) (l1_word D) (l2_word D) (l3_word D) hn (by rw [vU, vD]; obtain ⟨_, _⟩ := wt1; omega) ne w a0 a1 a2 a3 a4 b0 b1 b2 b3 c0 c1 c2 c3 c4
    rw [vU, vD, e1, r1] at d
    refine d.mono ?_
    rintro e w' ⟨rfl, vs, S, ln, wv, ev⟩
    rw [limbs_4 ln wv ev (by omega)] at S
    exact ⟨rfl, S⟩
  have G0 : Hid (∀ (bu bd : Nat), bu ≠ bd → ∀ w, w.cell? ⟨bu, 0, none⟩ = some (.int .u64 t0) → w.cell? ⟨bu, 1, none⟩ = some (.int .u64 (l0 R1)) → w.cell? ⟨bu, 2, none⟩ = some (.int .u64 (l1 R1)) → w.cell? ⟨bu, 3, none⟩ = some (.int .u64 (l2 R1)) → w.cell? ⟨bu, 4, none⟩ = some (.int .u64 (l3 R1)) → w.cell? ⟨bd, 0, none⟩ = some (.int .u64 (l0 D)) → w.cell? ⟨bd, 1, none⟩ = some (.int .u64 (l1 D)) → w.cell? ⟨bd, 2, none⟩ = some (.int .u64 (l2 D)) → w.cell? ⟨bd, 3, none⟩ = some (.int .u64 (l3 D)) → w.frozen? ⟨bu, 0, none⟩ = false → w.frozen? ⟨bu, 1, none⟩ = false → w.frozen? ⟨bu, 2, none⟩ = false → w.frozen? ⟨bu, 3, none⟩ = false → w.frozen? ⟨bu, 4, none⟩ = false → Calls Tryd.prog 100 #[.slice (some ⟨bu, 0, none⟩) 5 9, .slice (some ⟨bd, 0, none⟩) 4 4] w fun e w' => e = .returned (.int .u64 q0) ∧ Sets bu 0 [(l0 R0), (l1 R0), (l2 R0), (l3 R0), 0] w w') := by
    intro bu bd ne w a0 a1 a2 a3 a4 b0 b1 b2 b3 c0 c1 c2 c3 c4
    have h : val [(l0 R1), (l1 R1), (l2 R1), (l3 R1)] = R1 := by
      simp only [val]; unfold l0 l1 l2 l3; omega
    have vU : val [t0, (l0 R1), (l1 R1), (l2 R1), (l3 R1)] = t0 + 18446744073709551616 * R1 := congrArg (fun v => t0 + 18446744073709551616 * v) h
    have wt0 := wt t0 (by simp)
    have d := digit_4 (o := 0) (ku := 9) (kd := 4) wt0 (l0_word R1) (l1_word R1) (l2_word R1) (l3_word R1) (l0_word D) (l1_word D) (l2_word D) (l3_word D) hn (by rw [vU, vD]; obtain ⟨_, _⟩ := wt0; omega) ne w a0 a1 a2 a3 a4 b0 b1 b2 b3 c0 c1 c2 c3 c4
    rw [vU, vD, e0, r0] at d
    refine d.mono ?_
    rintro e w' ⟨rfl, vs, S, ln, wv, ev⟩
    rw [limbs_4 ln wv ev (by omega)] at S
    exact ⟨rfl, S⟩
  have tops : t5 = l0 R5 ∧ t6 = l1 R5 ∧ t7 = l2 R5 ∧ t8 = l3 R5 := by
    obtain ⟨_, _⟩ := wt t5 (by simp)
    obtain ⟨_, _⟩ := wt t6 (by simp)
    obtain ⟨_, _⟩ := wt t7 (by simp)
    obtain ⟨_, _⟩ := wt t8 (by simp)
    rw [← r5]
    simp only [val]
    unfold l0 l1 l2 l3
    omega
  have SR : Hid (∀ w, Calls Tryd.prog 69 #[.agg #[.int .u64 (l0 R0), .int .u64 (l1 R0), .int .u64 (l2 R0), .int .u64 (l3 R0)], .int .i64 s] w fun e w' => e = .returned (.agg #[.int .u64 (l0 (downN R0 s)), .int .u64 (l1 (downN R0 s)), .int .u64 (l2 (downN R0 s)), .int .u64 (l3 (downN R0 s))]) ∧ Below w.heap.size w w') := fun w => shr_near ⟨n0, by omega⟩ s0 (by omega) w
  have LZ : Hid (∀ w, Calls Tryd.prog 98 #[.int .u64 (l3 m)] w fun e w' => e = .returned (.int .i64 s) ∧ w' = w) := lz
  have LI : Hid (∀ w : World, Calls Tryd.prog 99 #[.agg #[.int .u64 x0, .int .u64 x1, .int .u64 x2, .int .u64 x3, .int .u64 x4, .int .u64 x5, .int .u64 x6, .int .u64 x7], .int .i64 s] w fun e w' => e = .returned (.agg #[.int .u64 t0, .int .u64 t1, .int .u64 t2, .int .u64 t3, .int .u64 t4, .int .u64 t5, .int .u64 t6, .int .u64 t7, .int .u64 t8]) ∧ Below w.heap.size w w') := li
  have LE := len_any hm
  rw [eL] at LE
  have LE' : Hid (∀ w, Calls Tryd.prog 25 #[.agg #[.int .u64 (l0 m), .int .u64 (l1 m), .int .u64 (l2 m), .int .u64 (l3 m)]] w fun e w' => e = .returned (.int .i64 L) ∧ Below w.heap.size w w') := LE
  have SH := fun w => shl_near (n := m) hm s0 (by omega) w
  rw [eD] at SH
  have SH' : Hid (∀ w, Calls Tryd.prog 27 #[.agg #[.int .u64 (l0 m), .int .u64 (l1 m), .int .u64 (l2 m), .int .u64 (l3 m)], .int .i64 s] w fun e w' => e = .returned (.agg #[.int .u64 (l0 D), .int .u64 (l1 D), .int .u64 (l2 D), .int .u64 (l3 D)]) ∧ Below w.heap.size w w') := SH
  have TT : Hid (t5 = l0 R5 ∧ t6 = l1 R5 ∧ t7 = l2 R5 ∧ t8 = l3 R5) := tops
  have RR : Hid (R0 < 115792089237316195423570985008687907853269984665640564039457584007913129639936 ∧ 0 ≤ R0) := ⟨by omega, n0⟩
  clear lz li LE SH eL eD hm hn vD bD wt tops WD D0 r0 g0 n0 r1 g1 n1 r2 g2 n2 r3 g3 n3 r4 g4 n4 r5 g5 n5 e0 e1 e2 e3 e4
  go_enter Tryd.func79, Tryd.ntmps79
  go_wp2_with fail
  refine calls_world (fun W => Below w.heap.size w W ∧ Row W w.heap.size [x0, x1, x2, x3, x4, x5, x6, x7] ∧ Hold W (w.heap.size + 1) m ∧ Row W (w.heap.size + 1 + 1) [0, 0, 0, 0, 0, 0, 0, 0] ∧ Loose W (w.heap.size + 1 + 1) 8 ∧ Row W (w.heap.size + 1 + 1 + 1) [0, 0, 0, 0] ∧ Loose W (w.heap.size + 1 + 1 + 1) 4 ∧ w.heap.size + 1 + 1 + 1 < W.heap.size) ⟨?_, ?_, ?_, ?_, ?_, ?_, ?_, ?_⟩ ?_
  · repeat (first | with_reducible exact Below.refl _ _ | with_reducible refine Below.alloc ?_ (by first | omega | (simp; done) | (simp; omega)) _)
  · exact (((Row.new w [x0, x1, x2, x3, x4, x5, x6, x7] _).alloc _).alloc _).alloc _
  · have := Hold.new (w.alloc (.cells #[.int .u64 x0, .int .u64 x1, .int .u64 x2, .int .u64 x3, .int .u64 x4, .int .u64 x5, .int .u64 x6, .int .u64 x7] 91)) m 24
    simp at this
    exact (this.alloc _).alloc _
  · have := Row.new ((w.alloc (.cells #[.int .u64 x0, .int .u64 x1, .int .u64 x2, .int .u64 x3, .int .u64 x4, .int .u64 x5, .int .u64 x6, .int .u64 x7] 91)).alloc (.cells #[.int .u64 (l0 m), .int .u64 (l1 m), .int .u64 (l2 m), .int .u64 (l3 m)] 24)) [0, 0, 0, 0, 0, 0, 0, 0] 91
    simp at this
    exact this.alloc _
  · have := Loose.new ((w.alloc (.cells #[.int .u64 x0, .int .u64 x1, .int .u64 x2, .int .u64 x3, .int .u64 x4, .int .u64 x5, .int .u64 x6, .int .u64 x7] 91)).alloc (.cells #[.int .u64 (l0 m), .int .u64 (l1 m), .int .u64 (l2 m), .int .u64 (l3 m)] 24)) #[.int .u64 0, .int .u64 0, .int .u64 0, .int .u64 0, .int .u64 0, .int .u64 0, .int .u64 0, .int .u64 0] 91 8
    simp at this
    exact this.alloc (by simp) _
  · have := Row.new (((w.alloc (.cells #[.int .u64 x0, .int .u64 x1, .int .u64 x2, .int .u64 x3, .int .u64 x4, .int .u64 x5, .int .u64 x6, .int .u64 x7] 91)).alloc (.cells #[.int .u64 (l0 m), .int .u64 (l1 m), .int .u64 (l2 m), .int .u64 (l3 m)] 24)).alloc (.cells #[.int .u64 0, .int .u64 0, .int .u64 0, .int .u64 0, .int .u64 0, .int .u64 0, .int .u64 0, .int .u64 0] 91)) [0, 0, 0, 0] 24
    simp at this
    exact this
  · have := Loose.new (((w.alloc (.cells #[.int .u64 x0, .int .u64 x1, .int .u64 x2, .int .u64 x3, .int .u64 x4, .int .u64 x5, .int .u64 x6, .int .u64 x7] 91)).alloc (.cells #[.int .u64 (l0 m), .int .u64 (l1 m), .int .u64 (l2 m), .int .u64 (l3 m)] 24)).alloc (.cells #[.int .u64 0, .int .u64 0, .int .u64 0, .int .u64 0, .int .u64 0, .int .u64 0, .int .u64 0, .int .u64 0] 91)) #[.int .u64 0, .int .u64 0, .int .u64 0, .int .u64 0] 24 4
    simp at this
    exact this
  · simp
  rintro W ⟨B, hX, hM, hQ, lQ, hR, lR, hlt⟩
  have o1 : w.heap.size ≤ w.heap.size + 1 + 1 := by omega
  have o2 : w.heap.size ≤ w.heap.size + 1 + 1 + 1 := by omega
  have o3 : w.heap.size + 1 + 1 < w.heap.size + 1 + 1 + 1 := by omega
  generalize w.heap.size + 1 + 1 + 1 = br at *
  generalize w.heap.size + 1 + 1 = bq at *
  generalize w.heap.size + 1 = bm at *
  refine (LE'.out W).mono ?_
  rintro e w1 ⟨rfl, hb⟩
  replace B := B.trans (hb.mono B.size)
  replace lQ := lQ.keep hb (by omega); replace lR := lR.keep hb (by omega)
  replace hX := hX.keep hb; replace hM := hM.keep hb; replace hQ := hQ.keep hb; replace hR := hR.keep hb
  replace hlt := Nat.lt_of_lt_of_le hlt hb.size
  clear hb W LE'
  have gM := hM.cells
  go_wp2_with fail
  refine (LZ.out _).mono ?_
  rintro e w' ⟨rfl, rfl⟩
  go_wp2_with fail
  refine (SH'.out _).mono ?_
  rintro e w2 ⟨rfl, hb⟩
  replace B := B.trans (hb.mono B.size)
  replace lQ := lQ.keep hb (by omega); replace lR := lR.keep hb (by omega)
  replace hX := hX.keep hb; replace hQ := hQ.keep hb; replace hR := hR.keep hb
  replace hlt := Nat.lt_of_lt_of_le hlt hb.size
  clear hb gM hM SH' LZ
  have gX : ∀ o, (w2.alloc o).cell? ⟨w.heap.size, 0, none⟩ = some (.int .u64 x0) ∧ (w2.alloc o).cell? ⟨w.heap.size, 1, none⟩ = some (.int .u64 x1) ∧ (w2.alloc o).cell? ⟨w.heap.size, 2, none⟩ = some (.int .u64 x2) ∧ (w2.alloc o).cell? ⟨w.heap.size, 3, none⟩ = some (.int .u64 x3) ∧ (w2.alloc o).cell? ⟨w.heap.size, 4, none⟩ = some (.int .u64 x4) ∧ (w2.alloc o).cell? ⟨w.heap.size, 5, none⟩ = some (.int .u64 x5) ∧ (w2.alloc o).cell? ⟨w.heap.size, 6, none⟩ = some (.int .u64 x6) ∧ (w2.alloc o).cell? ⟨w.heap.size, 7, none⟩ = some (.int .u64 x7) := fun o => ⟨(hX.alloc o) 0 (by simp), (hX.alloc o) 1 (by simp), (hX.alloc o) 2 (by simp), (hX.alloc o) 3 (by simp), (hX.alloc o) 4 (by simp), (hX.alloc o) 5 (by simp), (hX.alloc o) 6 (by simp), (hX.alloc o) 7 (by simp)⟩
  go_wp2_with fail
  refine calls_world (fun W => Below w.heap.size w W ∧ Row W bq [0, 0, 0, 0, 0, 0, 0, 0] ∧ Loose W bq 8 ∧ Row W br [0, 0, 0, 0] ∧ Loose W br 4 ∧ br < W.heap.size ∧ Row W w2.heap.size [(l0 D), (l1 D), (l2 D), (l3 D)] ∧ w2.heap.size < W.heap.size ∧ br < w2.heap.size) ⟨B.alloc B.size _, hQ.alloc _, lQ.alloc (by omega) _, hR.alloc _, lR.alloc (by omega) _, by simp; omega, Row.new w2 [(l0 D), (l1 D), (l2 D), (l3 D)] _, by simp, hlt⟩ ?_
  clear B hX hQ lQ hR lR gX hlt
  rintro W ⟨B, hQ, lQ, hR, lR, hlt, hD, hlt2, o4⟩
  generalize w2.heap.size = bd at *
  refine (LI.out W).mono ?_
  rintro e w3 ⟨rfl, hb⟩
  replace B := B.trans (hb.mono B.size)
  replace lQ := lQ.keep hb (by omega); replace lR := lR.keep hb (by omega)
  replace hD := hD.keep hb; replace hQ := hQ.keep hb; replace hR := hR.keep hb
  replace hlt2 := Nat.lt_of_lt_of_le hlt2 hb.size
  clear hb hlt LI
  go_wp2_with fail
  refine wp_world (fun W => Below w.heap.size w W ∧ Row W bq [0, 0, 0, 0, 0, 0, 0, 0] ∧ Loose W bq 8 ∧ Row W br [0, 0, 0, 0] ∧ Loose W br 4 ∧ Row W bd [(l0 D), (l1 D), (l2 D), (l3 D)] ∧ Row W w3.heap.size [t0, t1, t2, t3, t4, t5, t6, t7, t8] ∧ Loose W w3.heap.size 9 ∧ bd < w3.heap.size) ⟨B.alloc B.size _, hQ.alloc _, lQ.alloc (by omega) _, hR.alloc _, lR.alloc (by omega) _, hD.alloc _, Row.new w3 [t0, t1, t2, t3, t4, t5, t6, t7, t8] _, Loose.new w3 _ _ 9, hlt2⟩ ?_
  clear B hQ lQ hR lR hD hlt2
  rintro W ⟨B, hQ, lQ, hR, lR, hD, hU, lU, o5⟩
  generalize w3.heap.size = bu at *
  have o6 : w.heap.size ≤ bu := by omega
  have c1 : bu ≠ bd := by omega
  have c2 : bq ≠ bu := by omega
  have c3 : br ≠ bu := by omega
  have c4 : bq ≠ bd := by omega
  have c5 : br ≠ bd := by omega
  have c6 : bq ≠ br := by omega
  have c2' := Ne.symm c2
  have c6' := Ne.symm c6
  clear o3 o4 o5
  rw [TT.out.1, TT.out.2.1, TT.out.2.2.1, TT.out.2.2.2] at hU
  clear TT
  have wr : IntKind.i64.wrap 0 = 0 ∧ IntKind.i64.wrap 1 = 1 ∧ IntKind.i64.wrap 2 = 2 ∧ IntKind.i64.wrap 3 = 3 ∧ IntKind.i64.wrap 4 = 4 ∧ IntKind.i64.wrap 5 = 5 ∧ IntKind.i64.wrap 6 = 6 ∧ IntKind.i64.wrap 7 = 7 ∧ IntKind.i64.wrap 8 = 8 ∧ IntKind.i64.wrap 9 = 9 := by decide
  refine wp_loop_rounds 6 ?_
  -- digit 4
  have gq : W.cell? ⟨bq, 4, none⟩ = some (.int .u64 0) ∧ W.frozen? ⟨bq, 4, none⟩ = false := ⟨hQ 4 (by simp), lQ 4 (by simp)⟩
  have GG : Hid (Calls Tryd.prog 100 #[.slice (some ⟨bu, 4, none⟩) 5 5, .slice (some ⟨bd, 0, none⟩) 4 4] W.drew fun e w' => e = .returned (.int .u64 q4) ∧ Sets bu 4 [(l0 R4), (l1 R4), (l2 R4), (l3 R4), 0] W.drew w') := G4.out bu bd c1 W.drew (hU 4 (by simp)) (hU 5 (by simp)) (hU 6 (by simp)) (hU 7 (by simp)) (hU 8 (by simp)) (hD 0 (by simp)) (hD 1 (by simp)) (hD 2 (by simp)) (hD 3 (by simp)) (lU 4 (by simp)) (lU 5 (by simp)) (lU 6 (by simp)) (lU 7 (by simp)) (lU 8 (by simp))
  clear G4
  rw [rounds_succ]; go_wp2
  go_region_with (go_at_call 100; refine GG.out.mono ?_; rintro e w' ⟨rfl, S⟩; have sq := S.other (p := ⟨bq, 4, none⟩) c2; have sf := S.frozen)
  go_wp2
  replace S := (Sets.ofDraws (n := 1) S)
  refine rounds_world (fun W' => Below w.heap.size w W' ∧ Row W' bq [0, 0, 0, 0, q4, 0, 0, 0] ∧ Loose W' bq 8 ∧ Row W' br [0, 0, 0, 0] ∧ Loose W' br 4 ∧ Row W' bd [(l0 D), (l1 D), (l2 D), (l3 D)] ∧ Row W' bu [t0, t1, t2, t3, (l0 R4), (l1 R4), (l2 R4), (l3 R4), 0] ∧ Loose W' bu 9) ⟨(B.trans (S.below o6)).setCell o1 _, (hQ.other S c2).set 4 (by simp) _, (lQ.sets S).set _ _, (hR.other S c3).setOther c6 _, (lR.sets S).set _ _, (hD.other S (Ne.symm c1)).setOther c4 _, (hU.sets S (by simp)).setOther c2 _, (lU.sets S).set _ _⟩ ?_
  clear B hQ lQ hR lR hD hU lU gq GG sq sf S w'
  rintro W' ⟨B, hQ, lQ, hR, lR, hD, hU, lU⟩
  clear W
  generalize W' = W at *
  -- digit 3
  have gq : W.cell? ⟨bq, 3, none⟩ = some (.int .u64 0) ∧ W.frozen? ⟨bq, 3, none⟩ = false := ⟨hQ 3 (by simp), lQ 3 (by simp)⟩
  have GG : Hid (Calls Tryd.prog 100 #[.slice (some ⟨bu, 3, none⟩) 5 6, .slice (some ⟨bd, 0, none⟩) 4 4] W.drew fun e w' => e = .returned (.int .u64 q3) ∧ Sets bu 3 [(l0 R3), (l1 R3), (l2 R3), (l3 R3), 0] W.drew w') := G3.out bu bd c1 W.drew (hU 3 (by simp)) (hU 4 (by simp)) (hU 5 (by simp)) (hU 6 (by simp)) (hU 7 (by simp)) (hD 0 (by simp)) (hD 1 (by simp)) (hD 2 (by simp)) (hD 3 (by simp)) (lU 3 (by simp)) (lU 4 (by simp)) (lU 5 (by simp)) (lU 6 (by simp)) (lU 7 (by simp))
  clear G3
  rw [rounds_succ]; go_wp2
  go_region_with (go_at_call 100; refine GG.out.mono ?_; rintro e w' ⟨rfl, S⟩; have sq := S.other (p := ⟨bq, 3, none⟩) c2; have sf := S.frozen)
  go_wp2
  replace S := (Sets.ofDraws (n := 1) S)
  refine rounds_world (fun W' => Below w.heap.size w W' ∧ Row W' bq [0, 0, 0, q3, q4, 0, 0, 0] ∧ Loose W' bq 8 ∧ Row W' br [0, 0, 0, 0] ∧ Loose W' br 4 ∧ Row W' bd [(l0 D), (l1 D), (l2 D), (l3 D)] ∧ Row W' bu [t0, t1, t2, (l0 R3), (l1 R3), (l2 R3), (l3 R3), 0, 0] ∧ Loose W' bu 9) ⟨(B.trans (S.below o6)).setCell o1 _, (hQ.other S c2).set 3 (by simp) _, (lQ.sets S).set _ _, (hR.other S c3).setOther c6 _, (lR.sets S).set _ _, (hD.other S (Ne.symm c1)).setOther c4 _, (hU.sets S (by simp)).setOther c2 _, (lU.sets S).set _ _⟩ ?_
  clear B hQ lQ hR lR hD hU lU gq GG sq sf S w'
  rintro W' ⟨B, hQ, lQ, hR, lR, hD, hU, lU⟩
  clear W
  generalize W' = W at *
  -- digit 2
  have gq : W.cell? ⟨bq, 2, none⟩ = some (.int .u64 0) ∧ W.frozen? ⟨bq, 2, none⟩ = false := ⟨hQ 2 (by simp), lQ 2 (by simp)⟩
  have GG : Hid (Calls Tryd.prog 100 #[.slice (some ⟨bu, 2, none⟩) 5 7, .slice (some ⟨bd, 0, none⟩) 4 4] W.drew fun e w' => e = .returned (.int .u64 q2) ∧ Sets bu 2 [(l0 R2), (l1 R2), (l2 R2), (l3 R2), 0] W.drew w') := G2.out bu bd c1 W.drew (hU 2 (by simp)) (hU 3 (by simp)) (hU 4 (by simp)) (hU 5 (by simp)) (hU 6 (by simp)) (hD 0 (by simp)) (hD 1 (by simp)) (hD 2 (by simp)) (hD 3 (by simp)) (lU 2 (by simp)) (lU 3 (by simp)) (lU 4 (by simp)) (lU 5 (by simp)) (lU 6 (by simp))
  clear G2
  rw [rounds_succ]; go_wp2
  go_region_with (go_at_call 100; refine GG.out.mono ?_; rintro e w' ⟨rfl, S⟩; have sq := S.other (p := ⟨bq, 2, none⟩) c2; have sf := S.frozen)
  go_wp2
  replace S := (Sets.ofDraws (n := 1) S)
  refine rounds_world (fun W' => Below w.heap.size w W' ∧ Row W' bq [0, 0, q2, q3, q4, 0, 0, 0] ∧ Loose W' bq 8 ∧ Row W' br [0, 0, 0, 0] ∧ Loose W' br 4 ∧ Row W' bd [(l0 D), (l1 D), (l2 D), (l3 D)] ∧ Row W' bu [t0, t1, (l0 R2), (l1 R2), (l2 R2), (l3 R2), 0, 0, 0] ∧ Loose W' bu 9) ⟨(B.trans (S.below o6)).setCell o1 _, (hQ.other S c2).set 2 (by simp) _, (lQ.sets S).set _ _, (hR.other S c3).setOther c6 _, (lR.sets S).set _ _, (hD.other S (Ne.symm c1)).setOther c4 _, (hU.sets S (by simp)).setOther c2 _, (lU.sets S).set _ _⟩ ?_
  clear B hQ lQ hR lR hD hU lU gq GG sq sf S w'
  rintro W' ⟨B, hQ, lQ, hR, lR, hD, hU, lU⟩
  clear W
  generalize W' = W at *
  -- digit 1
  have gq : W.cell? ⟨bq, 1, none⟩ = some (.int .u64 0) ∧ W.frozen? ⟨bq, 1, none⟩ = false := ⟨hQ 1 (by simp), lQ 1 (by simp)⟩
  have GG : Hid (Calls Tryd.prog 100 #[.slice (some ⟨bu, 1, none⟩) 5 8, .slice (some ⟨bd, 0, none⟩) 4 4] W.drew fun e w' => e = .returned (.int .u64 q1) ∧ Sets bu 1 [(l0 R1), (l1 R1), (l2 R1), (l3 R1), 0] W.drew w') := G1.out bu bd c1 W.drew (hU 1 (by simp)) (hU 2 (by simp)) (hU 3 (by simp)) (hU 4 (by simp)) (hU 5 (by simp)) (hD 0 (by simp)) (hD 1 (by simp)) (hD 2 (by simp)) (hD 3 (by simp)) (lU 1 (by simp)) (lU 2 (by simp)) (lU 3 (by simp)) (lU 4 (by simp)) (lU 5 (by simp))
  clear G1
  rw [rounds_succ]; go_wp2
  go_region_with (go_at_call 100; refine GG.out.mono ?_; rintro e w' ⟨rfl, S⟩; have sq := S.other (p := ⟨bq, 1, none⟩) c2; have sf := S.frozen)
  go_wp2
  replace S := (Sets.ofDraws (n := 1) S)
  refine rounds_world (fun W' => Below w.heap.size w W' ∧ Row W' bq [0, q1, q2, q3, q4, 0, 0, 0] ∧ Loose W' bq 8 ∧ Row W' br [0, 0, 0, 0] ∧ Loose W' br 4 ∧ Row W' bd [(l0 D), (l1 D), (l2 D), (l3 D)] ∧ Row W' bu [t0, (l0 R1), (l1 R1), (l2 R1), (l3 R1), 0, 0, 0, 0] ∧ Loose W' bu 9) ⟨(B.trans (S.below o6)).setCell o1 _, (hQ.other S c2).set 1 (by simp) _, (lQ.sets S).set _ _, (hR.other S c3).setOther c6 _, (lR.sets S).set _ _, (hD.other S (Ne.symm c1)).setOther c4 _, (hU.sets S (by simp)).setOther c2 _, (lU.sets S).set _ _⟩ ?_
  clear B hQ lQ hR lR hD hU lU gq GG sq sf S w'
  rintro W' ⟨B, hQ, lQ, hR, lR, hD, hU, lU⟩
  clear W
  generalize W' = W at *
  -- digit 0
  have gq : W.cell? ⟨bq, 0, none⟩ = some (.int .u64 0) ∧ W.frozen? ⟨bq, 0, none⟩ = false := ⟨hQ 0 (by simp), lQ 0 (by simp)⟩
  have GG : Hid (Calls Tryd.prog 100 #[.slice (some ⟨bu, 0, none⟩) 5 9, .slice (some ⟨bd, 0, none⟩) 4 4] W.drew fun e w' => e = .returned (.int .u64 q0) ∧ Sets bu 0 [(l0 R0), (l1 R0), (l2 R0), (l3 R0), 0] W.drew w') := G0.out bu bd c1 W.drew (hU 0 (by simp)) (hU 1 (by simp)) (hU 2 (by simp)) (hU 3 (by simp)) (hU 4 (by simp)) (hD 0 (by simp)) (hD 1 (by simp)) (hD 2 (by simp)) (hD 3 (by simp)) (lU 0 (by simp)) (lU 1 (by simp)) (lU 2 (by simp)) (lU 3 (by simp)) (lU 4 (by simp))
  clear G0
  rw [rounds_succ]; go_wp2
  go_region_with (go_at_call 100; refine GG.out.mono ?_; rintro e w' ⟨rfl, S⟩; have sq := S.other (p := ⟨bq, 0, none⟩) c2; have sf := S.frozen)
  go_wp2
  replace S := (Sets.ofDraws (n := 1) S)
  refine rounds_world (fun W' => Below w.heap.size w W' ∧ Row W' bq [q0, q1, q2, q3, q4, 0, 0, 0] ∧ Loose W' bq 8 ∧ Row W' br [0, 0, 0, 0] ∧ Loose W' br 4 ∧ Row W' bd [(l0 D), (l1 D), (l2 D), (l3 D)] ∧ Row W' bu [(l0 R0), (l1 R0), (l2 R0), (l3 R0), 0, 0, 0, 0, 0] ∧ Loose W' bu 9) ⟨(B.trans (S.below o6)).setCell o1 _, (hQ.other S c2).set 0 (by simp) _, (lQ.sets S).set _ _, (hR.other S c3).setOther c6 _, (lR.sets S).set _ _, (hD.other S (Ne.symm c1)).setOther c4 _, (hU.sets S (by simp)).setOther c2 _, (lU.sets S).set _ _⟩ ?_
  clear B hQ lQ hR lR hD hU lU gq GG sq sf S w'
  rintro W' ⟨B, hQ, lQ, hR, lR, hD, hU, lU⟩
  clear W
  generalize W' = W at *
  rw [rounds_succ]; go_wp2
  have cp : (Builtin.copy_ #[109, 109] 3 #[.slice (some ⟨br, 0, none⟩) 4 4, .slice (some ⟨bu, 0, none⟩) 4 9]).run Tryd.prog W.drew = .ok (goInt 4) ((((W.setCell ⟨br, 0, none⟩ (.int .u64 (l0 R0))).setCell ⟨br, 1, none⟩ (.int .u64 (l1 R0))).setCell ⟨br, 2, none⟩ (.int .u64 (l2 R0))).setCell ⟨br, 3, none⟩ (.int .u64 (l3 R0))).drew := by
    refine (run_copy_cells (P := Tryd.prog) W.drew 109 109 3 22 br 0 4 4 ⟨bu, 0, none⟩ 4 9 [.int .u64 (l0 R0), .int .u64 (l1 R0), .int .u64 (l2 R0), .int .u64 (l3 R0)] (by kernel_rfl) (by kernel_rfl) rfl ?_ ?_ ?_ ?_).trans rfl
    · intro j v hj
      match j, hj with
      | 0, hj => simp at hj; subst hj; exact hU 0 (by simp)
      | 1, hj => simp at hj; subst hj; exact hU 1 (by simp)
      | 2, hj => simp at hj; subst hj; exact hU 2 (by simp)
      | 3, hj => simp at hj; subst hj; exact hU 3 (by simp)
    · intro j hj
      simp at hj
      have e := hR j (by simp; omega)
      show (W.cell? ⟨br, 0 + j, none⟩).isSome = true
      rw [Nat.zero_add, e]
      rfl
    · intro j hj
      simp at hj
      show W.frozen? ⟨br, 0 + j, none⟩ = false
      rw [Nat.zero_add]
      exact lR j (by omega)
    · intro v hv
      simp only [List.mem_cons, List.not_mem_nil, or_false] at hv
      rcases hv with rfl | rfl | rfl | rfl <;> rfl
  go_region
  clear cp
  go_wp2_with fail
  refine wp_world (fun W' => Below w.heap.size w W' ∧ Row W' bq [q0, q1, q2, q3, q4, 0, 0, 0] ∧ Loose W' bq 8 ∧ Row W' br [(l0 R0), (l1 R0), (l2 R0), (l3 R0)] ∧ Loose W' br 4) ⟨?_, ?_, ?_, ?_, ?_⟩ ?_
  · repeat (first | with_reducible refine Below.drew ?_ | with_reducible refine Below.setCell ?_ o2 _ | exact B)
  · exact ((((hQ.setOther (p := ⟨br, 0, none⟩) c6' _).setOther (p := ⟨br, 1, none⟩) c6' _).setOther (p := ⟨br, 2, none⟩) c6' _).setOther (p := ⟨br, 3, none⟩) c6' _).drew
  · exact ((((lQ.set ⟨br, 0, none⟩ _).set ⟨br, 1, none⟩ _).set ⟨br, 2, none⟩ _).set ⟨br, 3, none⟩ _).drew
  · exact ((((hR.set 0 (by simp) _).set 1 (by simp) _).set 2 (by simp) _).set 3 (by simp) _).drew
  · exact ((((lR.set ⟨br, 0, none⟩ _).set ⟨br, 1, none⟩ _).set ⟨br, 2, none⟩ _).set ⟨br, 3, none⟩ _).drew
  clear B hQ lQ hR lR hD hU lU
  rintro W' ⟨B, hQ, lQ, hR, lR⟩
  clear W
  generalize W' = W at *
  clear RR
  have bl : bq < W.heap.size := hQ.lt (by simp)
  have bl' : br < W.heap.size := hR.lt (by simp)
  have gq : W.cell? ⟨bq, 0, none⟩ = some (.int .u64 q0) ∧ W.cell? ⟨bq, 1, none⟩ = some (.int .u64 q1) ∧ W.cell? ⟨bq, 2, none⟩ = some (.int .u64 q2) ∧ W.cell? ⟨bq, 3, none⟩ = some (.int .u64 q3) ∧ W.cell? ⟨bq, 4, none⟩ = some (.int .u64 q4) ∧ W.cell? ⟨bq, 5, none⟩ = some (.int .u64 0) ∧ W.cell? ⟨bq, 6, none⟩ = some (.int .u64 0) ∧ W.cell? ⟨bq, 7, none⟩ = some (.int .u64 0) := ⟨hQ 0 (by simp), hQ 1 (by simp), hQ 2 (by simp), hQ 3 (by simp), hQ 4 (by simp), hQ 5 (by simp), hQ 6 (by simp), hQ 7 (by simp)⟩
  have gr : W.cell? ⟨br, 0, none⟩ = some (.int .u64 (l0 R0)) ∧ W.cell? ⟨br, 1, none⟩ = some (.int .u64 (l1 R0)) ∧ W.cell? ⟨br, 2, none⟩ = some (.int .u64 (l2 R0)) ∧ W.cell? ⟨br, 3, none⟩ = some (.int .u64 (l3 R0)) := ⟨hR 0 (by simp), hR 1 (by simp), hR 2 (by simp), hR 3 (by simp)⟩
  have fq : W.frozen? ⟨bq, 0, none⟩ = false ∧ W.frozen? ⟨bq, 1, none⟩ = false ∧ W.frozen? ⟨bq, 2, none⟩ = false ∧ W.frozen? ⟨bq, 3, none⟩ = false ∧ W.frozen? ⟨bq, 4, none⟩ = false ∧ W.frozen? ⟨bq, 5, none⟩ = false ∧ W.frozen? ⟨bq, 6, none⟩ = false ∧ W.frozen? ⟨bq, 7, none⟩ = false := ⟨lQ 0 (by simp), lQ 1 (by simp), lQ 2 (by simp), lQ 3 (by simp), lQ 4 (by simp), lQ 5 (by simp), lQ 6 (by simp), lQ 7 (by simp)⟩
  have fr : W.frozen? ⟨br, 0, none⟩ = false ∧ W.frozen? ⟨br, 1, none⟩ = false ∧ W.frozen? ⟨br, 2, none⟩ = false ∧ W.frozen? ⟨br, 3, none⟩ = false := ⟨lR 0 (by simp), lR 1 (by simp), lR 2 (by simp), lR 3 (by simp)⟩
  clear hQ lQ hR lR
  go_region_with (go_at_call 69; refine (SR.out _).mono ?_; rintro e w' ⟨rfl, hb⟩; have cq := fun j => oldCells hb bq j bl; have cr := fun j => oldCells hb br j bl')
  all_goals
    go_wp2
    simp [bodyPost, results, Tryd.results79, go_sem, cq, cr, gq, gr]
    repeat (first | (with_reducible refine Below.setCell ?_ (by first | exact o1 | exact o2) _) | exact B.drew.trans (hb.mono B.drew.size))

end Go.Proofs.YtjppjieidjodfaaDoor

namespace Go.Proofs.YtjppjieidjodfaaDoor
open Go.RowKit

theorem horner {t V D Q R U q R' : Int} (h : V = D * Q + R) (u : t + 18446744073709551616 * R = U) (e : U = D * q + R') : t + 18446744073709551616 * V = D * (q + 18446744073709551616 * Q) + R' := by
  rw [h, Int.mul_add, Int.mul_add D, Int.mul_left_comm D _ Q]
  generalize D * Q = a at *
  generalize D * q = b at *
  omega

theorem fin_div {X m P D Q R : Int} (hP : 0 < P) (hm : 0 < m) (e : X * P = D * Q + R) (eD : D = m * P) (r0 : 0 ≤ R) (r1 : R < D) : X / m = Q ∧ X % m = R / P := by
  have hR : R = (X - m * Q) * P := by
    rw [Int.sub_mul, e, eD, Int.mul_right_comm]
    generalize m * Q * P = a
    omega
  have h0 : 0 ≤ X - m * Q := by
    rcases Int.lt_or_le (X - m * Q) 0 with h | h
    · have := Int.mul_neg_of_neg_of_pos h hP
      omega
    · exact h
  have h1 : X - m * Q < m := by
    rw [eD, hR] at r1
    exact Int.lt_of_mul_lt_mul_right r1 (by omega)
  have d := (Int.ediv_emod_unique (a := X) (b := m) (r := X - m * Q) (q := Q) hm).2 ⟨by omega, h0, h1⟩
  refine ⟨d.1, d.2.trans ?_⟩
  rw [hR, Int.mul_ediv_cancel _ (by omega)]

theorem top_lt {V P lo hi c d : Int} (_hP : 0 < P) (lo0 : 0 ≤ lo) (e : V = lo + c * hi) (hc : 0 < c) (hV : V < c * (d * P)) : hi < d * P := by
  have : c * hi < c * (d * P) := by omega
  exact Int.lt_of_mul_lt_mul_left this (by omega)

/-- 2^b and 2^(63 - b). -/
theorem pow_63 {b : Nat} (h : b ≤ 63) : (2 : Int) ^ b * 2 ^ (63 - (b : Int)).toNat = 9223372036854775808 ∧ (2 : Int) ^ (b + 1) * 2 ^ (63 - (b : Int)).toNat = 18446744073709551616 := by
  constructor
  · rw [← Int.pow_add, show b + (63 - (b : Int)).toNat = 63 by omega]; decide
  · rw [← Int.pow_add, show b + 1 + (63 - (b : Int)).toNat = 64 by omega]; decide

theorem divide_any_1 {x0 x1 x2 x3 x4 x5 x6 x7 m0 : Int} (h0 : Word x0) (h1 : Word x1) (h2 : Word x2) (h3 : Word x3) (h4 : Word x4) (h5 : Word x5) (h6 : Word x6) (h7 : Word x7) (k0 : Word m0) (hz : m0 ≠ 0) :
    ∃ q0 q1 q2 q3 q4 q5 q6 q7 : Int, Words [q0, q1, q2, q3, q4, q5, q6, q7] ∧ val [q0, q1, q2, q3, q4, q5, q6, q7] = val [x0, x1, x2, x3, x4, x5, x6, x7] / num m0 0 0 0 ∧ ∀ w : World,
    Calls Tryd.prog 79 #[.agg #[.int .u64 x0, .int .u64 x1, .int .u64 x2, .int .u64 x3, .int .u64 x4, .int .u64 x5, .int .u64 x6, .int .u64 x7], .agg #[.int .u64 (l0 (num m0 0 0 0)), .int .u64 (l1 (num m0 0 0 0)), .int .u64 (l2 (num m0 0 0 0)), .int .u64 (l3 (num m0 0 0 0))]] w fun e w' => e = .returned (.tuple #[.agg #[.int .u64 q0, .int .u64 q1, .int .u64 q2, .int .u64 q3, .int .u64 q4, .int .u64 q5, .int .u64 q6, .int .u64 q7], .agg #[.int .u64 (l0 (val [x0, x1, x2, x3, x4, x5, x6, x7] % num m0 0 0 0)), .int .u64 (l1 (val [x0, x1, x2, x3, x4, x5, x6, x7] % num m0 0 0 0)), .int .u64 (l2 (val [x0, x1, x2, x3, x4, x5, x6, x7] % num m0 0 0 0)), .int .u64 (l3 (val [x0, x1, x2, x3, x4, x5, x6, x7] % num m0 0 0 0))]]) ∧ Below w.heap.size w w' := by
  obtain ⟨b, eb, b1, bl, bh⟩ := len_limb k0 hz
  have z : Word 0 := ⟨by decide, by decide⟩
  have hm : Num (num m0 0 0 0) := num_Num k0 z z z
  have el : l0 (num m0 0 0 0) = m0 := l0_num k0
  have eL := len_num_0  bl bh
  obtain ⟨p1, p2⟩ := pow_63 b1
  have s0 : 0 ≤ 63 - (b : Int) := by omega
  have s1 : 63 - (b : Int) ≤ 63 := by omega
  have lz : ∀ w, Calls Tryd.prog 98 #[.int .u64 (l0 (num m0 0 0 0))] w fun e w' => e = .returned (.int .i64 (63 - (b : Int))) ∧ w' = w := by
    intro w
    rw [el]
    have r := Tryd.bits_LeadingZeros64 m0 w k0.1 (by have := k0.2; omega)
    rw [eb, show (64 : Int) - ((b : Int) + 1) = 63 - (b : Int) by omega] at r
    exact r
  obtain ⟨_, p0, _⟩ := pow_pair s0 s1
  have mu1 : (num m0 0 0 0) < 1 * (m0 + 1) := by unfold num Word at *; omega
  have mu2 : 1 * m0 ≤ (num m0 0 0 0) := by unfold num Word at *; omega
  have mu3 : 0 < (num m0 0 0 0) := by have := k0.1; omega
  obtain ⟨t0, t1, t2, t3, t4, t5, t6, t7, t8, wt, vt, li⟩ := lift_any h0 h1 h2 h3 h4 h5 h6 h7 s0 s1
  have wx : Words [x0, x1, x2, x3, x4, x5, x6, x7] := by
    intro x hx
    simp only [List.mem_cons, List.not_mem_nil, or_false] at hx
    rcases hx with rfl | rfl | rfl | rfl | rfl | rfl | rfl | rfl <;> assumption
  have vx := val_nonneg wx
  rw [show ([x0, x1, x2, x3, x4, x5, x6, x7] : List Int).length = 8 from rfl, show (18446744073709551616 : Int) ^ 8 = 13407807929942597099574024998205846127479365820592393377723561443721764030073546976801874298166903427690031858186486050853753882811946569946433649006084096 by decide] at vx
  generalize hP : (2 : Int) ^ (63 - (b : Int)).toNat = P at *
  generalize hmm : (num m0 0 0 0) = m at *
  -- the divisor, moved up
  have d1 : m * P < 18446744073709551616 := by
    have a : m * P < (1 * 2 ^ (b + 1)) * P := Int.mul_lt_mul_of_pos_right (by omega) (by omega)
    rw [Int.mul_assoc, p2] at a
    omega
  have d2 : 9223372036854775808 ≤ m * P := by
    have a : (1 * 2 ^ b) * P ≤ m * P := Int.mul_le_mul_of_nonneg_right (by omega) (by omega)
    rw [Int.mul_assoc, p1] at a
    omega
  have eD : upN m (63 - (b : Int)) = m * P := by
    unfold upN
    rw [hP]
    exact Int.emod_eq_of_lt (by omega) (by omega)
  have hn : 9223372036854775808 ≤ l0 (m * P) := by unfold l0; omega
  have vD : val [(l0 (m * P))] = m * P := by
    simp only [val]; unfold l0; omega
  have D0 : 0 < m * P := by omega
  have wlo := val_nonneg (l := [t0, t1, t2, t3, t4, t5, t6, t7]) (fun x hx => wt x (by simp only [List.mem_cons] at *; simp at hx; rcases hx with rfl | rfl | rfl | rfl | rfl | rfl | rfl | rfl <;> simp))
  have whi := val_nonneg (l := [t8]) (fun x hx => wt x (List.mem_of_mem_drop (show x ∈ [t0, t1, t2, t3, t4, t5, t6, t7, t8].drop 8 from hx)))
  have vsplit : val [t0, t1, t2, t3, t4, t5, t6, t7, t8] = val [t0, t1, t2, t3, t4, t5, t6, t7] + 13407807929942597099574024998205846127479365820592393377723561443721764030073546976801874298166903427690031858186486050853753882811946569946433649006084096 * val [t8] := by simp only [val]; omega
  have gtop : val [t8] < m * P := by
    have a : val [t0, t1, t2, t3, t4, t5, t6, t7, t8] < 13407807929942597099574024998205846127479365820592393377723561443721764030073546976801874298166903427690031858186486050853753882811946569946433649006084096 * P := by rw [vt]; exact Int.mul_lt_mul_of_pos_right vx.2 (by omega)
    have h : val [t8] < 1 * P := top_lt (V := val [t0, t1, t2, t3, t4, t5, t6, t7, t8]) (c := 13407807929942597099574024998205846127479365820592393377723561443721764030073546976801874298166903427690031858186486050853753882811946569946433649006084096) (d := 1) (by omega) wlo.1 vsplit (by decide) (by rw [← Int.mul_assoc]; simpa using a)
    have i : 1 * P ≤ 9223372036854775808 := by
      have : P ≤ 9223372036854775808 := by
        rw [← p1]
        have q : (1 : Int) ≤ 2 ^ b := Int.pow_pos (by decide)
        have := Int.mul_le_mul_of_nonneg_right q (show 0 ≤ P by omega)
        omega
      omega
    omega
  obtain ⟨R8, r8⟩ : ∃ R, val [t8] = R := ⟨_, rfl⟩
  rw [r8] at gtop whi
  have g8 := gtop
  have n8 := whi.1
  obtain ⟨q7, e7⟩ : ∃ q, (t7 + 18446744073709551616 * R8) / (m * P) = q := ⟨_, rfl⟩
  obtain ⟨R7, r7⟩ : ∃ R, (t7 + 18446744073709551616 * R8) % (m * P) = R := ⟨_, rfl⟩
  have n7 : 0 ≤ R7 := by rw [← r7]; exact Int.emod_nonneg _ (by omega)
  have g7 : R7 < m * P := by rw [← r7]; exact Int.emod_lt_of_pos _ D0
  have w7 : Word q7 := by
    obtain ⟨_, _⟩ := wt t7 (by simp)
    rw [← e7]
    exact ⟨Int.ediv_nonneg (by omega) (by omega), Int.ediv_lt_of_lt_mul D0 (by omega)⟩
  have y7 : t7 + 18446744073709551616 * R8 = m * P * q7 + R7 := by
    have := Int.emod_add_mul_ediv (t7 + 18446744073709551616 * R8) (m * P)
    rw [e7, r7] at this
    omega
  obtain ⟨q6, e6⟩ : ∃ q, (t6 + 18446744073709551616 * R7) / (m * P) = q := ⟨_, rfl⟩
  obtain ⟨R6, r6⟩ : ∃ R, (t6 + 18446744073709551616 * R7) % (m * P) = R := ⟨_, rfl⟩
  have n6 : 0 ≤ R6 := by rw [← r6]; exact Int.emod_nonneg _ (by omega)
  have g6 : R6 < m * P := by rw [← r6]; exact Int.emod_lt_of_pos _ D0
  have w6 : Word q6 := by
    obtain ⟨_, _⟩ := wt t6 (by simp)
    rw [← e6]
    exact ⟨Int.ediv_nonneg (by omega) (by omega), Int.ediv_lt_of_lt_mul D0 (by omega)⟩
  have y6 : t6 + 18446744073709551616 * R7 = m * P * q6 + R6 := by
    have := Int.emod_add_mul_ediv (t6 + 18446744073709551616 * R7) (m * P)
    rw [e6, r6] at this
    omega
  obtain ⟨q5, e5⟩ : ∃ q, (t5 + 18446744073709551616 * R6) / (m * P) = q := ⟨_, rfl⟩
  obtain ⟨R5, r5⟩ : ∃ R, (t5 + 18446744073709551616 * R6) % (m * P) = R := ⟨_, rfl⟩
  have n5 : 0 ≤ R5 := by rw [← r5]; exact Int.emod_nonneg _ (by omega)
  have g5 : R5 < m * P := by rw [← r5]; exact Int.emod_lt_of_pos _ D0
  have w5 : Word q5 := by
    obtain ⟨_, _⟩ := wt t5 (by simp)
    rw [← e5]
    exact ⟨Int.ediv_nonneg (by omega) (by omega), Int.ediv_lt_of_lt_mul D0 (by omega)⟩
  have y5 : t5 + 18446744073709551616 * R6 = m * P * q5 + R5 := by
    have := Int.emod_add_mul_ediv (t5 + 18446744073709551616 * R6) (m * P)
    rw [e5, r5] at this
    omega
  obtain ⟨q4, e4⟩ : ∃ q, (t4 + 18446744073709551616 * R5) / (m * P) = q := ⟨_, rfl⟩
  obtain ⟨R4, r4⟩ : ∃ R, (t4 + 18446744073709551616 * R5) % (m * P) = R := ⟨_, rfl⟩
  have n4 : 0 ≤ R4 := by rw [← r4]; exact Int.emod_nonneg _ (by omega)
  have g4 : R4 < m * P := by rw [← r4]; exact Int.emod_lt_of_pos _ D0
  have w4 : Word q4 := by
    obtain ⟨_, _⟩ := wt t4 (by simp)
    rw [← e4]
    exact ⟨Int.ediv_nonneg (by omega) (by omega), Int.ediv_lt_of_lt_mul D0 (by omega)⟩
  have y4 : t4 + 18446744073709551616 * R5 = m * P * q4 + R4 := by
    have := Int.emod_add_mul_ediv (t4 + 18446744073709551616 * R5) (m * P)
    rw [e4, r4] at this
    omega
  obtain ⟨q3, e3⟩ : ∃ q, (t3 + 18446744073709551616 * R4) / (m * P) = q := ⟨_, rfl⟩
  obtain ⟨R3, r3⟩ : ∃ R, (t3 + 18446744073709551616 * R4) % (m * P) = R := ⟨_, rfl⟩
  have n3 : 0 ≤ R3 := by rw [← r3]; exact Int.emod_nonneg _ (by omega)
  have g3 : R3 < m * P := by rw [← r3]; exact Int.emod_lt_of_pos _ D0
  have w3 : Word q3 := by
    obtain ⟨_, _⟩ := wt t3 (by simp)
    rw [← e3]
    exact ⟨Int.ediv_nonneg (by omega) (by omega), Int.ediv_lt_of_lt_mul D0 (by omega)⟩
  have y3 : t3 + 18446744073709551616 * R4 = m * P * q3 + R3 := by
    have := Int.emod_add_mul_ediv (t3 + 18446744073709551616 * R4) (m * P)
    rw [e3, r3] at this
    omega
  obtain ⟨q2, e2⟩ : ∃ q, (t2 + 18446744073709551616 * R3) / (m * P) = q := ⟨_, rfl⟩
  obtain ⟨R2, r2⟩ : ∃ R, (t2 + 18446744073709551616 * R3) % (m * P) = R := ⟨_, rfl⟩
  have n2 : 0 ≤ R2 := by rw [← r2]; exact Int.emod_nonneg _ (by omega)
  have g2 : R2 < m * P := by rw [← r2]; exact Int.emod_lt_of_pos _ D0
  have w2 : Word q2 := by
    obtain ⟨_, _⟩ := wt t2 (by simp)
    rw [← e2]
    exact ⟨Int.ediv_nonneg (by omega) (by omega), Int.ediv_lt_of_lt_mul D0 (by omega)⟩
  have y2 : t2 + 18446744073709551616 * R3 = m * P * q2 + R2 := by
    have := Int.emod_add_mul_ediv (t2 + 18446744073709551616 * R3) (m * P)
    rw [e2, r2] at this
    omega
  obtain ⟨q1, e1⟩ : ∃ q, (t1 + 18446744073709551616 * R2) / (m * P) = q := ⟨_, rfl⟩
  obtain ⟨R1, r1⟩ : ∃ R, (t1 + 18446744073709551616 * R2) % (m * P) = R := ⟨_, rfl⟩
  have n1 : 0 ≤ R1 := by rw [← r1]; exact Int.emod_nonneg _ (by omega)
  have g1 : R1 < m * P := by rw [← r1]; exact Int.emod_lt_of_pos _ D0
  have w1 : Word q1 := by
    obtain ⟨_, _⟩ := wt t1 (by simp)
    rw [← e1]
    exact ⟨Int.ediv_nonneg (by omega) (by omega), Int.ediv_lt_of_lt_mul D0 (by omega)⟩
  have y1 : t1 + 18446744073709551616 * R2 = m * P * q1 + R1 := by
    have := Int.emod_add_mul_ediv (t1 + 18446744073709551616 * R2) (m * P)
    rw [e1, r1] at this
    omega
  obtain ⟨q0, e0⟩ : ∃ q, (t0 + 18446744073709551616 * R1) / (m * P) = q := ⟨_, rfl⟩
  obtain ⟨R0, r0⟩ : ∃ R, (t0 + 18446744073709551616 * R1) % (m * P) = R := ⟨_, rfl⟩
  have n0 : 0 ≤ R0 := by rw [← r0]; exact Int.emod_nonneg _ (by omega)
  have g0 : R0 < m * P := by rw [← r0]; exact Int.emod_lt_of_pos _ D0
  have w0 : Word q0 := by
    obtain ⟨_, _⟩ := wt t0 (by simp)
    rw [← e0]
    exact ⟨Int.ediv_nonneg (by omega) (by omega), Int.ediv_lt_of_lt_mul D0 (by omega)⟩
  have y0 : t0 + 18446744073709551616 * R1 = m * P * q0 + R0 := by
    have := Int.emod_add_mul_ediv (t0 + 18446744073709551616 * R1) (m * P)
    rw [e0, r0] at this
    omega
  have H8 : val [t8] = m * P * val [] + R8 := by rw [r8]; simp [val]
  have H7 : val [t7, t8] = m * P * val [q7] + R7 := horner H8 rfl y7
  have H6 : val [t6, t7, t8] = m * P * val [q6, q7] + R6 := horner H7 rfl y6
  have H5 : val [t5, t6, t7, t8] = m * P * val [q5, q6, q7] + R5 := horner H6 rfl y5
  have H4 : val [t4, t5, t6, t7, t8] = m * P * val [q4, q5, q6, q7] + R4 := horner H5 rfl y4
  have H3 : val [t3, t4, t5, t6, t7, t8] = m * P * val [q3, q4, q5, q6, q7] + R3 := horner H4 rfl y3
  have H2 : val [t2, t3, t4, t5, t6, t7, t8] = m * P * val [q2, q3, q4, q5, q6, q7] + R2 := horner H3 rfl y2
  have H1 : val [t1, t2, t3, t4, t5, t6, t7, t8] = m * P * val [q1, q2, q3, q4, q5, q6, q7] + R1 := horner H2 rfl y1
  have H0 : val [t0, t1, t2, t3, t4, t5, t6, t7, t8] = m * P * val [q0, q1, q2, q3, q4, q5, q6, q7] + R0 := horner H1 rfl y0
  rw [vt] at H0
  obtain ⟨f1, f2⟩ := fin_div (by omega) mu3 H0 rfl n0 g0
  have C := fun w => divide_1 hm (by omega) (by omega) eL (by omega) s0 s1 lz eD hn vD d1 wt li r8 g8 e7 r7 e6 r6 e5 r5 e4 r4 e3 r3 e2 r2 e1 r1 e0 r0 w
  refine ⟨q0, q1, q2, q3, q4, q5, q6, q7, ?_, ?_, ?_⟩
  · intro x hx
    simp only [List.mem_cons, List.not_mem_nil, or_false] at hx
    rcases hx with rfl | rfl | rfl | rfl | rfl | rfl | rfl | rfl <;> assumption
  · rw [f1]
  · intro w
    have c := C w
    unfold downN at c
    rw [hP, ← f2] at c
    exact c

theorem divide_any_2 {x0 x1 x2 x3 x4 x5 x6 x7 m0 m1 : Int} (h0 : Word x0) (h1 : Word x1) (h2 : Word x2) (h3 : Word x3) (h4 : Word x4) (h5 : Word x5) (h6 : Word x6) (h7 : Word x7) (k0 : Word m0) (k1 : Word m1) (hz : m1 ≠ 0) :
    ∃ q0 q1 q2 q3 q4 q5 q6 q7 : Int, Words [q0, q1, q2, q3, q4, q5, q6, q7] ∧ val [q0, q1, q2, q3, q4, q5, q6, q7] = val [x0, x1, x2, x3, x4, x5, x6, x7] / num m0 m1 0 0 ∧ ∀ w : World,
    Calls Tryd.prog 79 #[.agg #[.int .u64 x0, .int .u64 x1, .int .u64 x2, .int .u64 x3, .int .u64 x4, .int .u64 x5, .int .u64 x6, .int .u64 x7], .agg #[.int .u64 (l0 (num m0 m1 0 0)), .int .u64 (l1 (num m0 m1 0 0)), .int .u64 (l2 (num m0 m1 0 0)), .int .u64 (l3 (num m0 m1 0 0))]] w fun e w' => e = .returned (.tuple #[.agg #[.int .u64 q0, .int .u64 q1, .int .u64 q2, .int .u64 q3, .int .u64 q4, .int .u64 q5, .int .u64 q6, .int .u64 q7], .agg #[.int .u64 (l0 (val [x0, x1, x2, x3, x4, x5, x6, x7] % num m0 m1 0 0)), .int .u64 (l1 (val [x0, x1, x2, x3, x4, x5, x6, x7] % num m0 m1 0 0)), .int .u64 (l2 (val [x0, x1, x2, x3, x4, x5, x6, x7] % num m0 m1 0 0)), .int .u64 (l3 (val [x0, x1, x2, x3, x4, x5, x6, x7] % num m0 m1 0 0))]]) ∧ Below w.heap.size w w' := by
  obtain ⟨b, eb, b1, bl, bh⟩ := len_limb k1 hz
  have z : Word 0 := ⟨by decide, by decide⟩
  have hm : Num (num m0 m1 0 0) := num_Num k0 k1 z z
  have el : l1 (num m0 m1 0 0) = m1 := l1_num k0 k1
  have eL := len_num_1 k0 bl bh
  obtain ⟨p1, p2⟩ := pow_63 b1
  have s0 : 0 ≤ 63 - (b : Int) := by omega
  have s1 : 63 - (b : Int) ≤ 63 := by omega
  have lz : ∀ w, Calls Tryd.prog 98 #[.int .u64 (l1 (num m0 m1 0 0))] w fun e w' => e = .returned (.int .i64 (63 - (b : Int))) ∧ w' = w := by
    intro w
    rw [el]
    have r := Tryd.bits_LeadingZeros64 m1 w k1.1 (by have := k1.2; omega)
    rw [eb, show (64 : Int) - ((b : Int) + 1) = 63 - (b : Int) by omega] at r
    exact r
  obtain ⟨_, p0, _⟩ := pow_pair s0 s1
  have mu1 : (num m0 m1 0 0) < 18446744073709551616 * (m1 + 1) := by unfold num Word at *; omega
  have mu2 : 18446744073709551616 * m1 ≤ (num m0 m1 0 0) := by unfold num Word at *; omega
  have mu3 : 0 < (num m0 m1 0 0) := by have := k1.1; omega
  obtain ⟨t0, t1, t2, t3, t4, t5, t6, t7, t8, wt, vt, li⟩ := lift_any h0 h1 h2 h3 h4 h5 h6 h7 s0 s1
  have wx : Words [x0, x1, x2, x3, x4, x5, x6, x7] := by
    intro x hx
    simp only [List.mem_cons, List.not_mem_nil, or_false] at hx
    rcases hx with rfl | rfl | rfl | rfl | rfl | rfl | rfl | rfl <;> assumption
  have vx := val_nonneg wx
  rw [show ([x0, x1, x2, x3, x4, x5, x6, x7] : List Int).length = 8 from rfl, show (18446744073709551616 : Int) ^ 8 = 13407807929942597099574024998205846127479365820592393377723561443721764030073546976801874298166903427690031858186486050853753882811946569946433649006084096 by decide] at vx
  generalize hP : (2 : Int) ^ (63 - (b : Int)).toNat = P at *
  generalize hmm : (num m0 m1 0 0) = m at *
  -- the divisor, moved up
  have d1 : m * P < 340282366920938463463374607431768211456 := by
    have a : m * P < (18446744073709551616 * 2 ^ (b + 1)) * P := Int.mul_lt_mul_of_pos_right (by omega) (by omega)
    rw [Int.mul_assoc, p2] at a
    omega
  have d2 : 170141183460469231731687303715884105728 ≤ m * P := by
    have a : (18446744073709551616 * 2 ^ b) * P ≤ m * P := Int.mul_le_mul_of_nonneg_right (by omega) (by omega)
    rw [Int.mul_assoc, p1] at a
    omega
  have eD : upN m (63 - (b : Int)) = m * P := by
    unfold upN
    rw [hP]
    exact Int.emod_eq_of_lt (by omega) (by omega)
  have hn : 9223372036854775808 ≤ l1 (m * P) := by unfold l1; omega
  have vD : val [(l0 (m * P)), (l1 (m * P))] = m * P := by
    simp only [val]; unfold l0 l1; omega
  have D0 : 0 < m * P := by omega
  have wlo := val_nonneg (l := [t0, t1, t2, t3, t4, t5, t6]) (fun x hx => wt x (by simp only [List.mem_cons] at *; simp at hx; rcases hx with rfl | rfl | rfl | rfl | rfl | rfl | rfl <;> simp))
  have whi := val_nonneg (l := [t7, t8]) (fun x hx => wt x (List.mem_of_mem_drop (show x ∈ [t0, t1, t2, t3, t4, t5, t6, t7, t8].drop 7 from hx)))
  have vsplit : val [t0, t1, t2, t3, t4, t5, t6, t7, t8] = val [t0, t1, t2, t3, t4, t5, t6] + 726838724295606890549323807888004534353641360687318060281490199180639288113397923326191050713763565560762521606266177933534601628614656 * val [t7, t8] := by simp only [val]; omega
  have gtop : val [t7, t8] < m * P := by
    have a : val [t0, t1, t2, t3, t4, t5, t6, t7, t8] < 13407807929942597099574024998205846127479365820592393377723561443721764030073546976801874298166903427690031858186486050853753882811946569946433649006084096 * P := by rw [vt]; exact Int.mul_lt_mul_of_pos_right vx.2 (by omega)
    have h : val [t7, t8] < 18446744073709551616 * P := top_lt (V := val [t0, t1, t2, t3, t4, t5, t6, t7, t8]) (c := 726838724295606890549323807888004534353641360687318060281490199180639288113397923326191050713763565560762521606266177933534601628614656) (d := 18446744073709551616) (by omega) wlo.1 vsplit (by decide) (by rw [← Int.mul_assoc]; simpa using a)
    have i : 18446744073709551616 * P ≤ 170141183460469231731687303715884105728 := by
      have : P ≤ 9223372036854775808 := by
        rw [← p1]
        have q : (1 : Int) ≤ 2 ^ b := Int.pow_pos (by decide)
        have := Int.mul_le_mul_of_nonneg_right q (show 0 ≤ P by omega)
        omega
      omega
    omega
  obtain ⟨R7, r7⟩ : ∃ R, val [t7, t8] = R := ⟨_, rfl⟩
  rw [r7] at gtop whi
  have g7 := gtop
  have n7 := whi.1
  obtain ⟨q6, e6⟩ : ∃ q, (t6 + 18446744073709551616 * R7) / (m * P) = q := ⟨_, rfl⟩
  obtain ⟨R6, r6⟩ : ∃ R, (t6 + 18446744073709551616 * R7) % (m * P) = R := ⟨_, rfl⟩
  have n6 : 0 ≤ R6 := by rw [← r6]; exact Int.emod_nonneg _ (by omega)
  have g6 : R6 < m * P := by rw [← r6]; exact Int.emod_lt_of_pos _ D0
  have w6 : Word q6 := by
    obtain ⟨_, _⟩ := wt t6 (by simp)
    rw [← e6]
    exact ⟨Int.ediv_nonneg (by omega) (by omega), Int.ediv_lt_of_lt_mul D0 (by omega)⟩
  have y6 : t6 + 18446744073709551616 * R7 = m * P * q6 + R6 := by
    have := Int.emod_add_mul_ediv (t6 + 18446744073709551616 * R7) (m * P)
    rw [e6, r6] at this
    omega
  obtain ⟨q5, e5⟩ : ∃ q, (t5 + 18446744073709551616 * R6) / (m * P) = q := ⟨_, rfl⟩
  obtain ⟨R5, r5⟩ : ∃ R, (t5 + 18446744073709551616 * R6) % (m * P) = R := ⟨_, rfl⟩
  have n5 : 0 ≤ R5 := by rw [← r5]; exact Int.emod_nonneg _ (by omega)
  have g5 : R5 < m * P := by rw [← r5]; exact Int.emod_lt_of_pos _ D0
  have w5 : Word q5 := by
    obtain ⟨_, _⟩ := wt t5 (by simp)
    rw [← e5]
    exact ⟨Int.ediv_nonneg (by omega) (by omega), Int.ediv_lt_of_lt_mul D0 (by omega)⟩
  have y5 : t5 + 18446744073709551616 * R6 = m * P * q5 + R5 := by
    have := Int.emod_add_mul_ediv (t5 + 18446744073709551616 * R6) (m * P)
    rw [e5, r5] at this
    omega
  obtain ⟨q4, e4⟩ : ∃ q, (t4 + 18446744073709551616 * R5) / (m * P) = q := ⟨_, rfl⟩
  obtain ⟨R4, r4⟩ : ∃ R, (t4 + 18446744073709551616 * R5) % (m * P) = R := ⟨_, rfl⟩
  have n4 : 0 ≤ R4 := by rw [← r4]; exact Int.emod_nonneg _ (by omega)
  have g4 : R4 < m * P := by rw [← r4]; exact Int.emod_lt_of_pos _ D0
  have w4 : Word q4 := by
    obtain ⟨_, _⟩ := wt t4 (by simp)
    rw [← e4]
    exact ⟨Int.ediv_nonneg (by omega) (by omega), Int.ediv_lt_of_lt_mul D0 (by omega)⟩
  have y4 : t4 + 18446744073709551616 * R5 = m * P * q4 + R4 := by
    have := Int.emod_add_mul_ediv (t4 + 18446744073709551616 * R5) (m * P)
    rw [e4, r4] at this
    omega
  obtain ⟨q3, e3⟩ : ∃ q, (t3 + 18446744073709551616 * R4) / (m * P) = q := ⟨_, rfl⟩
  obtain ⟨R3, r3⟩ : ∃ R, (t3 + 18446744073709551616 * R4) % (m * P) = R := ⟨_, rfl⟩
  have n3 : 0 ≤ R3 := by rw [← r3]; exact Int.emod_nonneg _ (by omega)
  have g3 : R3 < m * P := by rw [← r3]; exact Int.emod_lt_of_pos _ D0
  have w3 : Word q3 := by
    obtain ⟨_, _⟩ := wt t3 (by simp)
    rw [← e3]
    exact ⟨Int.ediv_nonneg (by omega) (by omega), Int.ediv_lt_of_lt_mul D0 (by omega)⟩
  have y3 : t3 + 18446744073709551616 * R4 = m * P * q3 + R3 := by
    have := Int.emod_add_mul_ediv (t3 + 18446744073709551616 * R4) (m * P)
    rw [e3, r3] at this
    omega
  obtain ⟨q2, e2⟩ : ∃ q, (t2 + 18446744073709551616 * R3) / (m * P) = q := ⟨_, rfl⟩
  obtain ⟨R2, r2⟩ : ∃ R, (t2 + 18446744073709551616 * R3) % (m * P) = R := ⟨_, rfl⟩
  have n2 : 0 ≤ R2 := by rw [← r2]; exact Int.emod_nonneg _ (by omega)
  have g2 : R2 < m * P := by rw [← r2]; exact Int.emod_lt_of_pos _ D0
  have w2 : Word q2 := by
    obtain ⟨_, _⟩ := wt t2 (by simp)
    rw [← e2]
    exact ⟨Int.ediv_nonneg (by omega) (by omega), Int.ediv_lt_of_lt_mul D0 (by omega)⟩
  have y2 : t2 + 18446744073709551616 * R3 = m * P * q2 + R2 := by
    have := Int.emod_add_mul_ediv (t2 + 18446744073709551616 * R3) (m * P)
    rw [e2, r2] at this
    omega
  obtain ⟨q1, e1⟩ : ∃ q, (t1 + 18446744073709551616 * R2) / (m * P) = q := ⟨_, rfl⟩
  obtain ⟨R1, r1⟩ : ∃ R, (t1 + 18446744073709551616 * R2) % (m * P) = R := ⟨_, rfl⟩
  have n1 : 0 ≤ R1 := by rw [← r1]; exact Int.emod_nonneg _ (by omega)
  have g1 : R1 < m * P := by rw [← r1]; exact Int.emod_lt_of_pos _ D0
  have w1 : Word q1 := by
    obtain ⟨_, _⟩ := wt t1 (by simp)
    rw [← e1]
    exact ⟨Int.ediv_nonneg (by omega) (by omega), Int.ediv_lt_of_lt_mul D0 (by omega)⟩
  have y1 : t1 + 18446744073709551616 * R2 = m * P * q1 + R1 := by
    have := Int.emod_add_mul_ediv (t1 + 18446744073709551616 * R2) (m * P)
    rw [e1, r1] at this
    omega
  obtain ⟨q0, e0⟩ : ∃ q, (t0 + 18446744073709551616 * R1) / (m * P) = q := ⟨_, rfl⟩
  obtain ⟨R0, r0⟩ : ∃ R, (t0 + 18446744073709551616 * R1) % (m * P) = R := ⟨_, rfl⟩
  have n0 : 0 ≤ R0 := by rw [← r0]; exact Int.emod_nonneg _ (by omega)
  have g0 : R0 < m * P := by rw [← r0]; exact Int.emod_lt_of_pos _ D0
  have w0 : Word q0 := by
    obtain ⟨_, _⟩ := wt t0 (by simp)
    rw [← e0]
    exact ⟨Int.ediv_nonneg (by omega) (by omega), Int.ediv_lt_of_lt_mul D0 (by omega)⟩
  have y0 : t0 + 18446744073709551616 * R1 = m * P * q0 + R0 := by
    have := Int.emod_add_mul_ediv (t0 + 18446744073709551616 * R1) (m * P)
    rw [e0, r0] at this
    omega
  have H7 : val [t7, t8] = m * P * val [] + R7 := by rw [r7]; simp [val]
  have H6 : val [t6, t7, t8] = m * P * val [q6] + R6 := horner H7 rfl y6
  have H5 : val [t5, t6, t7, t8] = m * P * val [q5, q6] + R5 := horner H6 rfl y5
  have H4 : val [t4, t5, t6, t7, t8] = m * P * val [q4, q5, q6] + R4 := horner H5 rfl y4
  have H3 : val [t3, t4, t5, t6, t7, t8] = m * P * val [q3, q4, q5, q6] + R3 := horner H4 rfl y3
  have H2 : val [t2, t3, t4, t5, t6, t7, t8] = m * P * val [q2, q3, q4, q5, q6] + R2 := horner H3 rfl y2
  have H1 : val [t1, t2, t3, t4, t5, t6, t7, t8] = m * P * val [q1, q2, q3, q4, q5, q6] + R1 := horner H2 rfl y1
  have H0 : val [t0, t1, t2, t3, t4, t5, t6, t7, t8] = m * P * val [q0, q1, q2, q3, q4, q5, q6] + R0 := horner H1 rfl y0
  rw [vt] at H0
  obtain ⟨f1, f2⟩ := fin_div (by omega) mu3 H0 rfl n0 g0
  have C := fun w => divide_2 hm (by omega) (by omega) eL (by omega) s0 s1 lz eD hn vD d1 wt li r7 g7 e6 r6 e5 r5 e4 r4 e3 r3 e2 r2 e1 r1 e0 r0 w
  refine ⟨q0, q1, q2, q3, q4, q5, q6, 0, ?_, ?_, ?_⟩
  · intro x hx
    simp only [List.mem_cons, List.not_mem_nil, or_false] at hx
    rcases hx with rfl | rfl | rfl | rfl | rfl | rfl | rfl | rfl <;> assumption
  · rw [f1]; simp [val]
  · intro w
    have c := C w
    unfold downN at c
    rw [hP, ← f2] at c
    exact c

theorem divide_any_3 {x0 x1 x2 x3 x4 x5 x6 x7 m0 m1 m2 : Int} (h0 : Word x0) (h1 : Word x1) (h2 : Word x2) (h3 : Word x3) (h4 : Word x4) (h5 : Word x5) (h6 : Word x6) (h7 : Word x7) (k0 : Word m0) (k1 : Word m1) (k2 : Word m2) (hz : m2 ≠ 0) :
    ∃ q0 q1 q2 q3 q4 q5 q6 q7 : Int, Words [q0, q1, q2, q3, q4, q5, q6, q7] ∧ val [q0, q1, q2, q3, q4, q5, q6, q7] = val [x0, x1, x2, x3, x4, x5, x6, x7] / num m0 m1 m2 0 ∧ ∀ w : World,
    Calls Tryd.prog 79 #[.agg #[.int .u64 x0, .int .u64 x1, .int .u64 x2, .int .u64 x3, .int .u64 x4, .int .u64 x5, .int .u64 x6, .int .u64 x7], .agg #[.int .u64 (l0 (num m0 m1 m2 0)), .int .u64 (l1 (num m0 m1 m2 0)), .int .u64 (l2 (num m0 m1 m2 0)), .int .u64 (l3 (num m0 m1 m2 0))]] w fun e w' => e = .returned (.tuple #[.agg #[.int .u64 q0, .int .u64 q1, .int .u64 q2, .int .u64 q3, .int .u64 q4, .int .u64 q5, .int .u64 q6, .int .u64 q7], .agg #[.int .u64 (l0 (val [x0, x1, x2, x3, x4, x5, x6, x7] % num m0 m1 m2 0)), .int .u64 (l1 (val [x0, x1, x2, x3, x4, x5, x6, x7] % num m0 m1 m2 0)), .int .u64 (l2 (val [x0, x1, x2, x3, x4, x5, x6, x7] % num m0 m1 m2 0)), .int .u64 (l3 (val [x0, x1, x2, x3, x4, x5, x6, x7] % num m0 m1 m2 0))]]) ∧ Below w.heap.size w w' := by
  obtain ⟨b, eb, b1, bl, bh⟩ := len_limb k2 hz
  have z : Word 0 := ⟨by decide, by decide⟩
  have hm : Num (num m0 m1 m2 0) := num_Num k0 k1 k2 z
  have el : l2 (num m0 m1 m2 0) = m2 := l2_num k0 k1 k2
  have eL := len_num_2 k0 k1 bl bh
  obtain ⟨p1, p2⟩ := pow_63 b1
  have s0 : 0 ≤ 63 - (b : Int) := by omega
  have s1 : 63 - (b : Int) ≤ 63 := by omega
  have lz : ∀ w, Calls Tryd.prog 98 #[.int .u64 (l2 (num m0 m1 m2 0))] w fun e w' => e = .returned (.int .i64 (63 - (b : Int))) ∧ w' = w := by
    intro w
    rw [el]
    have r := Tryd.bits_LeadingZeros64 m2 w k2.1 (by have := k2.2; omega)
    rw [eb, show (64 : Int) - ((b : Int) + 1) = 63 - (b : Int) by omega] at r
    exact r
  obtain ⟨_, p0, _⟩ := pow_pair s0 s1
  have mu1 : (num m0 m1 m2 0) < 340282366920938463463374607431768211456 * (m2 + 1) := by unfold num Word at *; omega
  have mu2 : 340282366920938463463374607431768211456 * m2 ≤ (num m0 m1 m2 0) := by unfold num Word at *; omega
  have mu3 : 0 < (num m0 m1 m2 0) := by have := k2.1; omega
  obtain ⟨t0, t1, t2, t3, t4, t5, t6, t7, t8, wt, vt, li⟩ := lift_any h0 h1 h2 h3 h4 h5 h6 h7 s0 s1
  have wx : Words [x0, x1, x2, x3, x4, x5, x6, x7] := by
    intro x hx
    simp only [List.mem_cons, List.not_mem_nil, or_false] at hx
    rcases hx with rfl | rfl | rfl | rfl | rfl | rfl | rfl | rfl <;> assumption
  have vx := val_nonneg wx
  rw [show ([x0, x1, x2, x3, x4, x5, x6, x7] : List Int).length = 8 from rfl, show (18446744073709551616 : Int) ^ 8 = 13407807929942597099574024998205846127479365820592393377723561443721764030073546976801874298166903427690031858186486050853753882811946569946433649006084096 by decide] at vx
  generalize hP : (2 : Int) ^ (63 - (b : Int)).toNat = P at *
  generalize hmm : (num m0 m1 m2 0) = m at *
  -- the divisor, moved up
  have d1 : m * P < 6277101735386680763835789423207666416102355444464034512896 := by
    have a : m * P < (340282366920938463463374607431768211456 * 2 ^ (b + 1)) * P := Int.mul_lt_mul_of_pos_right (by omega) (by omega)
    rw [Int.mul_assoc, p2] at a
    omega
  have d2 : 3138550867693340381917894711603833208051177722232017256448 ≤ m * P := by
    have a : (340282366920938463463374607431768211456 * 2 ^ b) * P ≤ m * P := Int.mul_le_mul_of_nonneg_right (by omega) (by omega)
    rw [Int.mul_assoc, p1] at a
    omega
  have eD : upN m (63 - (b : Int)) = m * P := by
    unfold upN
    rw [hP]
    exact Int.emod_eq_of_lt (by omega) (by omega)
  have hn : 9223372036854775808 ≤ l2 (m * P) := by unfold l2; omega
  have vD : val [(l0 (m * P)), (l1 (m * P)), (l2 (m * P))] = m * P := by
    simp only [val]; unfold l0 l1 l2; omega
  have D0 : 0 < m * P := by omega
  have wlo := val_nonneg (l := [t0, t1, t2, t3, t4, t5]) (fun x hx => wt x (by simp only [List.mem_cons] at *; simp at hx; rcases hx with rfl | rfl | rfl | rfl | rfl | rfl <;> simp))
  have whi := val_nonneg (l := [t6, t7, t8]) (fun x hx => wt x (List.mem_of_mem_drop (show x ∈ [t0, t1, t2, t3, t4, t5, t6, t7, t8].drop 6 from hx)))
  have vsplit : val [t0, t1, t2, t3, t4, t5, t6, t7, t8] = val [t0, t1, t2, t3, t4, t5] + 39402006196394479212279040100143613805079739270465446667948293404245721771497210611414266254884915640806627990306816 * val [t6, t7, t8] := by simp only [val]; omega
  have gtop : val [t6, t7, t8] < m * P := by
    have a : val [t0, t1, t2, t3, t4, t5, t6, t7, t8] < 13407807929942597099574024998205846127479365820592393377723561443721764030073546976801874298166903427690031858186486050853753882811946569946433649006084096 * P := by rw [vt]; exact Int.mul_lt_mul_of_pos_right vx.2 (by omega)
    have h : val [t6, t7, t8] < 340282366920938463463374607431768211456 * P := top_lt (V := val [t0, t1, t2, t3, t4, t5, t6, t7, t8]) (c := 39402006196394479212279040100143613805079739270465446667948293404245721771497210611414266254884915640806627990306816) (d := 340282366920938463463374607431768211456) (by omega) wlo.1 vsplit (by decide) (by rw [← Int.mul_assoc]; simpa using a)
    have i : 340282366920938463463374607431768211456 * P ≤ 3138550867693340381917894711603833208051177722232017256448 := by
      have : P ≤ 9223372036854775808 := by
        rw [← p1]
        have q : (1 : Int) ≤ 2 ^ b := Int.pow_pos (by decide)
        have := Int.mul_le_mul_of_nonneg_right q (show 0 ≤ P by omega)
        omega
      omega
    omega
  obtain ⟨R6, r6⟩ : ∃ R, val [t6, t7, t8] = R := ⟨_, rfl⟩
  rw [r6] at gtop whi
  have g6 := gtop
  have n6 := whi.1
  obtain ⟨q5, e5⟩ : ∃ q, (t5 + 18446744073709551616 * R6) / (m * P) = q := ⟨_, rfl⟩
  obtain ⟨R5, r5⟩ : ∃ R, (t5 + 18446744073709551616 * R6) % (m * P) = R := ⟨_, rfl⟩
  have n5 : 0 ≤ R5 := by rw [← r5]; exact Int.emod_nonneg _ (by omega)
  have g5 : R5 < m * P := by rw [← r5]; exact Int.emod_lt_of_pos _ D0
  have w5 : Word q5 := by
    obtain ⟨_, _⟩ := wt t5 (by simp)
    rw [← e5]
    exact ⟨Int.ediv_nonneg (by omega) (by omega), Int.ediv_lt_of_lt_mul D0 (by omega)⟩
  have y5 : t5 + 18446744073709551616 * R6 = m * P * q5 + R5 := by
    have := Int.emod_add_mul_ediv (t5 + 18446744073709551616 * R6) (m * P)
    rw [e5, r5] at this
    omega
  obtain ⟨q4, e4⟩ : ∃ q, (t4 + 18446744073709551616 * R5) / (m * P) = q := ⟨_, rfl⟩
  obtain ⟨R4, r4⟩ : ∃ R, (t4 + 18446744073709551616 * R5) % (m * P) = R := ⟨_, rfl⟩
  have n4 : 0 ≤ R4 := by rw [← r4]; exact Int.emod_nonneg _ (by omega)
  have g4 : R4 < m * P := by rw [← r4]; exact Int.emod_lt_of_pos _ D0
  have w4 : Word q4 := by
    obtain ⟨_, _⟩ := wt t4 (by simp)
    rw [← e4]
    exact ⟨Int.ediv_nonneg (by omega) (by omega), Int.ediv_lt_of_lt_mul D0 (by omega)⟩
  have y4 : t4 + 18446744073709551616 * R5 = m * P * q4 + R4 := by
    have := Int.emod_add_mul_ediv (t4 + 18446744073709551616 * R5) (m * P)
    rw [e4, r4] at this
    omega
  obtain ⟨q3, e3⟩ : ∃ q, (t3 + 18446744073709551616 * R4) / (m * P) = q := ⟨_, rfl⟩
  obtain ⟨R3, r3⟩ : ∃ R, (t3 + 18446744073709551616 * R4) % (m * P) = R := ⟨_, rfl⟩
  have n3 : 0 ≤ R3 := by rw [← r3]; exact Int.emod_nonneg _ (by omega)
  have g3 : R3 < m * P := by rw [← r3]; exact Int.emod_lt_of_pos _ D0
  have w3 : Word q3 := by
    obtain ⟨_, _⟩ := wt t3 (by simp)
    rw [← e3]
    exact ⟨Int.ediv_nonneg (by omega) (by omega), Int.ediv_lt_of_lt_mul D0 (by omega)⟩
  have y3 : t3 + 18446744073709551616 * R4 = m * P * q3 + R3 := by
    have := Int.emod_add_mul_ediv (t3 + 18446744073709551616 * R4) (m * P)
    rw [e3, r3] at this
    omega
  obtain ⟨q2, e2⟩ : ∃ q, (t2 + 18446744073709551616 * R3) / (m * P) = q := ⟨_, rfl⟩
  obtain ⟨R2, r2⟩ : ∃ R, (t2 + 18446744073709551616 * R3) % (m * P) = R := ⟨_, rfl⟩
  have n2 : 0 ≤ R2 := by rw [← r2]; exact Int.emod_nonneg _ (by omega)
  have g2 : R2 < m * P := by rw [← r2]; exact Int.emod_lt_of_pos _ D0
  have w2 : Word q2 := by
    obtain ⟨_, _⟩ := wt t2 (by simp)
    rw [← e2]
    exact ⟨Int.ediv_nonneg (by omega) (by omega), Int.ediv_lt_of_lt_mul D0 (by omega)⟩
  have y2 : t2 + 18446744073709551616 * R3 = m * P * q2 + R2 := by
    have := Int.emod_add_mul_ediv (t2 + 18446744073709551616 * R3) (m * P)
    rw [e2, r2] at this
    omega
  obtain ⟨q1, e1⟩ : ∃ q, (t1 + 18446744073709551616 * R2) / (m * P) = q := ⟨_, rfl⟩
  obtain ⟨R1, r1⟩ : ∃ R, (t1 + 18446744073709551616 * R2) % (m * P) = R := ⟨_, rfl⟩
  have n1 : 0 ≤ R1 := by rw [← r1]; exact Int.emod_nonneg _ (by omega)
  have g1 : R1 < m * P := by rw [← r1]; exact Int.emod_lt_of_pos _ D0
  have w1 : Word q1 := by
    obtain ⟨_, _⟩ := wt t1 (by simp)
    rw [← e1]
    exact ⟨Int.ediv_nonneg (by omega) (by omega), Int.ediv_lt_of_lt_mul D0 (by omega)⟩
  have y1 : t1 + 18446744073709551616 * R2 = m * P * q1 + R1 := by
    have := Int.emod_add_mul_ediv (t1 + 18446744073709551616 * R2) (m * P)
    rw [e1, r1] at this
    omega
  obtain ⟨q0, e0⟩ : ∃ q, (t0 + 18446744073709551616 * R1) / (m * P) = q := ⟨_, rfl⟩
  obtain ⟨R0, r0⟩ : ∃ R, (t0 + 18446744073709551616 * R1) % (m * P) = R := ⟨_, rfl⟩
  have n0 : 0 ≤ R0 := by rw [← r0]; exact Int.emod_nonneg _ (by omega)
  have g0 : R0 < m * P := by rw [← r0]; exact Int.emod_lt_of_pos _ D0
  have w0 : Word q0 := by
    obtain ⟨_, _⟩ := wt t0 (by simp)
    rw [← e0]
    exact ⟨Int.ediv_nonneg (by omega) (by omega), Int.ediv_lt_of_lt_mul D0 (by omega)⟩
  have y0 : t0 + 18446744073709551616 * R1 = m * P * q0 + R0 := by
    have := Int.emod_add_mul_ediv (t0 + 18446744073709551616 * R1) (m * P)
    rw [e0, r0] at this
    omega
  have H6 : val [t6, t7, t8] = m * P * val [] + R6 := by rw [r6]; simp [val]
  have H5 : val [t5, t6, t7, t8] = m * P * val [q5] + R5 := horner H6 rfl y5
  have H4 : val [t4, t5, t6, t7, t8] = m * P * val [q4, q5] + R4 := horner H5 rfl y4
  have H3 : val [t3, t4, t5, t6, t7, t8] = m * P * val [q3, q4, q5] + R3 := horner H4 rfl y3
  have H2 : val [t2, t3, t4, t5, t6, t7, t8] = m * P * val [q2, q3, q4, q5] + R2 := horner H3 rfl y2
  have H1 : val [t1, t2, t3, t4, t5, t6, t7, t8] = m * P * val [q1, q2, q3, q4, q5] + R1 := horner H2 rfl y1
  have H0 : val [t0, t1, t2, t3, t4, t5, t6, t7, t8] = m * P * val [q0, q1, q2, q3, q4, q5] + R0 := horner H1 rfl y0
  rw [vt] at H0
  obtain ⟨f1, f2⟩ := fin_div (by omega) mu3 H0 rfl n0 g0
  have C := fun w => divide_3 hm (by omega) (by omega) eL (by omega) s0 s1 lz eD hn vD d1 wt li r6 g6 e5 r5 e4 r4 e3 r3 e2 r2 e1 r1 e0 r0 w
  refine ⟨q0, q1, q2, q3, q4, q5, 0, 0, ?_, ?_, ?_⟩
  · intro x hx
    simp only [List.mem_cons, List.not_mem_nil, or_false] at hx
    rcases hx with rfl | rfl | rfl | rfl | rfl | rfl | rfl | rfl <;> assumption
  · rw [f1]; simp [val]
  · intro w
    have c := C w
    unfold downN at c
    rw [hP, ← f2] at c
    exact c

theorem divide_any_4 {x0 x1 x2 x3 x4 x5 x6 x7 m0 m1 m2 m3 : Int} (h0 : Word x0) (h1 : Word x1) (h2 : Word x2) (h3 : Word x3) (h4 : Word x4) (h5 : Word x5) (h6 : Word x6) (h7 : Word x7) (k0 : Word m0) (k1 : Word m1) (k2 : Word m2) (k3 : Word m3) (hz : m3 ≠ 0) :
    ∃ q0 q1 q2 q3 q4 q5 q6 q7 : Int, Words [q0, q1, q2, q3, q4, q5, q6, q7] ∧ val [q0, q1, q2, q3, q4, q5, q6, q7] = val [x0, x1, x2, x3, x4, x5, x6, x7] / num m0 m1 m2 m3 ∧ ∀ w : World,
    Calls Tryd.prog 79 #[.agg #[.int .u64 x0, .int .u64 x1, .int .u64 x2, .int .u64 x3, .int .u64 x4, .int .u64 x5, .int .u64 x6, .int .u64 x7], .agg #[.int .u64 (l0 (num m0 m1 m2 m3)), .int .u64 (l1 (num m0 m1 m2 m3)), .int .u64 (l2 (num m0 m1 m2 m3)), .int .u64 (l3 (num m0 m1 m2 m3))]] w fun e w' => e = .returned (.tuple #[.agg #[.int .u64 q0, .int .u64 q1, .int .u64 q2, .int .u64 q3, .int .u64 q4, .int .u64 q5, .int .u64 q6, .int .u64 q7], .agg #[.int .u64 (l0 (val [x0, x1, x2, x3, x4, x5, x6, x7] % num m0 m1 m2 m3)), .int .u64 (l1 (val [x0, x1, x2, x3, x4, x5, x6, x7] % num m0 m1 m2 m3)), .int .u64 (l2 (val [x0, x1, x2, x3, x4, x5, x6, x7] % num m0 m1 m2 m3)), .int .u64 (l3 (val [x0, x1, x2, x3, x4, x5, x6, x7] % num m0 m1 m2 m3))]]) ∧ Below w.heap.size w w' := by
  obtain ⟨b, eb, b1, bl, bh⟩ := len_limb k3 hz
  have z : Word 0 := ⟨by decide, by decide⟩
  have hm : Num (num m0 m1 m2 m3) := num_Num k0 k1 k2 k3
  have el : l3 (num m0 m1 m2 m3) = m3 := l3_num k0 k1 k2 k3
  have eL := len_num_3 k0 k1 k2 bl bh
  obtain ⟨p1, p2⟩ := pow_63 b1
  have s0 : 0 ≤ 63 - (b : Int) := by omega
  have s1 : 63 - (b : Int) ≤ 63 := by omega
  have lz : ∀ w, Calls Tryd.prog 98 #[.int .u64 (l3 (num m0 m1 m2 m3))] w fun e w' => e = .returned (.int .i64 (63 - (b : Int))) ∧ w' = w := by
    intro w
    rw [el]
    have r := Tryd.bits_LeadingZeros64 m3 w k3.1 (by have := k3.2; omega)
    rw [eb, show (64 : Int) - ((b : Int) + 1) = 63 - (b : Int) by omega] at r
    exact r
  obtain ⟨_, p0, _⟩ := pow_pair s0 s1
  have mu1 : (num m0 m1 m2 m3) < 6277101735386680763835789423207666416102355444464034512896 * (m3 + 1) := by unfold num Word at *; omega
  have mu2 : 6277101735386680763835789423207666416102355444464034512896 * m3 ≤ (num m0 m1 m2 m3) := by unfold num Word at *; omega
  have mu3 : 0 < (num m0 m1 m2 m3) := by have := k3.1; omega
  obtain ⟨t0, t1, t2, t3, t4, t5, t6, t7, t8, wt, vt, li⟩ := lift_any h0 h1 h2 h3 h4 h5 h6 h7 s0 s1
  have wx : Words [x0, x1, x2, x3, x4, x5, x6, x7] := by
    intro x hx
    simp only [List.mem_cons, List.not_mem_nil, or_false] at hx
    rcases hx with rfl | rfl | rfl | rfl | rfl | rfl | rfl | rfl <;> assumption
  have vx := val_nonneg wx
  rw [show ([x0, x1, x2, x3, x4, x5, x6, x7] : List Int).length = 8 from rfl, show (18446744073709551616 : Int) ^ 8 = 13407807929942597099574024998205846127479365820592393377723561443721764030073546976801874298166903427690031858186486050853753882811946569946433649006084096 by decide] at vx
  generalize hP : (2 : Int) ^ (63 - (b : Int)).toNat = P at *
  generalize hmm : (num m0 m1 m2 m3) = m at *
  -- the divisor, moved up
  have d1 : m * P < 115792089237316195423570985008687907853269984665640564039457584007913129639936 := by
    have a : m * P < (6277101735386680763835789423207666416102355444464034512896 * 2 ^ (b + 1)) * P := Int.mul_lt_mul_of_pos_right (by omega) (by omega)
    rw [Int.mul_assoc, p2] at a
    omega
  have d2 : 57896044618658097711785492504343953926634992332820282019728792003956564819968 ≤ m * P := by
    have a : (6277101735386680763835789423207666416102355444464034512896 * 2 ^ b) * P ≤ m * P := Int.mul_le_mul_of_nonneg_right (by omega) (by omega)
    rw [Int.mul_assoc, p1] at a
    omega
  have eD : upN m (63 - (b : Int)) = m * P := by
    unfold upN
    rw [hP]
    exact Int.emod_eq_of_lt (by omega) (by omega)
  have hn : 9223372036854775808 ≤ l3 (m * P) := by unfold l3; omega
  have vD : val [(l0 (m * P)), (l1 (m * P)), (l2 (m * P)), (l3 (m * P))] = m * P := by
    simp only [val]; unfold l0 l1 l2 l3; omega
  have D0 : 0 < m * P := by omega
  have wlo := val_nonneg (l := [t0, t1, t2, t3, t4]) (fun x hx => wt x (by simp only [List.mem_cons] at *; simp at hx; rcases hx with rfl | rfl | rfl | rfl | rfl <;> simp))
  have whi := val_nonneg (l := [t5, t6, t7, t8]) (fun x hx => wt x (List.mem_of_mem_drop (show x ∈ [t0, t1, t2, t3, t4, t5, t6, t7, t8].drop 5 from hx)))
  have vsplit : val [t0, t1, t2, t3, t4, t5, t6, t7, t8] = val [t0, t1, t2, t3, t4] + 2135987035920910082395021706169552114602704522356652769947041607822219725780640550022962086936576 * val [t5, t6, t7, t8] := by simp only [val]; omega
  have gtop : val [t5, t6, t7, t8] < m * P := by
    have a : val [t0, t1, t2, t3, t4, t5, t6, t7, t8] < 13407807929942597099574024998205846127479365820592393377723561443721764030073546976801874298166903427690031858186486050853753882811946569946433649006084096 * P := by rw [vt]; exact Int.mul_lt_mul_of_pos_right vx.2 (by omega)
    have h : val [t5, t6, t7, t8] < 6277101735386680763835789423207666416102355444464034512896 * P := top_lt (V := val [t0, t1, t2, t3, t4, t5, t6, t7, t8]) (c := 2135987035920910082395021706169552114602704522356652769947041607822219725780640550022962086936576) (d := 6277101735386680763835789423207666416102355444464034512896) (by omega) wlo.1 vsplit (by decide) (by rw [← Int.mul_assoc]; simpa using a)
    have i : 6277101735386680763835789423207666416102355444464034512896 * P ≤ 57896044618658097711785492504343953926634992332820282019728792003956564819968 := by
      have : P ≤ 9223372036854775808 := by
        rw [← p1]
        have q : (1 : Int) ≤ 2 ^ b := Int.pow_pos (by decide)
        have := Int.mul_le_mul_of_nonneg_right q (show 0 ≤ P by omega)
        omega
      omega
    omega
  obtain ⟨R5, r5⟩ : ∃ R, val [t5, t6, t7, t8] = R := ⟨_, rfl⟩
  rw [r5] at gtop whi
  have g5 := gtop
  have n5 := whi.1
  obtain ⟨q4, e4⟩ : ∃ q, (t4 + 18446744073709551616 * R5) / (m * P) = q := ⟨_, rfl⟩
  obtain ⟨R4, r4⟩ : ∃ R, (t4 + 18446744073709551616 * R5) % (m * P) = R := ⟨_, rfl⟩
  have n4 : 0 ≤ R4 := by rw [← r4]; exact Int.emod_nonneg _ (by omega)
  have g4 : R4 < m * P := by rw [← r4]; exact Int.emod_lt_of_pos _ D0
  have w4 : Word q4 := by
    obtain ⟨_, _⟩ := wt t4 (by simp)
    rw [← e4]
    exact ⟨Int.ediv_nonneg (by omega) (by omega), Int.ediv_lt_of_lt_mul D0 (by omega)⟩
  have y4 : t4 + 18446744073709551616 * R5 = m * P * q4 + R4 := by
    have := Int.emod_add_mul_ediv (t4 + 18446744073709551616 * R5) (m * P)
    rw [e4, r4] at this
    omega
  obtain ⟨q3, e3⟩ : ∃ q, (t3 + 18446744073709551616 * R4) / (m * P) = q := ⟨_, rfl⟩
  obtain ⟨R3, r3⟩ : ∃ R, (t3 + 18446744073709551616 * R4) % (m * P) = R := ⟨_, rfl⟩
  have n3 : 0 ≤ R3 := by rw [← r3]; exact Int.emod_nonneg _ (by omega)
  have g3 : R3 < m * P := by rw [← r3]; exact Int.emod_lt_of_pos _ D0
  have w3 : Word q3 := by
    obtain ⟨_, _⟩ := wt t3 (by simp)
    rw [← e3]
    exact ⟨Int.ediv_nonneg (by omega) (by omega), Int.ediv_lt_of_lt_mul D0 (by omega)⟩
  have y3 : t3 + 18446744073709551616 * R4 = m * P * q3 + R3 := by
    have := Int.emod_add_mul_ediv (t3 + 18446744073709551616 * R4) (m * P)
    rw [e3, r3] at this
    omega
  obtain ⟨q2, e2⟩ : ∃ q, (t2 + 18446744073709551616 * R3) / (m * P) = q := ⟨_, rfl⟩
  obtain ⟨R2, r2⟩ : ∃ R, (t2 + 18446744073709551616 * R3) % (m * P) = R := ⟨_, rfl⟩
  have n2 : 0 ≤ R2 := by rw [← r2]; exact Int.emod_nonneg _ (by omega)
  have g2 : R2 < m * P := by rw [← r2]; exact Int.emod_lt_of_pos _ D0
  have w2 : Word q2 := by
    obtain ⟨_, _⟩ := wt t2 (by simp)
    rw [← e2]
    exact ⟨Int.ediv_nonneg (by omega) (by omega), Int.ediv_lt_of_lt_mul D0 (by omega)⟩
  have y2 : t2 + 18446744073709551616 * R3 = m * P * q2 + R2 := by
    have := Int.emod_add_mul_ediv (t2 + 18446744073709551616 * R3) (m * P)
    rw [e2, r2] at this
    omega
  obtain ⟨q1, e1⟩ : ∃ q, (t1 + 18446744073709551616 * R2) / (m * P) = q := ⟨_, rfl⟩
  obtain ⟨R1, r1⟩ : ∃ R, (t1 + 18446744073709551616 * R2) % (m * P) = R := ⟨_, rfl⟩
  have n1 : 0 ≤ R1 := by rw [← r1]; exact Int.emod_nonneg _ (by omega)
  have g1 : R1 < m * P := by rw [← r1]; exact Int.emod_lt_of_pos _ D0
  have w1 : Word q1 := by
    obtain ⟨_, _⟩ := wt t1 (by simp)
    rw [← e1]
    exact ⟨Int.ediv_nonneg (by omega) (by omega), Int.ediv_lt_of_lt_mul D0 (by omega)⟩
  have y1 : t1 + 18446744073709551616 * R2 = m * P * q1 + R1 := by
    have := Int.emod_add_mul_ediv (t1 + 18446744073709551616 * R2) (m * P)
    rw [e1, r1] at this
    omega
  obtain ⟨q0, e0⟩ : ∃ q, (t0 + 18446744073709551616 * R1) / (m * P) = q := ⟨_, rfl⟩
  obtain ⟨R0, r0⟩ : ∃ R, (t0 + 18446744073709551616 * R1) % (m * P) = R := ⟨_, rfl⟩
  have n0 : 0 ≤ R0 := by rw [← r0]; exact Int.emod_nonneg _ (by omega)
  have g0 : R0 < m * P := by rw [← r0]; exact Int.emod_lt_of_pos _ D0
  have w0 : Word q0 := by
    obtain ⟨_, _⟩ := wt t0 (by simp)
    rw [← e0]
    exact ⟨Int.ediv_nonneg (by omega) (by omega), Int.ediv_lt_of_lt_mul D0 (by omega)⟩
  have y0 : t0 + 18446744073709551616 * R1 = m * P * q0 + R0 := by
    have := Int.emod_add_mul_ediv (t0 + 18446744073709551616 * R1) (m * P)
    rw [e0, r0] at this
    omega
  have H5 : val [t5, t6, t7, t8] = m * P * val [] + R5 := by rw [r5]; simp [val]
  have H4 : val [t4, t5, t6, t7, t8] = m * P * val [q4] + R4 := horner H5 rfl y4
  have H3 : val [t3, t4, t5, t6, t7, t8] = m * P * val [q3, q4] + R3 := horner H4 rfl y3
  have H2 : val [t2, t3, t4, t5, t6, t7, t8] = m * P * val [q2, q3, q4] + R2 := horner H3 rfl y2
  have H1 : val [t1, t2, t3, t4, t5, t6, t7, t8] = m * P * val [q1, q2, q3, q4] + R1 := horner H2 rfl y1
  have H0 : val [t0, t1, t2, t3, t4, t5, t6, t7, t8] = m * P * val [q0, q1, q2, q3, q4] + R0 := horner H1 rfl y0
  rw [vt] at H0
  obtain ⟨f1, f2⟩ := fin_div (by omega) mu3 H0 rfl n0 g0
  have C := fun w => divide_4 hm (by omega) (by omega) eL (by omega) s0 s1 lz eD hn vD d1 wt li r5 g5 e4 r4 e3 r3 e2 r2 e1 r1 e0 r0 w
  refine ⟨q0, q1, q2, q3, q4, 0, 0, 0, ?_, ?_, ?_⟩
  · intro x hx
    simp only [List.mem_cons, List.not_mem_nil, or_false] at hx
    rcases hx with rfl | rfl | rfl | rfl | rfl | rfl | rfl | rfl <;> assumption
  · rw [f1]; simp [val]
  · intro w
    have c := C w
    unfold downN at c
    rw [hP, ← f2] at c
    exact c

/-- The quotient and the rest of a number of eight limbs. -/
theorem divide_any {x0 x1 x2 x3 x4 x5 x6 x7 m : Int} (h0 : Word x0) (h1 : Word x1) (h2 : Word x2) (h3 : Word x3) (h4 : Word x4) (h5 : Word x5) (h6 : Word x6) (h7 : Word x7) (hm : Num m) (hz : m ≠ 0) :
    ∃ q0 q1 q2 q3 q4 q5 q6 q7 : Int, Words [q0, q1, q2, q3, q4, q5, q6, q7] ∧ val [q0, q1, q2, q3, q4, q5, q6, q7] = val [x0, x1, x2, x3, x4, x5, x6, x7] / m ∧ ∀ w : World,
    Calls Tryd.prog 79 #[.agg #[.int .u64 x0, .int .u64 x1, .int .u64 x2, .int .u64 x3, .int .u64 x4, .int .u64 x5, .int .u64 x6, .int .u64 x7], .agg #[.int .u64 (l0 m), .int .u64 (l1 m), .int .u64 (l2 m), .int .u64 (l3 m)]] w fun e w' => e = .returned (.tuple #[.agg #[.int .u64 q0, .int .u64 q1, .int .u64 q2, .int .u64 q3, .int .u64 q4, .int .u64 q5, .int .u64 q6, .int .u64 q7], .agg #[.int .u64 (l0 (val [x0, x1, x2, x3, x4, x5, x6, x7] % m)), .int .u64 (l1 (val [x0, x1, x2, x3, x4, x5, x6, x7] % m)), .int .u64 (l2 (val [x0, x1, x2, x3, x4, x5, x6, x7] % m)), .int .u64 (l3 (val [x0, x1, x2, x3, x4, x5, x6, x7] % m))]]) ∧ Below w.heap.size w w' := by
  have k0 := l0_word m; have k1 := l1_word m; have k2 := l2_word m; have k3 := l3_word m
  have en := num_l hm
  rw [← en] at hz ⊢
  generalize l0 m = m0 at *; generalize l1 m = m1 at *; generalize l2 m = m2 at *; generalize l3 m = m3 at *
  clear en hm
  by_cases z3 : m3 = 0
  · subst z3
    by_cases z2 : m2 = 0
    · subst z2
      by_cases z1 : m1 = 0
      · subst z1
        exact divide_any_1 h0 h1 h2 h3 h4 h5 h6 h7 k0 (fun h => hz (by rw [h]; decide))
      · exact divide_any_2 h0 h1 h2 h3 h4 h5 h6 h7 k0 k1 z1
    · exact divide_any_3 h0 h1 h2 h3 h4 h5 h6 h7 k0 k1 k2 z2
  · exact divide_any_4 h0 h1 h2 h3 h4 h5 h6 h7 k0 k1 k2 k3 z3

end Go.Proofs.YtjppjieidjodfaaDoor
