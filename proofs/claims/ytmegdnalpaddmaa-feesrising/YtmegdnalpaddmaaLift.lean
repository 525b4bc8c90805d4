import Derived.Test.YtmegdnalpaddmaaShiftNum
import Derived.Test.YtmegdnalpaddmaaLongNum
import Derived.Test.YtmegdnalpaddmaaAdd
namespace Go.Proofs.Ytmegdnalpaddmaa
open Go.RowKit

set_option maxHeartbeats 1000000 in
theorem join_any (h0 h1 h2 h3 x0 x1 x2 x3 : Int) (w : World) :
    Calls Try.prog 42 #[.agg #[.int .u64 h0, .int .u64 h1, .int .u64 h2, .int .u64 h3], .agg #[.int .u64 x0, .int .u64 x1, .int .u64 x2, .int .u64 x3]] w fun e w' =>
      e = .returned (.agg #[.int .u64 x0, .int .u64 x1, .int .u64 x2, .int .u64 x3, .int .u64 h0, .int .u64 h1, .int .u64 h2, .int .u64 h3]) ∧ Below w.heap.size w w' := by
  go_enter Try.func42, Try.ntmps42
  go_wp2
  refine wp_loop_rounds 5 ?_
  rw [rounds_succ]; go_wp2; go_region; go_wp2
  rw [rounds_succ]; go_wp2; go_region; go_wp2
  rw [rounds_succ]; go_wp2; go_region; go_wp2
  rw [rounds_succ]; go_wp2; go_region; go_wp2
  rw [rounds_succ]; go_wp2
  simp [bodyPost, results, Try.results42, go_sem]
  repeat (first | with_reducible exact Below.refl _ _ | with_reducible refine Below.drew ?_ | with_reducible refine Below.alloc ?_ (by first | omega | (simp; done) | (simp; omega)) _)

/-- An element of an array of eight limbs, by value. -/
theorem index8 (x0 x1 x2 x3 x4 x5 x6 x7 : Int) (w : World) :
    (Instr.index 61 (.agg #[.int .u64 x0, .int .u64 x1, .int .u64 x2, .int .u64 x3, .int .u64 x4, .int .u64 x5, .int .u64 x6, .int .u64 x7]) (.int .i64 0)).run Try.prog w = .ok (.int .u64 x0) w ∧
    (Instr.index 61 (.agg #[.int .u64 x0, .int .u64 x1, .int .u64 x2, .int .u64 x3, .int .u64 x4, .int .u64 x5, .int .u64 x6, .int .u64 x7]) (.int .i64 1)).run Try.prog w = .ok (.int .u64 x1) w ∧
    (Instr.index 61 (.agg #[.int .u64 x0, .int .u64 x1, .int .u64 x2, .int .u64 x3, .int .u64 x4, .int .u64 x5, .int .u64 x6, .int .u64 x7]) (.int .i64 2)).run Try.prog w = .ok (.int .u64 x2) w ∧
    (Instr.index 61 (.agg #[.int .u64 x0, .int .u64 x1, .int .u64 x2, .int .u64 x3, .int .u64 x4, .int .u64 x5, .int .u64 x6, .int .u64 x7]) (.int .i64 3)).run Try.prog w = .ok (.int .u64 x3) w ∧
    (Instr.index 61 (.agg #[.int .u64 x0, .int .u64 x1, .int .u64 x2, .int .u64 x3, .int .u64 x4, .int .u64 x5, .int .u64 x6, .int .u64 x7]) (.int .i64 4)).run Try.prog w = .ok (.int .u64 x4) w ∧
    (Instr.index 61 (.agg #[.int .u64 x0, .int .u64 x1, .int .u64 x2, .int .u64 x3, .int .u64 x4, .int .u64 x5, .int .u64 x6, .int .u64 x7]) (.int .i64 5)).run Try.prog w = .ok (.int .u64 x5) w ∧
    (Instr.index 61 (.agg #[.int .u64 x0, .int .u64 x1, .int .u64 x2, .int .u64 x3, .int .u64 x4, .int .u64 x5, .int .u64 x6, .int .u64 x7]) (.int .i64 6)).run Try.prog w = .ok (.int .u64 x6) w ∧
    (Instr.index 61 (.agg #[.int .u64 x0, .int .u64 x1, .int .u64 x2, .int .u64 x3, .int .u64 x4, .int .u64 x5, .int .u64 x6, .int .u64 x7]) (.int .i64 7)).run Try.prog w = .ok (.int .u64 x7) w := by
  have tu := Try.underlying61
  have ta := Try.isAgg22
  have tz := Try.sizeOf22
  refine ⟨?_, ?_, ?_, ?_, ?_, ?_, ?_, ?_⟩ <;> simp [Instr.index, Go.part, run_underlying tu, asIntOf, go_sem, ta, tz]

set_option maxHeartbeats 2000000 in
theorem lift_limbs {x0 x1 x2 x3 x4 x5 x6 x7 s : Int} (h0 : Word x0) (h1 : Word x1) (h2 : Word x2) (h3 : Word x3) (h4 : Word x4) (h5 : Word x5) (h6 : Word x6) (h7 : Word x7) (s0 : 0 ≤ s) (s1 : s ≤ 63) (w : World) :
    Calls Try.prog 53 #[.agg #[.int .u64 x0, .int .u64 x1, .int .u64 x2, .int .u64 x3, .int .u64 x4, .int .u64 x5, .int .u64 x6, .int .u64 x7], .int .i64 s] w fun e w' =>
      e = .returned (.agg #[.int .u64 (bits .or .u64 0 (IntKind.u64.wrap (x0 * 2 ^ s.toNat))), .int .u64 (bits .or .u64 (x0 / 2 ^ (64 - s).toNat) (IntKind.u64.wrap (x1 * 2 ^ s.toNat))), .int .u64 (bits .or .u64 (x1 / 2 ^ (64 - s).toNat) (IntKind.u64.wrap (x2 * 2 ^ s.toNat))), .int .u64 (bits .or .u64 (x2 / 2 ^ (64 - s).toNat) (IntKind.u64.wrap (x3 * 2 ^ s.toNat))), .int .u64 (bits .or .u64 (x3 / 2 ^ (64 - s).toNat) (IntKind.u64.wrap (x4 * 2 ^ s.toNat))), .int .u64 (bits .or .u64 (x4 / 2 ^ (64 - s).toNat) (IntKind.u64.wrap (x5 * 2 ^ s.toNat))), .int .u64 (bits .or .u64 (x5 / 2 ^ (64 - s).toNat) (IntKind.u64.wrap (x6 * 2 ^ s.toNat))), .int .u64 (bits .or .u64 (x6 / 2 ^ (64 - s).toNat) (IntKind.u64.wrap (x7 * 2 ^ s.toNat))), .int .u64 (x7 / 2 ^ (64 - s).toNat)]) ∧ Below w.heap.size w w' := by
  obtain ⟨_, _⟩ := h0; obtain ⟨_, _⟩ := h1; obtain ⟨_, _⟩ := h2; obtain ⟨_, _⟩ := h3; obtain ⟨_, _⟩ := h4; obtain ⟨_, _⟩ := h5; obtain ⟨_, _⟩ := h6; obtain ⟨_, _⟩ := h7
  have ix := index8 x0 x1 x2 x3 x4 x5 x6 x7
  go_enter Try.func53, Try.ntmps53
  go_wp2
  refine wp_loop_rounds 9 ?_
  rw [rounds_succ]; go_wp2; go_region; go_wp2
  rw [rounds_succ]; go_wp2; go_region; go_wp2
  rw [rounds_succ]; go_wp2; go_region; go_wp2
  rw [rounds_succ]; go_wp2; go_region; go_wp2
  rw [rounds_succ]; go_wp2; go_region; go_wp2
  rw [rounds_succ]; go_wp2; go_region; go_wp2
  rw [rounds_succ]; go_wp2; go_region; go_wp2
  rw [rounds_succ]; go_wp2; go_region; go_wp2
  rw [rounds_succ]; go_wp2
  simp [bodyPost, results, Try.results53, go_sem]
  repeat (first | with_reducible exact Below.refl _ _ | with_reducible refine Below.drew ?_ | with_reducible refine Below.alloc ?_ (by first | omega | (simp; done) | (simp; omega)) _)

theorem lift_or {x y s : Int} (hx : Word x) (hy : Word y) (s0 : 0 ≤ s) (s1 : s ≤ 63) :
    bits .or .u64 (y / 2 ^ (64 - s).toNat) (IntKind.u64.wrap (x * 2 ^ s.toNat)) = IntKind.u64.wrap (x * 2 ^ s.toNat) + y / 2 ^ (64 - s).toNat := by
  rw [← up_or hx hy s0 s1]
  obtain ⟨k, e, k0, k1, _, _, _⟩ := up_limb hx s0 s1
  obtain ⟨_, _, _, _, _, g0, g1⟩ := up_limb hy s0 s1
  obtain ⟨_, p1, _⟩ := pow_pair s0 s1
  have z : 0 ≤ 2 ^ s.toNat * k := Int.mul_nonneg (by omega) k0
  rw [e]
  generalize 2 ^ s.toNat * k = a at *
  generalize y / 2 ^ (64 - s).toNat = b at *
  obtain ⟨a, rfl⟩ := Int.eq_ofNat_of_zero_le z
  obtain ⟨b, rfl⟩ := Int.eq_ofNat_of_zero_le g0
  exact or_comm b a (by omega) (by omega)

/-- x, moved up by less than 64 places: nine limbs. -/
theorem lift_any {x0 x1 x2 x3 x4 x5 x6 x7 s : Int} (h0 : Word x0) (h1 : Word x1) (h2 : Word x2) (h3 : Word x3) (h4 : Word x4) (h5 : Word x5) (h6 : Word x6) (h7 : Word x7) (s0 : 0 ≤ s) (s1 : s ≤ 63) :
    ∃ t0 t1 t2 t3 t4 t5 t6 t7 t8 : Int, Words [t0, t1, t2, t3, t4, t5, t6, t7, t8] ∧ val [t0, t1, t2, t3, t4, t5, t6, t7, t8] = val [x0, x1, x2, x3, x4, x5, x6, x7] * 2 ^ s.toNat ∧ ∀ w : World,
    Calls Try.prog 53 #[.agg #[.int .u64 x0, .int .u64 x1, .int .u64 x2, .int .u64 x3, .int .u64 x4, .int .u64 x5, .int .u64 x6, .int .u64 x7], .int .i64 s] w fun e w' =>
      e = .returned (.agg #[.int .u64 t0, .int .u64 t1, .int .u64 t2, .int .u64 t3, .int .u64 t4, .int .u64 t5, .int .u64 t6, .int .u64 t7, .int .u64 t8]) ∧ Below w.heap.size w w' := by
  have z : Word 0 := ⟨by decide, by decide⟩
  have L := lift_limbs h0 h1 h2 h3 h4 h5 h6 h7 s0 s1
  have l0' := lift_or h0 z s0 s1
  rw [Int.zero_ediv, Int.add_zero] at l0'
  rw [l0', lift_or h1 h0 s0 s1, lift_or h2 h1 s0 s1, lift_or h3 h2 s0 s1, lift_or h4 h3 s0 s1, lift_or h5 h4 s0 s1, lift_or h6 h5 s0 s1, lift_or h7 h6 s0 s1] at L
  obtain ⟨k0, e0, a0, b0, c0, d0, f0⟩ := up_limb h0 s0 s1
  obtain ⟨k1, e1, a1, b1, c1, d1, f1⟩ := up_limb h1 s0 s1
  obtain ⟨k2, e2, a2, b2, c2, d2, f2⟩ := up_limb h2 s0 s1
  obtain ⟨k3, e3, a3, b3, c3, d3, f3⟩ := up_limb h3 s0 s1
  obtain ⟨k4, e4, a4, b4, c4, d4, f4⟩ := up_limb h4 s0 s1
  obtain ⟨k5, e5, a5, b5, c5, d5, f5⟩ := up_limb h5 s0 s1
  obtain ⟨k6, e6, a6, b6, c6, d6, f6⟩ := up_limb h6 s0 s1
  obtain ⟨k7, e7, a7, b7, c7, d7, f7⟩ := up_limb h7 s0 s1
  obtain ⟨_, p1, _⟩ := pow_pair s0 s1
  have z0 : 0 ≤ 2 ^ s.toNat * k0 := Int.mul_nonneg (by omega) a0
  have z1 : 0 ≤ 2 ^ s.toNat * k1 := Int.mul_nonneg (by omega) a1
  have z2 : 0 ≤ 2 ^ s.toNat * k2 := Int.mul_nonneg (by omega) a2
  have z3 : 0 ≤ 2 ^ s.toNat * k3 := Int.mul_nonneg (by omega) a3
  have z4 : 0 ≤ 2 ^ s.toNat * k4 := Int.mul_nonneg (by omega) a4
  have z5 : 0 ≤ 2 ^ s.toNat * k5 := Int.mul_nonneg (by omega) a5
  have z6 : 0 ≤ 2 ^ s.toNat * k6 := Int.mul_nonneg (by omega) a6
  have z7 : 0 ≤ 2 ^ s.toNat * k7 := Int.mul_nonneg (by omega) a7
  rw [e0, e1, e2, e3, e4, e5, e6, e7] at L
  refine ⟨_, _, _, _, _, _, _, _, _, ?_, ?_, L⟩
  · clear L l0' c0 e0 c1 e1 c2 e2 c3 e3 c4 e4 c5 e5 c6 e6 c7 e7
    generalize x0 / 2 ^ (64 - s).toNat = g0 at *
    generalize 2 ^ s.toNat * k0 = r0 at *
    generalize x1 / 2 ^ (64 - s).toNat = g1 at *
    generalize 2 ^ s.toNat * k1 = r1 at *
    generalize x2 / 2 ^ (64 - s).toNat = g2 at *
    generalize 2 ^ s.toNat * k2 = r2 at *
    generalize x3 / 2 ^ (64 - s).toNat = g3 at *
    generalize 2 ^ s.toNat * k3 = r3 at *
    generalize x4 / 2 ^ (64 - s).toNat = g4 at *
    generalize 2 ^ s.toNat * k4 = r4 at *
    generalize x5 / 2 ^ (64 - s).toNat = g5 at *
    generalize 2 ^ s.toNat * k5 = r5 at *
    generalize x6 / 2 ^ (64 - s).toNat = g6 at *
    generalize 2 ^ s.toNat * k6 = r6 at *
    generalize x7 / 2 ^ (64 - s).toNat = g7 at *
    generalize 2 ^ s.toNat * k7 = r7 at *
    intro x hx
    simp only [List.mem_cons, List.not_mem_nil, or_false] at hx
    rcases hx with rfl | rfl | rfl | rfl | rfl | rfl | rfl | rfl | rfl <;> (unfold Word; omega)
  · simp only [val, Int.mul_zero, Int.add_zero, Int.add_mul, Int.mul_assoc]
    rw [c0, c1, c2, c3, c4, c5, c6, c7]
    clear L l0' c0 e0 c1 e1 c2 e2 c3 e3 c4 e4 c5 e5 c6 e6 c7 e7
    generalize x0 / 2 ^ (64 - s).toNat = g0 at *
    generalize 2 ^ s.toNat * k0 = r0 at *
    generalize x1 / 2 ^ (64 - s).toNat = g1 at *
    generalize 2 ^ s.toNat * k1 = r1 at *
    generalize x2 / 2 ^ (64 - s).toNat = g2 at *
    generalize 2 ^ s.toNat * k2 = r2 at *
    generalize x3 / 2 ^ (64 - s).toNat = g3 at *
    generalize 2 ^ s.toNat * k3 = r3 at *
    generalize x4 / 2 ^ (64 - s).toNat = g4 at *
    generalize 2 ^ s.toNat * k4 = r4 at *
    generalize x5 / 2 ^ (64 - s).toNat = g5 at *
    generalize 2 ^ s.toNat * k5 = r5 at *
    generalize x6 / 2 ^ (64 - s).toNat = g6 at *
    generalize 2 ^ s.toNat * k6 = r6 at *
    generalize x7 / 2 ^ (64 - s).toNat = g7 at *
    generalize 2 ^ s.toNat * k7 = r7 at *
    omega

end Go.Proofs.Ytmegdnalpaddmaa
