import Derived.Test.YtmegdnalpaddmaaDivMod
import Derived.Test.YtmegdnalpaddmaaMulDiv
import Derived.Test.YtmegdnalpaddmaaFeA
/- Reduce, MulDiv in numbers; what they tell of 0. -/
namespace Go.Proofs.Ytmegdnalpaddmaa
open Go.RowKit Go.Sort

theorem val_two {a b : Int} (ha : Num a) (hb : Num b) : val [l0 a, l1 a, l2 a, l3 a, l0 b, l1 b, l2 b, l3 b] = a + b * 115792089237316195423570985008687907853269984665640564039457584007913129639936 := by
  have h1 := num_l ha; have h2 := num_l hb
  unfold num at h1 h2
  simp only [val]
  omega

theorem hi_lo (h n : Int) : loN h n + hiN h n * 115792089237316195423570985008687907853269984665640564039457584007913129639936 = h * n := by
  unfold loN hiN
  generalize h * n = p
  omega

theorem high_limbs {q0 q1 q2 q3 q4 q5 q6 q7 p : Int} (hq : Words [q0, q1, q2, q3, q4, q5, q6, q7]) (e : val [q0, q1, q2, q3, q4, q5, q6, q7] = p) (hp : 115792089237316195423570985008687907853269984665640564039457584007913129639936 ≤ p) : ¬ (q4 = 0 ∧ q5 = 0 ∧ q6 = 0 ∧ q7 = 0) := by
  rintro ⟨rfl, rfl, rfl, rfl⟩
  obtain ⟨_, _⟩ := hq q0 (by simp); obtain ⟨_, _⟩ := hq q1 (by simp); obtain ⟨_, _⟩ := hq q2 (by simp); obtain ⟨_, _⟩ := hq q3 (by simp)
  simp only [val] at e
  omega

theorem mulDiv_any {h n m : Int} (hh : Num h) (hn : Num n) (hm : Num m) (hz : m ≠ 0) (w : World) :
    Calls Try.prog 27 #[.agg #[.int .u64 (l0 h), .int .u64 (l1 h), .int .u64 (l2 h), .int .u64 (l3 h)], .agg #[.int .u64 (l0 n), .int .u64 (l1 n), .int .u64 (l2 n), .int .u64 (l3 n)], .agg #[.int .u64 (l0 m), .int .u64 (l1 m), .int .u64 (l2 m), .int .u64 (l3 m)]] w fun e w' => e = .returned (if h * n / m < 115792089237316195423570985008687907853269984665640564039457584007913129639936 then .tuple #[.agg #[.int .u64 (l0 (h * n / m)), .int .u64 (l1 (h * n / m)), .int .u64 (l2 (h * n / m)), .int .u64 (l3 (h * n / m))], .int .i64 0] else .tuple #[.agg #[.int .u64 (l0 0), .int .u64 (l1 0), .int .u64 (l2 0), .int .u64 (l3 0)], .int .i64 11]) ∧ Below w.heap.size w w' := by
  obtain ⟨q0, q1, q2, q3, q4, q5, q6, q7, wq, vq, dv⟩ := divide_any (l0_word (loN h n)) (l1_word (loN h n)) (l2_word (loN h n)) (l3_word (loN h n)) (l0_word (hiN h n)) (l1_word (hiN h n)) (l2_word (hiN h n)) (l3_word (hiN h n)) hm hz
  rw [val_two (loN_Num h n) (hiN_Num hh hn), hi_lo] at dv vq
  refine (mulDiv_some hh hn hm hz dv w).mono ?_
  rintro e w' ⟨rfl, hb⟩
  refine ⟨?_, hb⟩
  have m0 : 0 < m := by have := hm.1; omega
  have p0 : 0 ≤ h * n / m := Int.ediv_nonneg (Int.mul_nonneg hh.1 hn.1) (by omega)
  by_cases c : h * n / m < 115792089237316195423570985008687907853269984665640564039457584007913129639936
  · obtain ⟨rfl, rfl, rfl, rfl, rfl, rfl, rfl, rfl⟩ := low_limbs wq vq ⟨p0, c⟩
    rw [if_pos c, if_pos ⟨rfl, rfl, rfl, rfl⟩]
  · obtain ⟨z0, z1, z2, z3⟩ := zero_limbs
    rw [if_neg c, if_neg (high_limbs wq vq (by omega)), z0, z1, z2, z3]

set_option maxHeartbeats 1000000 in
theorem mulDiv_zero {h n : Int} (w : World) :
    Calls Try.prog 27 #[.agg #[.int .u64 (l0 h), .int .u64 (l1 h), .int .u64 (l2 h), .int .u64 (l3 h)], .agg #[.int .u64 (l0 n), .int .u64 (l1 n), .int .u64 (l2 n), .int .u64 (l3 n)], .agg #[.int .u64 (l0 0), .int .u64 (l1 0), .int .u64 (l2 0), .int .u64 (l3 0)]] w fun e w' => e = .returned (.tuple #[.agg #[.int .u64 (l0 0), .int .u64 (l1 0), .int .u64 (l2 0), .int .u64 (l3 0)], .int .i64 10]) ∧ Below w.heap.size w w' := by
  have he := eq_zero (m := 0) (show Num 0 from ⟨by decide, by decide⟩)
  obtain ⟨z0, z1, z2, z3⟩ := zero_limbs
  rw [z0, z1, z2, z3] at he ⊢
  clear z0 z1 z2 z3
  have hb := build_zero
  go_enter Try.func27, Try.ntmps27
  go_wp2
  simp [bodyPost, results, Try.results27, go_sem]
  repeat (first | with_reducible exact Below.refl _ _ | with_reducible refine Below.drew ?_ | with_reducible refine Below.alloc ?_ (by first | omega | (simp; done) | (simp; omega)) _)

end Go.Proofs.Ytmegdnalpaddmaa

namespace Go.Proofs.Ytmegdnalpaddmaa
open Go.RowKit Go.Sort

theorem step_any {b o t : Int} (hb : Num b) (ho : Word o) (ht : Word t) (t0 : 0 < t) (h : o ≤ 2 * t) (w : World) :
    Calls Try.prog 20 #[.agg #[.int .u64 (l0 b), .int .u64 (l1 b), .int .u64 (l2 b), .int .u64 (l3 b)], .int .u64 o, .int .u64 t] w fun e w' => e = .returned (.agg #[.int .u64 (l0 (stepN b o t)), .int .u64 (l1 (stepN b o t)), .int .u64 (l2 (stepN b o t)), .int .u64 (l3 (stepN b o t))]) ∧ Below w.heap.size w w' := by
  have t1 := ht.2
  have n8 : Num 8 := ⟨by decide, by decide⟩
  have nt : Num (8 * t) := ⟨by omega, by omega⟩
  refine step_walk ho ht (fun w => ?_) (fun w => ?_) w
  · have := mul_any n8 ht.num w
    rw [show hiN 8 t = 0 by unfold hiN; omega, show loN 8 t = 8 * t by unfold loN; omega] at this
    exact this
  · have := mulDiv_any hb ho.num nt (by omega) w
    rw [if_pos (show b * o / (8 * t) < 115792089237316195423570985008687907853269984665640564039457584007913129639936 from (step_Num hb ho.1 t0 h).2)] at this
    exact this

theorem rise_any {b o t : Int} (hb : Num b) (ho : Word o) (ht : Word t) (t0 : 0 < t) (h : o ≤ 2 * t) (w : World) :
    Calls Try.prog 19 #[.agg #[.int .u64 (l0 b), .int .u64 (l1 b), .int .u64 (l2 b), .int .u64 (l3 b)], .int .u64 o, .int .u64 t] w fun e w' => e = .returned (.agg #[.int .u64 (l0 (riseN b o t)), .int .u64 (l1 (riseN b o t)), .int .u64 (l2 (riseN b o t)), .int .u64 (l3 (riseN b o t))]) ∧ Below w.heap.size w w' := by
  have nq := step_Num hb ho.1 t0 h
  by_cases c : stepN b o t = 0
  · rw [show riseN b o t = 1 from if_pos c]
    refine rise_one (q := stepN b o t) (fun w => step_any hb ho ht t0 h w) (fun w => ?_) w
    rw [eq_zero nq, decide_eq_true c]
  · rw [show riseN b o t = stepN b o t from if_neg c]
    refine rise_more (fun w => step_any hb ho ht t0 h w) (fun w => ?_) w
    rw [eq_zero nq, decide_eq_false c]

theorem nb_any {b l u : Int} (hb : Num b) (hl : Word l) (hu : Word u) (w : World) :
    Calls Try.prog 7 #[.agg #[.int .u64 (l0 b), .int .u64 (l1 b), .int .u64 (l2 b), .int .u64 (l3 b)], .int .u64 l, .int .u64 u] w fun e w' => e = .returned (.tuple #[.agg #[.int .u64 (l0 (nbV b l u)), .int .u64 (l1 (nbV b l u)), .int .u64 (l2 (nbV b l u)), .int .u64 (l3 (nbV b l u))], .int .i64 (nbE b l u)]) ∧ Below w.heap.size w w' := by
  obtain ⟨p0, p1⟩ := hl
  obtain ⟨q0, q1⟩ := hu
  by_cases c : l < 2
  · rw [show nbV b l u = 0 by unfold nbV; rw [if_pos c], show nbE b l u = 1 by unfold nbE; rw [if_pos c]]
    obtain ⟨z0, z1, z2, z3⟩ := zero_limbs
    rw [z0, z1, z2, z3]
    exact nb_low c w
  by_cases c2 : l < u
  · rw [show nbV b l u = 0 by unfold nbV; rw [if_neg c, if_pos c2], show nbE b l u = 184 by unfold nbE; rw [if_neg c, if_pos c2]]
    obtain ⟨z0, z1, z2, z3⟩ := zero_limbs
    rw [z0, z1, z2, z3]
    exact nb_over c c2 w
  have ht : Word (l / 2) := ⟨by omega, by omega⟩
  by_cases c3 : l / 2 < u
  · rw [show nbV b l u = wideV (b + riseN b (u - l / 2) (l / 2)) by unfold nbV; rw [if_neg c, if_neg c2, if_pos c3], show nbE b l u = wideE (b + riseN b (u - l / 2) (l / 2)) by unfold nbE; rw [if_neg c, if_neg c2, if_pos c3]]
    have ho : Word (u - l / 2) := ⟨by omega, by omega⟩
    exact nb_rise p0 p1 q0 q1 c c2 c3 (fun w => rise_any hb ho ht (by omega) (by omega) w) (fun w => plus_any hb (rise_Num hb ho.1 (by omega) (by omega)) w) w
  by_cases c4 : u < l / 2
  · rw [show nbV b l u = b - stepN b (l / 2 - u) (l / 2) by unfold nbV; rw [if_neg c, if_neg c2, if_neg c3, if_pos c4], show nbE b l u = 0 by unfold nbE; rw [if_neg c, if_neg c2, if_neg c3]]
    have ho : Word (l / 2 - u) := ⟨by omega, by omega⟩
    have ns := step_Num (b := b) (o := l / 2 - u) (t := l / 2) hb ho.1 (by omega) (by omega)
    have le : stepN b (l / 2 - u) (l / 2) ≤ b * 1 / 8 := stepN_le hb.1 (by omega) (by omega)
    refine nb_fall (q := stepN b (l / 2 - u) (l / 2)) (er := 0) p0 p1 q0 q1 c c2 c3 c4 (fun w => step_any hb ho ht (by omega) (by omega) w) (fun w => ?_) w
    have := sub_any hb ns w
    obtain ⟨b0, b1⟩ := hb
    have n0 := ns.1
    rw [show difN b (stepN b (l / 2 - u) (l / 2)) = b - stepN b (l / 2 - u) (l / 2) from Int.emod_eq_of_lt (by omega) (by omega), show borN b (stepN b (l / 2 - u) (l / 2)) = 0 from if_neg (by omega)] at this
    exact this
  · rw [show nbV b l u = b by unfold nbV; rw [if_neg c, if_neg c2, if_neg c3, if_neg c4], show nbE b l u = 0 by unfold nbE; rw [if_neg c, if_neg c2, if_neg c3]]
    exact nb_same p0 p1 c c2 c3 c4 w
end Go.Proofs.Ytmegdnalpaddmaa
