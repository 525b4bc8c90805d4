import Derived.Test.YtmegdnalpaddmaaFeA
import Derived.Test.YtmegdnalpaddmaaDivs
namespace Go.Proofs.Ytmegdnalpaddmaa
open Go.RowKit Go.Sort

theorem step_any {b o t : Int} (hb : Num b) (ho : Word o) (ht : Word t) (t0 : 0 < t) (h : o ≤ 2 * t) (w : World) :
    Calls Try.prog 20 #[.agg #[.int .u64 (l0 b), .int .u64 (l1 b), .int .u64 (l2 b), .int .u64 (l3 b)], .int .u64 o, .int .u64 t] w fun e w' => e = .returned (.agg #[.int .u64 (l0 (stepN b o t)), .int .u64 (l1 (stepN b o t)), .int .u64 (l2 (stepN b o t)), .int .u64 (l3 (stepN b o t))]) ∧ Below w.heap.size w w' := by
  have t1 := ht.2
  have n8 : Num 8 := ⟨by decide, by decide⟩
  have nt : Num (8 * t) := ⟨by omega, by omega⟩
  refine step_walk ho ht (fun w => ?_) (fun w => ?_) w
  · have := mul_any n8 ht.num w
    rw [show hiN 8 t = 0 by unfold hiN; omega, show loN 8 t = 8 * t by unfold loN; omega] at this
    exact this
  · have := mulDiv_any hb ho.num nt (by omega) w
    rw [if_pos (show b * o / (8 * t) < 115792089237316195423570985008687907853269984665640564039457584007913129639936 from (step_Num hb ho.1 t0 h).2)] at this
    exact this

theorem rise_any {b o t : Int} (hb : Num b) (ho : Word o) (ht : Word t) (t0 : 0 < t) (h : o ≤ 2 * t) (w : World) :
    Calls Try.prog 19 #[.agg #[.int .u64 (l0 b), .int .u64 (l1 b), .int .u64 (l2 b), .int .u64 (l3 b)], .int .u64 o, .int .u64 t] w fun e w' => e = .returned (.agg #[.int .u64 (l0 (riseN b o t)), .int .u64 (l1 (riseN b o t)), .int .u64 (l2 (riseN b o t)), .int .u64 (l3 (riseN b o t))]) ∧ Below w.heap.size w w' := by
  have nq := step_Num hb ho.1 t0 h
  by_cases c : stepN b o t = 0
  · rw [show riseN b o t = 1 from if_pos c]
    refine rise_one (q := stepN b o t) (fun w => step_any hb ho ht t0 h w) (fun w => ?_) w
    rw [eq_zero nq, decide_eq_true c]
  · rw [show riseN b o t = stepN b o t from if_neg c]
    refine rise_more (fun w => step_any hb ho ht t0 h w) (fun w => ?_) w
    rw [eq_zero nq, decide_eq_false c]

theorem nb_any {b l u : Int} (hb : Num b) (hl : Word l) (hu : Word u) (w : World) :
    Calls Try.prog 7 #[.agg #[.int .u64 (l0 b), .int .u64 (l1 b), .int .u64 (l2 b), .int .u64 (l3 b)], .int .u64 l, .int .u64 u] w fun e w' => e = .returned (.tuple #[.agg #[.int .u64 (l0 (nbV b l u)), .int .u64 (l1 (nbV b l u)), .int .u64 (l2 (nbV b l u)), .int .u64 (l3 (nbV b l u))], .int .i64 (nbE b l u)]) ∧ Below w.heap.size w w' := by
  obtain ⟨p0, p1⟩ := hl
  obtain ⟨q0, q1⟩ := hu
  by_cases c : l < 2
  · rw [show nbV b l u = 0 by unfold nbV; rw [if_pos c], show nbE b l u = 1 by unfold nbE; rw [if_pos c]]
    obtain ⟨z0, z1, z2, z3⟩ := zero_limbs
    rw [z0, z1, z2, z3]
    exact nb_low c w
  by_cases c2 : l < u
  · rw [show nbV b l u = 0 by unfold nbV; rw [if_neg c, if_pos c2], show nbE b l u = 184 by unfold nbE; rw [if_neg c, if_pos c2]]
    obtain ⟨z0, z1, z2, z3⟩ := zero_limbs
    rw [z0, z1, z2, z3]
    exact nb_over c c2 w
  have ht : Word (l / 2) := ⟨by omega, by omega⟩
  by_cases c3 : l / 2 < u
  · rw [show nbV b l u = wideV (b + riseN b (u - l / 2) (l / 2)) by unfold nbV; rw [if_neg c, if_neg c2, if_pos c3], show nbE b l u = wideE (b + riseN b (u - l / 2) (l / 2)) by unfold nbE; rw [if_neg c, if_neg c2, if_pos c3]]
    have ho : Word (u - l / 2) := ⟨by omega, by omega⟩
    exact nb_rise p0 p1 q0 q1 c c2 c3 (fun w => rise_any hb ho ht (by omega) (by omega) w) (fun w => plus_any hb (rise_Num hb ho.1 (by omega) (by omega)) w) w
  by_cases c4 : u < l / 2
  · rw [show nbV b l u = b - stepN b (l / 2 - u) (l / 2) by unfold nbV; rw [if_neg c, if_neg c2, if_neg c3, if_pos c4], show nbE b l u = 0 by unfold nbE; rw [if_neg c, if_neg c2, if_neg c3]]
    have ho : Word (l / 2 - u) := ⟨by omega, by omega⟩
    have ns := step_Num (b := b) (o := l / 2 - u) (t := l / 2) hb ho.1 (by omega) (by omega)
    have le : stepN b (l / 2 - u) (l / 2) ≤ b * 1 / 8 := stepN_le hb.1 (by omega) (by omega)
    refine nb_fall (q := stepN b (l / 2 - u) (l / 2)) (er := 0) p0 p1 q0 q1 c c2 c3 c4 (fun w => step_any hb ho ht (by omega) (by omega) w) (fun w => ?_) w
    have := sub_any hb ns w
    obtain ⟨b0, b1⟩ := hb
    have n0 := ns.1
    rw [show difN b (stepN b (l / 2 - u) (l / 2)) = b - stepN b (l / 2 - u) (l / 2) from Int.emod_eq_of_lt (by omega) (by omega), show borN b (stepN b (l / 2 - u) (l / 2)) = 0 from if_neg (by omega)] at this
    exact this
  · rw [show nbV b l u = b by unfold nbV; rw [if_neg c, if_neg c2, if_neg c3, if_neg c4], show nbE b l u = 0 by unfold nbE; rw [if_neg c, if_neg c2, if_neg c3]]
    exact nb_same p0 p1 c c2 c3 c4 w
end Go.Proofs.Ytmegdnalpaddmaa
