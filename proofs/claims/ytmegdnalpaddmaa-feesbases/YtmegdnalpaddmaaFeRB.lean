import Derived.Test.YtmegdnalpaddmaaFeR
import Derived.Test.YtmegdnalpaddmaaFeD
import Derived.Test.YtmegdnalpaddmaaDivs
namespace Go.Proofs.Ytmegdnalpaddmaa
open Go.RowKit Go.Sort

theorem rnb_any {b l u : Int} (hb : Num b) (hl : Word l) (hu : Word u) (w : World) :
    Calls Try.prog 14 #[.agg #[.int .u64 (l0 b), .int .u64 (l1 b), .int .u64 (l2 b), .int .u64 (l3 b)], .int .u64 l, .int .u64 u] w fun e w' => e = .returned (.tuple #[.agg #[.int .u64 (l0 (nbV b l u)), .int .u64 (l1 (nbV b l u)), .int .u64 (l2 (nbV b l u)), .int .u64 (l3 (nbV b l u))], .int .i64 (nbE b l u)]) ∧ Below w.heap.size w w' := by
  obtain ⟨p0, p1⟩ := hl
  obtain ⟨q0, q1⟩ := hu
  by_cases c : l < 2
  · rw [show nbV b l u = 0 by unfold nbV; rw [if_pos c], show nbE b l u = 1 by unfold nbE; rw [if_pos c]]
    obtain ⟨z0, z1, z2, z3⟩ := zero_limbs
    rw [z0, z1, z2, z3]
    exact rnb_low c w
  by_cases c2 : l < u
  · rw [show nbV b l u = 0 by unfold nbV; rw [if_neg c, if_pos c2], show nbE b l u = 184 by unfold nbE; rw [if_neg c, if_pos c2]]
    obtain ⟨z0, z1, z2, z3⟩ := zero_limbs
    rw [z0, z1, z2, z3]
    exact rnb_over c c2 w
  have ht : Word (l / 2) := ⟨by omega, by omega⟩
  have SL : ∀ w, Calls Try.prog 30 #[.agg #[.int .u64 (l0 (l / 2)), .int .u64 (l1 (l / 2)), .int .u64 (l2 (l / 2)), .int .u64 (l3 (l / 2))], .int .i64 3] w fun e w' => e = .returned (.agg #[.int .u64 (l0 (8 * (l / 2))), .int .u64 (l1 (8 * (l / 2))), .int .u64 (l2 (8 * (l / 2))), .int .u64 (l3 (8 * (l / 2)))]) ∧ Below w.heap.size w w' := fun w => by
    have := rshl_any (k := 3) ht.num w
    rw [show shlN (l / 2) 3 = 8 * (l / 2) by
      unfold shlN upN
      rw [if_neg (by decide), if_neg (by decide), show (2 : Int) ^ (3 : Int).toNat = 8 from rfl]
      omega] at this
    exact this
  have ng : Num (8 * (l / 2)) := ⟨by omega, by omega⟩
  by_cases c3 : u = l / 2
  · rw [show nbV b l u = b by unfold nbV; rw [if_neg c, if_neg c2, if_neg (by omega), if_neg (by omega)], show nbE b l u = 0 by unfold nbE; rw [if_neg c, if_neg c2, if_neg (by omega)]]
    exact rnb_same p0 p1 c c2 c3 ht SL w
  by_cases c4 : u < l / 2
  · rw [show nbV b l u = b - stepN b (l / 2 - u) (l / 2) by unfold nbV; rw [if_neg c, if_neg c2, if_neg (by omega), if_pos c4], show nbE b l u = 0 by unfold nbE; rw [if_neg c, if_neg c2, if_neg (by omega)]]
    have ho : Word (l / 2 - u) := ⟨by omega, by omega⟩
    have ns := step_Num (b := b) (o := l / 2 - u) (t := l / 2) hb ho.1 (by omega) (by omega)
    have le : stepN b (l / 2 - u) (l / 2) ≤ b * 1 / 8 := stepN_le hb.1 (by omega) (by omega)
    refine rnb_fall (q := stepN b (l / 2 - u) (l / 2)) (er := 0) p0 p1 q0 q1 c c2 c4 ht SL ho (fun w => ?_) (fun w => ?_) w
    · have := rmulDiv_any hb ho.num ng (by omega) w
      rw [if_pos (show b * (l / 2 - u) / (8 * (l / 2)) < 115792089237316195423570985008687907853269984665640564039457584007913129639936 from ns.2)] at this
      exact this
    · have := rsub_any hb ns w
      obtain ⟨b0, b1⟩ := hb
      have n0 := ns.1
      rw [show difN b (stepN b (l / 2 - u) (l / 2)) = b - stepN b (l / 2 - u) (l / 2) from Int.emod_eq_of_lt (by omega) (by omega), show borN b (stepN b (l / 2 - u) (l / 2)) = 0 from if_neg (by omega)] at this
      exact this
  have c5 : l / 2 < u := by omega
  rw [show nbV b l u = wideV (b + riseN b (u - l / 2) (l / 2)) by unfold nbV; rw [if_neg c, if_neg c2, if_pos c5], show nbE b l u = wideE (b + riseN b (u - l / 2) (l / 2)) by unfold nbE; rw [if_neg c, if_neg c2, if_pos c5]]
  have ho : Word (u - l / 2) := ⟨by omega, by omega⟩
  have ns := step_Num (b := b) (o := u - l / 2) (t := l / 2) hb ho.1 (by omega) (by omega)
  have nr := rise_Num (b := b) (o := u - l / 2) (t := l / 2) hb ho.1 (by omega) (by omega)
  have VM : ∀ w, Calls Try.prog 32 #[.agg #[.int .u64 (l0 b), .int .u64 (l1 b), .int .u64 (l2 b), .int .u64 (l3 b)], .agg #[.int .u64 (l0 (u - l / 2)), .int .u64 (l1 (u - l / 2)), .int .u64 (l2 (u - l / 2)), .int .u64 (l3 (u - l / 2))], .agg #[.int .u64 (l0 (8 * (l / 2))), .int .u64 (l1 (8 * (l / 2))), .int .u64 (l2 (8 * (l / 2))), .int .u64 (l3 (8 * (l / 2)))]] w fun e w' => e = .returned (.tuple #[.agg #[.int .u64 (l0 (stepN b (u - l / 2) (l / 2))), .int .u64 (l1 (stepN b (u - l / 2) (l / 2))), .int .u64 (l2 (stepN b (u - l / 2) (l / 2))), .int .u64 (l3 (stepN b (u - l / 2) (l / 2)))], .int .i64 0]) ∧ Below w.heap.size w w' := fun w => by
    have := rmulDiv_any hb ho.num ng (by omega) w
    rw [if_pos (show b * (u - l / 2) / (8 * (l / 2)) < 115792089237316195423570985008687907853269984665640564039457584007913129639936 from ns.2)] at this
    exact this
  have he : ∀ w, (Op.equalIn 10000 24 (.agg #[.int .u64 (l0 (stepN b (u - l / 2) (l / 2))), .int .u64 (l1 (stepN b (u - l / 2) (l / 2))), .int .u64 (l2 (stepN b (u - l / 2) (l / 2))), .int .u64 (l3 (stepN b (u - l / 2) (l / 2)))]) (.agg #[.int .u64 0, .int .u64 0, .int .u64 0, .int .u64 0])).run Try.prog w = .ok (decide (stepN b (u - l / 2) (l / 2) = 0)) w := fun w => eq_zero ns w
  have HZ : decide (stepN b (u - l / 2) (l / 2) = 0) = false ∧ (.agg #[.int .u64 (l0 (riseN b (u - l / 2) (l / 2))), .int .u64 (l1 (riseN b (u - l / 2) (l / 2))), .int .u64 (l2 (riseN b (u - l / 2) (l / 2))), .int .u64 (l3 (riseN b (u - l / 2) (l / 2)))] : Value) = .agg #[.int .u64 (l0 (stepN b (u - l / 2) (l / 2))), .int .u64 (l1 (stepN b (u - l / 2) (l / 2))), .int .u64 (l2 (stepN b (u - l / 2) (l / 2))), .int .u64 (l3 (stepN b (u - l / 2) (l / 2)))] ∨ decide (stepN b (u - l / 2) (l / 2) = 0) = true ∧ (.agg #[.int .u64 (l0 (riseN b (u - l / 2) (l / 2))), .int .u64 (l1 (riseN b (u - l / 2) (l / 2))), .int .u64 (l2 (riseN b (u - l / 2) (l / 2))), .int .u64 (l3 (riseN b (u - l / 2) (l / 2)))] : Value) = .agg #[.int .u64 1, .int .u64 0, .int .u64 0, .int .u64 0] := by
    by_cases hz : stepN b (u - l / 2) (l / 2) = 0
    · refine .inr ⟨decide_eq_true hz, ?_⟩
      rw [show riseN b (u - l / 2) (l / 2) = 1 from if_pos hz]
      rfl
    · refine .inl ⟨decide_eq_false hz, ?_⟩
      rw [show riseN b (u - l / 2) (l / 2) = stepN b (u - l / 2) (l / 2) from if_neg hz]
  by_cases c6 : b + riseN b (u - l / 2) (l / 2) < 115792089237316195423570985008687907853269984665640564039457584007913129639936
  · rw [show wideV (b + riseN b (u - l / 2) (l / 2)) = b + riseN b (u - l / 2) (l / 2) from if_pos c6, show wideE (b + riseN b (u - l / 2) (l / 2)) = 0 from if_pos c6]
    exact rnb_rise (t := true) p0 p1 q0 q1 c c2 c3 c4 ht SL ho VM he HZ (fun w => rsum_yes hb nr c6 w) w
  · rw [show wideV (b + riseN b (u - l / 2) (l / 2)) = 0 from if_neg c6, show wideE (b + riseN b (u - l / 2) (l / 2)) = 183 from if_neg c6]
    obtain ⟨z0, z1, z2, z3⟩ := zero_limbs
    rw [z0, z1, z2, z3]
    exact rnb_rise (t := false) p0 p1 q0 q1 c c2 c3 c4 ht SL ho VM he HZ (fun w => rsum_no hb nr c6 w) w
end Go.Proofs.Ytmegdnalpaddmaa

namespace Go.Proofs.Ytmegdnalpaddmaa
open Go.RowKit Go.Sort

theorem basesF_any {b l u : Int} (hb : Num b) (hl : Word l) (hu : Word u) (w : World) :
    Calls Try.prog 5 #[.agg #[.int .u64 (l0 b), .int .u64 (l1 b), .int .u64 (l2 b), .int .u64 (l3 b)], .int .u64 l, .int .u64 u] w fun e w' => e = .returned (.bool true) ∧ Below w.heap.size w w' :=
  bases_walk (fun w => nb_any hb hl hu w) (fun w => rnb_any hb hl hu w) w
end Go.Proofs.Ytmegdnalpaddmaa
