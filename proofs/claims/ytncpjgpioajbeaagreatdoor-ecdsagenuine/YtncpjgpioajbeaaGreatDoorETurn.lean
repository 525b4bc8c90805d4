import Derived.Test.YtncpjgpioajbeaaGreatDoorETb
namespace Go.Proofs.YtncpjgpioajbeaaGreatDoor
open Go.RowKit Go.Sort

/-- The opposite's value. -/
theorem neg_val {X Y : Int} {j : Bool} (h : Vd X Y j) : Vd X (modN pN (0 - Y)) j ∧ ptOf X (modN pN (0 - Y)) j = (ptOf X Y j).neg := by
  cases j with
  | true => obtain ⟨rfl, rfl⟩ := h; exact ⟨⟨rfl, rfl⟩, rfl⟩
  | false =>
    have en : EC.fp (modN pN (0 - Y)) = -EC.fp Y := by
      rw [EC.fp_mod, EC.fp_sub, EC.fp_zero]
      generalize EC.fp Y = y
      grind -lia -linarith
    have e : ptOf X (modN pN (0 - Y)) false = (ptOf X Y false).neg := by
      show EC.Pt.a _ _ = EC.Pt.a _ _
      rw [en]
    refine ⟨⟨h.1, EC.low_mod _, ?_⟩, e⟩
    rw [e]
    have h0 : EC.fp Y * EC.fp Y = EC.fp X * EC.fp X * EC.fp X + 7 := h.2.2
    show -EC.fp Y * -EC.fp Y = EC.fp X * EC.fp X * EC.fp X + 7
    generalize EC.fp Y = y at *; generalize EC.fp X = x at *
    grind -lia -linarith
theorem low_turned {s : Int} (h0 : 0 < s) (h1 : s < nN) : lowN (modN nN (0 - s)) = !lowN s := by
  unfold lowN
  rw [neg_small h0 h1, half_n, n_lit]
  by_cases h : s ≤ 57896044618658097711785492504343953926418782139537452191302581570759080747168
  · rw [decide_eq_true h, decide_eq_false (by omega)]; rfl
  · rw [decide_eq_false h, decide_eq_true (by rw [n_lit] at h1; omega)]; rfl
theorem odd_turned {X Y : Int} (h : Vd X Y false) : oddB (modN pN (0 - Y)) = !oddB Y := by
  have hy : Y ≠ 0 := fun e => by
    subst e
    have h0 : EC.fp 0 * EC.fp 0 = EC.fp X * EC.fp X * EC.fp X + 7 := h.2.2
    rw [EC.fp_zero] at h0
    refine EC.no_two_p (EC.fp X) ?_
    rw [← h0]
    decide +kernel
  obtain ⟨a, b⟩ := h.2.1
  have e : modN pN (0 - Y) = pN - Y := by
    unfold modN
    have : (0 - Y) % pN = (0 - Y + pN) % pN := by rw [Int.add_emod_right]
    rw [this, Int.emod_eq_of_lt (by omega) (by omega)]
    omega
  rw [EC.pN_is] at b
  rw [e, EC.pN_is]
  unfold oddB bitN
  rw [if_neg (by decide), if_neg (by decide)]
  simp only [show (0 : Int).toNat = 0 from rfl, Int.pow_zero, Int.ediv_one]
  by_cases h1 : Y % 2 = 1
  · rw [decide_eq_true h1, decide_eq_false (by omega)]; rfl
  · rw [decide_eq_false h1, decide_eq_true (by omega)]; rfl
theorem turned_pt {non : Int} (h0 : 0 < non) (h1 : non < nN) : EC.smul (modN nN (0 - non)).toNat EC.gJ.pt = (EC.smul non.toNat EC.gJ.pt).neg := by
  rw [neg_small h0 h1]
  have hn : non.toNat ≤ 115792089237316195423570985008687907852837564279074904382605163141518161494337 := by rw [n_lit] at h1; omega
  rw [EC.base_g.neg hn]
  congr 1
  rw [n_lit]; omega
end Go.Proofs.YtncpjgpioajbeaaGreatDoor
