import Derived.Test.YtncpjgpioajbeaaGreatDoorERec
import Derived.Test.YtncpjgpioajbeaaGreatDoorFSqNum
import Derived.Test.YtncpjgpioajbeaaGreatDoorETurn
namespace Go.Proofs.YtncpjgpioajbeaaGreatDoor
open Go.RowKit Go.Sort

/-- What Lift finds is a point. -/
theorem lift_vd {x : Int} (hx : Num x) (h : liftOk x) (i : Bool) : Vd x (liftY i x) false := by
  obtain ⟨h1, h2⟩ := h
  have lx : EC.Low x := ⟨hx.1, h1⟩
  have hc : modN pN (powN pN (cubN x) qN * powN pN (cubN x) qN) = modN pN (cubN x) := by
    unfold rootE at h2
    by_cases e : modN pN (powN pN (cubN x) qN * powN pN (cubN x) qN) = modN pN (cubN x)
    · exact e
    · rw [if_neg e] at h2; exact absurd h2 (by decide)
  have hr := root_back hc
  have lr : EC.Low (rootN (cubN x)) := by
    have := even_one (powN_lt fit_p (cubN x) qN).1 (powN_lt fit_p (cubN x) qN).2
    unfold rootN
    rw [if_pos hc]
    exact ⟨this.2.1, this.2.2.1⟩
  have base : Vd x (rootN (cubN x)) false := by
    refine ⟨lx, lr, ?_⟩
    have e := congrArg EC.fp hr
    unfold cubN at e
    simp only [EC.fp_mod, EC.fp_mul, EC.fp_add] at e
    rw [show EC.fp 7 = 7 by decide +kernel] at e
    show EC.fp _ * EC.fp _ = _
    unfold cubN
    exact e
  have el : liftY i x = if i then modN pN (0 - rootN (cubN x)) else rootN (cubN x) := by
    unfold liftY; rw [if_pos ⟨h1, h2⟩]
  rw [el]
  cases i with
  | false => exact base
  | true => exact (neg_val base).1
end Go.Proofs.YtncpjgpioajbeaaGreatDoor
