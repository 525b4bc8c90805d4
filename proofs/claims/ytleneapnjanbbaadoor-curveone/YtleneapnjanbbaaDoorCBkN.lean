import Derived.Test.YtleneapnjanbbaaDoorCSumK
import Derived.Test.YtleneapnjanbbaaDoorFRoot
import Derived.Test.YtleneapnjanbbaaDoorCAdd
import Derived.Test.YtleneapnjanbbaaDoorGet
import Derived.Test.YtleneapnjanbbaaDoorRowB
import Derived.Test.YtleneapnjanbbaaDoorCFp
namespace Go.Proofs.YtleneapnjanbbaaDoor
open Go.RowKit Go.Sort

def oddC (y : Int) : Bool := decide (bitN y 0 = 1)
theorem odd_turnedC {X Y : Int} (h : Vd X Y false) : oddC (modN pN (0 - Y)) = !oddC Y := by
  have hy : Y ≠ 0 := fun e => by
    subst e
    have h0 : EC.fp 0 * EC.fp 0 = EC.fp X * EC.fp X * EC.fp X + 7 := h.2.2
    rw [EC.fp_zero] at h0
    refine EC.no_two_p (EC.fp X) ?_
    rw [← h0]
    decide +kernel
  obtain ⟨a, b⟩ := h.2.1
  have e : modN pN (0 - Y) = pN - Y := by
    unfold modN
    have : (0 - Y) % pN = (0 - Y + pN) % pN := by rw [Int.add_emod_right]
    rw [this, Int.emod_eq_of_lt (by omega) (by omega)]
    omega
  rw [EC.pN_is] at b
  rw [e, EC.pN_is]
  unfold oddC bitN
  rw [if_neg (by decide), if_neg (by decide)]
  simp only [show (0 : Int).toNat = 0 from rfl, Int.pow_zero, Int.ediv_one]
  by_cases h1 : Y % 2 = 1
  · rw [decide_eq_true h1, decide_eq_false (by omega)]; rfl
  · rw [decide_eq_false h1, decide_eq_true (by omega)]; rfl
theorem neg_vdC {x y : Int} (hp : Vd x y false) : Vd x (modN pN (0 - y)) false := by
  have e : ptOf x (modN pN (0 - y)) false = (ptOf x y false).neg := by
    show EC.Pt.a _ (EC.fp (modN pN (0 - y))) = EC.Pt.a _ (-EC.fp y)
    rw [EC.fp_mod, EC.fp_sub, EC.fp_zero]
    congr 1
  exact ⟨hp.1, EC.low_mod _, by rw [e]; exact EC.on_neg hp.on⟩
theorem lift_vdC {x : Int} (hx : Num x) (h : liftOk x) (i : Bool) : Vd x (liftY i x) false := by
  obtain ⟨h1, h2⟩ := h
  have lx : EC.Low x := ⟨hx.1, h1⟩
  have hc : modN pN (powN pN (cubN x) qN * powN pN (cubN x) qN) = modN pN (cubN x) := by
    unfold rootE at h2
    by_cases e : modN pN (powN pN (cubN x) qN * powN pN (cubN x) qN) = modN pN (cubN x)
    · exact e
    · rw [if_neg e] at h2; exact absurd h2 (by decide)
  have hr := root_back hc
  have lr : EC.Low (rootN (cubN x)) := by
    have := even_one (powN_lt fit_p (cubN x) qN).1 (powN_lt fit_p (cubN x) qN).2
    unfold rootN
    rw [if_pos hc]
    exact ⟨this.2.1, this.2.2.1⟩
  have base : Vd x (rootN (cubN x)) false := by
    refine ⟨lx, lr, ?_⟩
    have e := congrArg EC.fp hr
    unfold cubN at e
    simp only [EC.fp_mod, EC.fp_mul, EC.fp_add] at e
    rw [show EC.fp 7 = 7 by decide +kernel] at e
    show EC.fp _ * EC.fp _ = _
    unfold cubN
    exact e
  have el : liftY i x = if i then modN pN (0 - rootN (cubN x)) else rootN (cubN x) := by
    unfold liftY; rw [if_pos ⟨h1, h2⟩]
  rw [el]
  cases i with
  | false => exact base
  | true => exact neg_vdC base

theorem lift_backC {X Y : Int} (h : Vd X Y false) : liftOk X ∧ liftY (oddC Y) X = Y := by
  obtain ⟨lx, ly, on⟩ := h
  have lc : EC.Low (cubN X) := modN_lt fit_p _
  have e : modN pN (Y * Y) = cubN X := by
    refine EC.fp_inj (modN_lt fit_p _) lc ?_
    have on' : EC.fp Y * EC.fp Y = EC.fp X * EC.fp X * EC.fp X + 7 := on
    unfold cubN
    simp only [EC.fp_mod, EC.fp_mul, EC.fp_add]
    rw [show EC.fp 7 = 7 by decide +kernel]
    exact on'
  obtain ⟨s1, s2, s3, s4, s5⟩ := square_is ly.1
  rw [e] at s1 s2 s3 s4 s5
  have ok : liftOk X := ⟨lx.2, s1⟩
  refine ⟨ok, ?_⟩
  have hY : modN pN Y = Y := modN_of_lt ly.1 ly.2
  rw [hY] at s2
  have o0 : oddC (rootN (cubN X)) = false := by
    unfold oddC bitN
    simp
    omega
  unfold liftY
  rw [if_pos ok]
  rcases s2 with s2 | s2
  · rw [s2] at o0
    rw [o0, s2]
    rfl
  · have hr : Vd X (rootN (cubN X)) false := by
      have := lift_vdC lx.num ok false
      rwa [show liftY false X = rootN (cubN X) by unfold liftY; rw [if_pos ok]; rfl] at this
    have t := odd_turnedC hr
    rw [s2, o0] at t
    rw [t, s2]
    rfl
end Go.Proofs.YtleneapnjanbbaaDoor
