import Derived.Test.YtncpjgpioajbeaaGreatDoorESW
import Derived.Test.YtncpjgpioajbeaaGreatDoorRowB
import Derived.Maps.AppendAt
import Derived.Lib.AppendZerosOnto
import Derived.Test.YtncpjgpioajbeaaGreatDoorGet
import Derived.Test.YtncpjgpioajbeaaGreatDoorCTrs
namespace Go.Proofs.YtncpjgpioajbeaaGreatDoor
open Go.RowKit Go.Sort

/-- Lift finds the point again. -/
theorem lift_back {X Y : Int} (h : Vd X Y false) : liftOk X ∧ liftY (oddB Y) X = Y := by
  obtain ⟨lx, ly, on⟩ := h
  have lc : EC.Low (cubN X) := modN_lt fit_p _
  have e : modN pN (Y * Y) = cubN X := by
    refine EC.fp_inj (modN_lt fit_p _) lc ?_
    have on' : EC.fp Y * EC.fp Y = EC.fp X * EC.fp X * EC.fp X + 7 := on
    unfold cubN
    simp only [EC.fp_mod, EC.fp_mul, EC.fp_add]
    rw [show EC.fp 7 = 7 by decide +kernel]
    exact on'
  obtain ⟨s1, s2, s3, s4, s5⟩ := square_is ly.1
  rw [e] at s1 s2 s3 s4 s5
  have ok : liftOk X := ⟨lx.2, s1⟩
  refine ⟨ok, ?_⟩
  have hY : modN pN Y = Y := modN_of_lt ly.1 ly.2
  rw [hY] at s2
  have o0 : oddB (rootN (cubN X)) = false := by
    unfold oddB bitN
    simp
    omega
  unfold liftY
  rw [if_pos ok]
  rcases s2 with s2 | s2
  · rw [s2] at o0
    rw [o0, s2]
    rfl
  · have hr : Vd X (rootN (cubN X)) false := by
      have := lift_vd lx.num ok false
      rwa [show liftY false X = rootN (cubN X) by unfold liftY; rw [if_pos ok]; rfl] at this
    have t := odd_turned hr
    rw [s2, o0] at t
    rw [t, s2]
    rfl
theorem key_pt {key : Int} (h0 : 0 < key) (h1 : key < nN) : EC.smul key.toNat EC.gJ.pt ≠ .o := fun e => by
  have := EC.base_g.inj (i := key.toNat) (j := 0) (by rw [EC.nN_is] at h1; omega) (by decide) e
  omega
/-- The key of a signature that goes with the nonce k. -/
theorem key_back {r s e key k : Int} {G : EC.Pt} (hG : EC.On G) (hr : 0 ≤ r) (hz : modN nN r ≠ 0) (h : modN nN (s * k) = modN nN (e + r * key)) {B C : Int} (hB : modN nN (r * B) = modN nN (0 - e)) (hC : modN nN (r * C) = modN nN s) : (sm B G).add (sm C (sm k G)) = sm key G := by
  rw [← sm_mul hG, ← sm_add hG]
  refine sm_eq ?_
  have i := EC.inv_n hr hz
  have a : modN nN (r * (B + C * k)) = modN nN (r * key) := by
    rw [Int.mul_add, ← Int.mul_assoc, ← modN_add_l, hB, modN_add_l, ← modN_add_r, ← modN_mul_l, hC, modN_mul_l, h, modN_add_r]
    congr 1
    omega
  have b := congrArg (fun z => modN nN (invN nN r * z)) a
  simp only [modN_mul_r] at b
  rw [← Int.mul_assoc, ← Int.mul_assoc, ← modN_mul_l, Int.mul_comm (invN nN r), i, Int.one_mul] at b
  rw [b, ← modN_mul_l, i, Int.one_mul]
end Go.Proofs.YtncpjgpioajbeaaGreatDoor
