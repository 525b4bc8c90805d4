import Derived.Test.YtncpjgpioajbeaaGreatDoorERecA
namespace Go.Proofs.YtncpjgpioajbeaaGreatDoor
open Go.RowKit Go.Sort

theorem smul_modE {p : EC.Pt} (hp : EC.On p) (k : Nat) : EC.smul (k % 115792089237316195423570985008687907852837564279074904382605163141518161494337) p = EC.smul k p := by
  have e := Nat.div_add_mod k 115792089237316195423570985008687907852837564279074904382605163141518161494337
  conv => rhs; rw [← e]
  rw [EC.smul_add hp, EC.smul_mul hp, EC.ord_all hp, EC.smul_o]
  rfl
/-- The multiple of a point by a number modulo n. -/
def sm (a : Int) (P : EC.Pt) : EC.Pt := EC.smul (modN nN a).toNat P
theorem sm_nat {a : Int} {P : EC.Pt} (hP : EC.On P) (h : 0 ≤ a) : EC.smul a.toNat P = sm a P := by
  unfold sm
  rw [← smul_modE hP a.toNat]
  have e : a.toNat % 115792089237316195423570985008687907852837564279074904382605163141518161494337 = (modN nN a).toNat := by
    show _ = (a % nN).toNat
    rw [EC.nN_is]
    omega
  rw [e]
theorem sm_eq {a b : Int} {P : EC.Pt} (h : modN nN a = modN nN b) : sm a P = sm b P := by unfold sm; rw [h]
theorem sm_add {a b : Int} {P : EC.Pt} (hP : EC.On P) : sm (a + b) P = (sm a P).add (sm b P) := by
  have a0 := (mod_small (x := a)).1
  have b0 := (mod_small (x := b)).1
  rw [sm_eq (show modN nN (a + b) = modN nN (modN nN a + modN nN b) by rw [modN_add_l, modN_add_r]), ← sm_nat hP (by omega), Int.toNat_add a0 b0, EC.smul_add hP]
  rfl
theorem sm_mul {a b : Int} {P : EC.Pt} (hP : EC.On P) : sm (a * b) P = sm a (sm b P) := by
  have a0 := (mod_small (x := a)).1
  have b0 := (mod_small (x := b)).1
  rw [sm_eq (show modN nN (a * b) = modN nN (modN nN b * modN nN a) by rw [modN_mul_l, modN_mul_r, Int.mul_comm]), ← sm_nat hP (Int.mul_nonneg b0 a0), Int.toNat_mul b0 a0, EC.smul_mul hP]
  rfl
theorem recB_mul {r : Int} {A : List Int} (hr : 0 ≤ r) (hz : modN nN r ≠ 0) : modN nN (r * recB r A) = modN nN (0 - dgN A) := by
  have i := EC.inv_n hr hz
  unfold recB
  rw [modN_mul_r, show r * (modN nN (0 - dgN A) * invN nN r) = modN nN (0 - dgN A) * (r * invN nN r) by rw [Int.mul_left_comm], ← modN_mul_r, i, Int.mul_one, modN_mod]
theorem recC_mul {r s : Int} (hr : 0 ≤ r) (hz : modN nN r ≠ 0) : modN nN (r * recC r s) = modN nN s := by
  have i := EC.inv_n hr hz
  unfold recC
  rw [modN_mul_r, show r * (s * invN nN r) = s * (r * invN nN r) by rw [Int.mul_left_comm], ← modN_mul_r, i, Int.mul_one]
end Go.Proofs.YtncpjgpioajbeaaGreatDoor
