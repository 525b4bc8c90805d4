import Derived.Test.YtncpjgpioajbeaaGreatDoorFInv
import Derived.Test.YtncpjgpioajbeaaGreatDoorFFermat
/- The numbers below p as a field. -/
namespace Go.Proofs.YtncpjgpioajbeaaGreatDoor.EC

abbrev F := Fin 115792089237316195423570985008687907853269984665640564039457584007908834671663

theorem pN_is : pN = 115792089237316195423570985008687907853269984665640564039457584007908834671663 := rfl
/-- A number modulo p. -/
def fp (n : Int) : F := ⟨(n % 115792089237316195423570985008687907853269984665640564039457584007908834671663).toNat, by omega⟩
theorem fp_val (n : Int) : (fp n).val = (n % 115792089237316195423570985008687907853269984665640564039457584007908834671663).toNat := rfl
theorem fp_int (n : Int) : ((fp n).val : Int) = n % 115792089237316195423570985008687907853269984665640564039457584007908834671663 := by
  rw [fp_val]; omega
theorem fp_mod (n : Int) : fp (modN pN n) = fp n := by
  apply Fin.ext; rw [fp_val, fp_val]; unfold modN; rw [pN_is]; omega
theorem fp_same {x y : Int} (h : fp x = fp y) : x % 115792089237316195423570985008687907853269984665640564039457584007908834671663 = y % 115792089237316195423570985008687907853269984665640564039457584007908834671663 := by
  rw [← fp_int, ← fp_int, h]
/-- A number of its own. -/
def Low (x : Int) : Prop := 0 ≤ x ∧ x < pN
theorem low_mod (x : Int) : Low (modN pN x) := modN_lt fit_p x
theorem Low.num {x : Int} (h : Low x) : Num x := by
  obtain ⟨a, b⟩ := h; rw [pN_is] at b; unfold Num; omega
theorem fp_inj {x y : Int} (hx : Low x) (hy : Low y) (h : fp x = fp y) : x = y := by
  have e := fp_same h
  obtain ⟨a, b⟩ := hx; obtain ⟨c, d⟩ := hy
  rw [pN_is] at b d
  omega
theorem fp_add (x y : Int) : fp (x + y) = fp x + fp y := by
  apply Fin.ext; rw [Fin.val_add, fp_val, fp_val, fp_val]; omega
theorem fp_sub (x y : Int) : fp (x - y) = fp x - fp y := by
  apply Fin.ext; rw [Fin.sub_def]
  show (fp (x - y)).val = (115792089237316195423570985008687907853269984665640564039457584007908834671663 - (fp y).val + (fp x).val) % 115792089237316195423570985008687907853269984665640564039457584007908834671663
  rw [fp_val, fp_val, fp_val]; omega
theorem fp_mul (x y : Int) : fp (x * y) = fp x * fp y := by
  apply Fin.ext
  have e : ((fp x * fp y).val : Int) = ((fp (x * y)).val : Int) := by
    rw [Fin.val_mul, Int.natCast_emod, Int.natCast_mul, fp_int, fp_int, fp_int]
    exact (Int.mul_emod _ _ _).symm
  omega
theorem fp_back (a : F) : fp (a.val : Int) = a := by
  apply Fin.ext; rw [fp_val]; have := a.isLt; omega
theorem fp_zero : fp 0 = 0 := by decide +kernel
theorem fp_one : fp 1 = 1 := by decide +kernel
theorem fp_low (a : F) : Low (a.val : Int) := ⟨by omega, by have := a.isLt; rw [pN_is]; omega⟩

/-- Over. -/
def iv (a : F) : F := fp (invN pN (a.val : Int))
theorem inv_mul {x : Int} (x0 : 0 ≤ x) (h : modN pN x ≠ 0) : modN pN (x * invN pN x) = 1 := by
  have e := powN_fermat prm_p x0 h
  unfold invN
  rw [Int.mul_comm, powN_next pN x (by decide), show pN - 2 + 1 = pN - 1 by decide]; exact e
theorem inv1 {a : F} (ha : a ≠ 0) : a * iv a = 1 := by
  have h : modN pN (a.val : Int) ≠ 0 := by
    intro e; apply ha; apply Fin.ext
    show a.val = 0
    unfold modN at e; rw [pN_is] at e; have := a.isLt; omega
  have e := inv_mul (by omega) h
  unfold iv
  conv => lhs; lhs; rw [← fp_back a]
  rw [← fp_mul, ← fp_mod, e, fp_one]
theorem fp_inv {x : Int} (h : Low x) : fp (invN pN x) = iv (fp x) := by
  unfold iv; rw [fp_int]
  obtain ⟨a, b⟩ := h
  rw [pN_is] at b
  rw [Int.emod_eq_of_lt a b]

end Go.Proofs.YtncpjgpioajbeaaGreatDoor.EC
