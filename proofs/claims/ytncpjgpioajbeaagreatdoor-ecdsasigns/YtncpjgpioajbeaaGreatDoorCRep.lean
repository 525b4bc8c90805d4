import Derived.Test.YtncpjgpioajbeaaGreatDoorCOps
namespace Go.Proofs.YtncpjgpioajbeaaGreatDoor
open Go.RowKit Go.Sort
theorem fp_cast (u : EC.F) : EC.fp (u.val : Int) = u := by
  apply Fin.ext
  rw [EC.fp_val]
  have := u.isLt
  omega
/-- Every point has its value. -/
theorem rep_pt {p : EC.Pt} (h : EC.On p) : ∃ x y i, Vd x y i ∧ ptOf x y i = p := by
  cases p with
  | o => exact ⟨0, 0, true, ⟨rfl, rfl⟩, rfl⟩
  | a u v =>
    have e : ptOf (u.val : Int) (v.val : Int) false = .a u v := by
      show EC.Pt.a _ _ = _
      rw [fp_cast, fp_cast]
    exact ⟨u.val, v.val, false, ⟨EC.fp_low u, EC.fp_low v, by rw [e]; exact h⟩, e⟩
end Go.Proofs.YtncpjgpioajbeaaGreatDoor
