import Derived.Test.YtncpjgpioajbeaaDoorFBin
import Derived.Laws.StructEq
import Derived.Test.YtncpjgpioajbeaaDoorCFp
namespace Go.Proofs.YtncpjgpioajbeaaDoor
open Go.RowKit Go.Sort

end Go.Proofs.YtncpjgpioajbeaaDoor

namespace Go.Proofs.YtncpjgpioajbeaaDoor
open Go.RowKit Go.Sort

/-- The point that a value stands for. -/
def ptOf (x y : Int) (i : Bool) : EC.Pt := if i then .o else .a (EC.fp x) (EC.fp y)
/-- It stands for one. -/
def Vd (x y : Int) (i : Bool) : Prop := if i then x = 0 ∧ y = 0 else EC.Low x ∧ EC.Low y ∧ EC.On (ptOf x y false)
instance (x : Int) : Decidable (EC.Low x) := inferInstanceAs (Decidable (_ ∧ _))
instance (x y : Int) : Decidable (EC.On (ptOf x y false)) := inferInstanceAs (Decidable (_ = _))
instance (x y : Int) (i : Bool) : Decidable (Vd x y i) := by unfold Vd; cases i <;> infer_instance
theorem Vd.on {x y : Int} {i : Bool} (h : Vd x y i) : EC.On (ptOf x y i) := by
  cases i with
  | true => exact EC.on_o
  | false => exact h.2.2
theorem Vd.low {x y : Int} {i : Bool} (h : Vd x y i) : EC.Low x ∧ EC.Low y := by
  cases i with
  | true => obtain ⟨rfl, rfl⟩ := h; exact ⟨⟨by decide, by decide⟩, ⟨by decide, by decide⟩⟩
  | false => exact ⟨h.1, h.2.1⟩
theorem Vd.inj {x y x' y' : Int} {i j : Bool} (h : Vd x y i) (h' : Vd x' y' j) (e : ptOf x y i = ptOf x' y' j) : x = x' ∧ y = y' ∧ i = j := by
  cases i <;> cases j
  · have e' : EC.Pt.a (EC.fp x) (EC.fp y) = .a (EC.fp x') (EC.fp y') := e
    injection e' with e1 e2
    exact ⟨EC.fp_inj h.1 h'.1 e1, EC.fp_inj h.2.1 h'.2.1 e2, rfl⟩
  · have e' : EC.Pt.a (EC.fp x) (EC.fp y) = .o := e
    cases e'
  · have e' : EC.Pt.o = .a (EC.fp x') (EC.fp y') := e
    cases e'
  · obtain ⟨rfl, rfl⟩ := h; obtain ⟨rfl, rfl⟩ := h'; exact ⟨rfl, rfl, rfl⟩

end Go.Proofs.YtncpjgpioajbeaaDoor
