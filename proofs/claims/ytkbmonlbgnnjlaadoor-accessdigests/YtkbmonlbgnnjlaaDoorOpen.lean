import Derived.Test.YtkbmonlbgnnjlaaDoorNum
import Derived.Test.YtkbmonlbgnnjlaaDoorRows
import Derived.ProofKit
import Derived.OpenShut
import Derived.Lib.SmallJoins
namespace Go.Proofs.YtkbmonlbgnnjlaaDoor
open Go.ChangeShapes Go.WideShapes Go.ChangeAt Go.RowKit

theorem Tryd.own : ownKnob Tryd.prog.godebug = none := by kernel_rfl
theorem Tryd.cellsN : Tryd.prog.cellsOf 24 = 4 := by kernel_rfl
theorem Tryd.cellsW : Tryd.prog.cellsOf 22 = 1 := by kernel_rfl

theorem word_of_wf {x : Int} (h : (Lit.int .u64 x).wf = true) : Word x := by
  simp [Lit.wf, IntKind.min, IntKind.max, IntKind.signed, IntKind.bits] at h
  exact ⟨by omega, by omega⟩
/-- How a number reads. -/
def dat {H : Type} (n : Int) : DataW H := .agg [.lit (.int .u64 (l0 n)), .lit (.int .u64 (l1 n)), .lit (.int .u64 (l2 n)), .lit (.int .u64 (l3 n))]

section
variable {H : Type} {enc : TypeId × Value → H} {w : World} {base : Nat} {spare : Nat → Bool} {held : Bool}

end
end Go.Proofs.YtkbmonlbgnnjlaaDoor
