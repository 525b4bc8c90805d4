import Derived.Test.YtllfmlgnemkklaaDoorNum
import Derived.Test.YtllfmlgnemkklaaDoorRows
import Derived.ProofKit
import Derived.OpenShut
import Derived.Lib.SmallJoins
namespace Go.Proofs.YtllfmlgnemkklaaDoor
open Go.ChangeShapes Go.WideShapes Go.ChangeAt Go.RowKit

theorem Tryd.cellsN : Tryd.prog.cellsOf 24 = 4 := by kernel_rfl
theorem Tryd.cellsW : Tryd.prog.cellsOf 22 = 1 := by kernel_rfl

theorem word_of_wf {x : Int} (h : (Lit.int .u64 x).wf = true) : Word x := by
  simp [Lit.wf, IntKind.min, IntKind.max, IntKind.signed, IntKind.bits] at h
  exact ⟨by omega, by omega⟩
section
variable {H : Type} {enc : TypeId × Value → H} {w : World} {base : Nat} {spare : Nat → Bool} {held : Bool}

end
end Go.Proofs.YtllfmlgnemkklaaDoor
