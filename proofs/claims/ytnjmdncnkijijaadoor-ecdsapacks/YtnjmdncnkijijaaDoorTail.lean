import Derived.StillTail
import Derived.BigQuiet
import Derived.Below
namespace Go.Proofs.YtnjmdncnkijijaaDoor

section
variable {P : Program} {ops : Array Oper} {w0 : World}

end

/-- A callee that only makes memory leaves every older cell and its mark. -/
theorem oldCells {W w1 : World} (h : Go.RowKit.Below W.heap.size W w1) (b o : Nat) (hb : b < W.heap.size) : w1.cell? ⟨b, o, none⟩ = W.cell? ⟨b, o, none⟩ ∧ w1.frozen? ⟨b, o, none⟩ = W.frozen? ⟨b, o, none⟩ :=
  ⟨h.cell hb, h.frozen hb⟩

end Go.Proofs.YtnjmdncnkijijaaDoor
