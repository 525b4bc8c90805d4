import Derived.Test.YtkbmonlbgnnjlaaDoorRxK
import Derived.Test.YtkbmonlbgnnjlaaDoorRows
import Derived.ProofKit
import Derived.OpenShut
import Derived.Carry
import Derived.ChangeSlices
import Derived.ChangeMaps5
import Derived.Deep.Slices
/- Layer 7: trees as arguments. -/
namespace Go.Proofs.YtkbmonlbgnnjlaaDoor.tt
open Go.ChangeShapes Go.WideShapes Go.ChangeAt Go.RowKit Go.Deep

theorem laidOut : laidOutB Tryd.prog = true := by kernel_rfl
theorem ownT : ownKnob Tryd.prog.godebug = none := by kernel_rfl
theorem cells5 : Tryd.prog.cellsOf 5 = 1 := by kernel_rfl
theorem cellsI : Tryd.prog.cellsOf 39 = 3 := by kernel_rfl
theorem list_of {α : Type} {p : Nat → α → Prop} (z : α) : ∀ n, (∀ i, i < n → ∃ a, p i a) → ∃ L : List α, L.length = n ∧ ∀ i, i < n → p i (L.getD i z)
  | 0, _ => ⟨[], rfl, fun _ h => absurd h (Nat.not_lt_zero _)⟩
  | n + 1, h => by
    obtain ⟨L, hl, hp⟩ := list_of z n fun i hi => h i (by omega)
    obtain ⟨a, ha⟩ := h n (by omega)
    refine ⟨L ++ [a], by simp [hl], fun i hi => ?_⟩
    by_cases e : i = n
    · subst e; simpa [List.getD, ← hl] using ha
    · have h1 := hp i (by omega)
      simpa [List.getD, List.getElem?_append_left (show i < L.length by omega)] using h1
mutual
/-- All texts are bytes. -/
def BysT : Tr → Prop
  | .mk _ X ts => Bys X ∧ BysS ts
def BysS : List Tr → Prop
  | [] => True
  | t :: ts => BysT t ∧ BysS ts
end
theorem BysS.of : ∀ {ts : List Tr}, (∀ i, i < ts.length → BysT (ts.getD i zT)) → BysS ts
  | [], _ => by rw [BysS]; trivial
  | t :: ts, h => by
    rw [BysS]
    exact ⟨by simpa using h 0 (by simp), BysS.of fun i hi => by simpa using h (i + 1) (by simpa using hi)⟩
section
variable {H : Type} {enc : TypeId × Value → H}
end
end Go.Proofs.YtkbmonlbgnnjlaaDoor.tt
