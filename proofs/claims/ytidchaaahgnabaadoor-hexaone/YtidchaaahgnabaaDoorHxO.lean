import Derived.Test.YtidchaaahgnabaaDoorHxP
import Derived.ProofKit
import Derived.OpenShut
import Derived.SizedLaws
import Derived.Carry
import Derived.ChangeMaps5
import Derived.ChangeSlices
import Derived.Deep.Slices
/- Layer 8: addresses and digests as arguments. -/
namespace Go.Proofs.YtidchaaahgnabaaDoor.hx
open Go.ChangeShapes Go.WideShapes Go.ChangeAt Go.RowKit Go.Deep
theorem list_of {α : Type} {p : Nat → α → Prop} (z : α) : ∀ n, (∀ i, i < n → ∃ a, p i a) → ∃ L : List α, L.length = n ∧ ∀ i, i < n → p i (L.getD i z)
  | 0, _ => ⟨[], rfl, fun _ h => absurd h (Nat.not_lt_zero _)⟩
  | n + 1, h => by
    obtain ⟨L, hl, hp⟩ := list_of z n fun i hi => h i (by omega)
    obtain ⟨a, ha⟩ := h n (by omega)
    refine ⟨L ++ [a], by simp [hl], fun i hi => ?_⟩
    by_cases e : i = n
    · subst e; simpa [List.getD, ← hl] using ha
    · have h1 := hp i (by omega)
      simpa [List.getD, List.getElem?_append_left (show i < L.length by omega)] using h1
theorem mapM_all {α β : Type} {f : α → Option β} {g : α → β} : ∀ (l : List α), (∀ i ∈ l, f i = some (g i)) → l.mapM f = some (l.map g)
  | [], _ => rfl
  | a :: l, h => by
    rw [List.mapM_cons, h a (by simp), mapM_all l fun i hi => h i (by simp [hi])]
    rfl
theorem flat_nil {α β γ : Type} (f : α → β) : ∀ L : List α, ((L.map fun x => (f x, ([] : List γ))).flatMap (·.2)) = []
  | [] => rfl
  | _ :: L => by rw [List.map_cons, List.flatMap_cons, flat_nil f L]; rfl
/-- How a row of bytes reads. -/
noncomputable def dat {H : Type} (X : List Int) : DataW H := .agg (X.map fun x => .lit (.int .u8 x))
def Wfb (X : List Int) : Prop := ∀ x ∈ X, (Lit.int .u8 x).wf = true
section
variable {H : Type} {enc : TypeId × Value → H} {w : World} {base : Nat} {spare : Nat → Bool} {held : Bool}
end
section
variable {H : Type} {enc : TypeId × Value → H} {W : World}
end
theorem Wfb.low {X : List Int} (h : Wfb X) (i : Nat) : 0 ≤ X.getD i 0 ∧ X.getD i 0 < 256 := by
  by_cases hi : i < X.length
  · have := h (X.getD i 0) (by rw [List.getD, List.getElem?_eq_getElem hi]; exact List.getElem_mem hi)
    generalize X.getD i 0 = x at *
    simp [Lit.wf, IntKind.min, IntKind.max, IntKind.signed, IntKind.bits] at this
    exact ⟨by omega, by omega⟩
  · rw [List.getD, List.getElem?_eq_none (by omega)]; exact ⟨Int.le_refl _, by decide⟩
end Go.Proofs.YtidchaaahgnabaaDoor.hx
