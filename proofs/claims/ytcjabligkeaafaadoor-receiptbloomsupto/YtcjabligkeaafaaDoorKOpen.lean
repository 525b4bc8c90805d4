import Derived.Test.YtcjabligkeaafaaDoorKBase
import Derived.Test.YtcjabligkeaafaaDoorKSpec
import Derived.ProofKit
import Derived.OpenShut
import Derived.Lib.LaidTab
import Derived.Stop.LaidErr
/- How 25 lanes are read; what the tables hold. -/
namespace Go.Proofs.YtcjabligkeaafaaDoor.K
open Go.ChangeShapes Go.WideShapes Go.ChangeAt Go.RowKit

theorem Tryd.cellsW : Tryd.prog.cellsOf 57 = 1 := by kernel_rfl

theorem list_of {α : Type} {p : Nat → α → Prop} (z : α) : ∀ n, (∀ i, i < n → ∃ a, p i a) → ∃ L : List α, L.length = n ∧ ∀ i, i < n → p i (L.getD i z)
  | 0, _ => ⟨[], rfl, fun _ h => absurd h (Nat.not_lt_zero _)⟩
  | n + 1, h => by
    obtain ⟨L, hl, hp⟩ := list_of z n fun i hi => h i (by omega)
    obtain ⟨a, ha⟩ := h n (by omega)
    refine ⟨L ++ [a], by simp [hl], fun i hi => ?_⟩
    by_cases e : i = n
    · subst e; simpa [List.getD, ← hl] using ha
    · have h1 := hp i (by omega)
      simpa [List.getD, List.getElem?_append_left (show i < L.length by omega)] using h1

section
variable {H : Type} {enc : TypeId × Value → H} {w : World} {base : Nat} {spare : Nat → Bool} {held : Bool}

end

/-! The tables. -/
def turnsZ : List Int := [0, 1, 62, 28, 27, 36, 44, 6, 55, 20, 3, 10, 43, 25, 39, 41, 45, 15, 21, 8, 18, 2, 61, 56, 14]
def marksZ : List Int := [1, 32898, 9223372036854808714, 9223372039002292224, 32907, 2147483649, 9223372039002292353, 9223372036854808585, 138, 136, 2147516425, 2147483658, 2147516555, 9223372036854775947, 9223372036854808713, 9223372036854808579, 9223372036854808578, 9223372036854775936, 32778, 9223372039002259466, 9223372039002292353, 9223372036854808704, 2147483649, 9223372039002292232]
theorem turns_same : ∀ i, i < 25 → turnsZ.getD i 0 = ((turnsN.getD i 0 : Nat) : Int) := by decide
theorem marks_same : ∀ i, i < 24 → marksZ.getD i 0 = ((marksN.getD i 0).toNat : Int) := by decide
theorem tab_of {W : World} {name : String} {g : Nat} (hg : Tryd.prog.globalNamed name = some g) (h : Lib.TabIs Tryd.prog W name .i64 turnsZ) : Tab W g turnsN := fun i hi => by
  rw [h.cell hg i hi, turns_same i hi]
theorem lns_of {W : World} {name : String} {g : Nat} (hg : Tryd.prog.globalNamed name = some g) (h : Lib.TabIs Tryd.prog W name .u64 marksZ) : Lns W g marksN := fun i hi => by
  rw [h.cell hg i hi, marks_same i hi, V_eq]
theorem cells24 : Tryd.prog.cellsOf 70 = 24 := by kernel_rfl
theorem cellsT : Tryd.prog.cellsOf 75 = 25 := by kernel_rfl
theorem cellsI : Tryd.prog.cellsOf 3 = 1 := by kernel_rfl
theorem g_turns : Tryd.prog.globalNamed "waybill/keccak.turns" = some 1 := by kernel_rfl
theorem g_marks : Tryd.prog.globalNamed "waybill/keccak.marks" = some 0 := by kernel_rfl
theorem t_turns : (Tryd.prog.globals[1]?).map (·.type) = some 75 := by kernel_rfl
theorem t_marks : (Tryd.prog.globals[0]?).map (·.type) = some 70 := by kernel_rfl
end Go.Proofs.YtcjabligkeaafaaDoor.K
