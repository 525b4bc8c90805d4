import Derived.Test.YtecjfddolamknaaSSpec
/- Numbers as rows of 16-bit digits, the lowest first. -/
namespace Go.Proofs.Ytecjfddolamknaa
open Go.RowKit Go.Sort

def Lim (x : Int) : Prop := 0 ≤ x ∧ x < 65536
def Lims (l : List Int) : Prop := ∀ x ∈ l, Lim x
theorem Lims.getD {l : List Int} (h : Lims l) (i : Nat) : Lim (l.getD i 0) := by
  by_cases c : i < l.length
  · have : l.getD i 0 = l[i] := by simp [List.getD, c]
    rw [this]; exact h _ (List.getElem_mem c)
  · have : l.getD i 0 = 0 := by simp [List.getD, List.getElem?_eq_none (Nat.le_of_not_lt c)]
    rw [this]; exact ⟨by decide, by decide⟩
theorem Lims.set {l : List Int} (h : Lims l) (i : Nat) {v : Int} (hv : Lim v) : Lims (l.set i v) := fun x hx => by
  rcases List.mem_or_eq_of_mem_set hx with h' | h'
  · exact h x h'
  · rw [h']; exact hv
theorem Lims.take {l : List Int} (h : Lims l) (k : Nat) : Lims (l.take k) := fun x hx => h x (List.mem_of_mem_take hx)
theorem Lims.drop {l : List Int} (h : Lims l) (k : Nat) : Lims (l.drop k) := fun x hx => h x (List.mem_of_mem_drop hx)
end Go.Proofs.Ytecjfddolamknaa
