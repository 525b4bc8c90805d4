import Derived.Test.YtkbmonlbgnnjlaaDoorLongNum
/- Numbers as rows of 32-bit digits, the lowest first. -/
namespace Go.Proofs.YtkbmonlbgnnjlaaDoor

def vd : List Int → Int
  | [] => 0
  | x :: xs => x + 4294967296 * vd xs
def Dig (x : Int) : Prop := 0 ≤ x ∧ x < 4294967296
def Digs (l : List Int) : Prop := ∀ x ∈ l, Dig x

theorem Digs.getD {l : List Int} (h : Digs l) (i : Nat) : Dig (l.getD i 0) := by
  by_cases c : i < l.length
  · have : l.getD i 0 = l[i] := by simp [List.getD, c]
    rw [this]; exact h _ (List.getElem_mem c)
  · have : l.getD i 0 = 0 := by simp [List.getD, List.getElem?_eq_none (Nat.le_of_not_lt c)]
    rw [this]; exact ⟨by decide, by decide⟩
theorem Digs.set {l : List Int} (h : Digs l) (i : Nat) {v : Int} (hv : Dig v) : Digs (l.set i v) := fun x hx => by
  rcases List.mem_or_eq_of_mem_set hx with h' | h'
  · exact h x h'
  · rw [h']; exact hv
theorem Digs.of8 {a b c d e f g h : Int} (h0 : Dig a) (h1 : Dig b) (h2 : Dig c) (h3 : Dig d) (h4 : Dig e) (h5 : Dig f) (h6 : Dig g) (h7 : Dig h) : Digs [a, b, c, d, e, f, g, h] := by
  intro x hx
  simp only [List.mem_cons, List.not_mem_nil, or_false] at hx
  rcases hx with rfl | rfl | rfl | rfl | rfl | rfl | rfl | rfl <;> assumption
theorem getD_set_ne {l : List Int} {i t : Nat} (h : t ≠ i) (v : Int) : (l.set i v).getD t 0 = l.getD t 0 := by
  simp [List.getD, List.getElem?_set_ne (Ne.symm h)]
theorem Digs.take {l : List Int} (h : Digs l) (k : Nat) : Digs (l.take k) := fun x hx => h x (List.mem_of_mem_take hx)
theorem Digs.drop {l : List Int} (h : Digs l) (k : Nat) : Digs (l.drop k) := fun x hx => h x (List.mem_of_mem_drop hx)
end Go.Proofs.YtkbmonlbgnnjlaaDoor
