import Derived.Test.YtndefnomefdhoaaDoorKFillNum
import Derived.Test.YtndefnomefdhoaaDoorKFilled
namespace Go.Proofs.YtndefnomefdhoaaDoor.K
open Go.RowKit Go.Sort

theorem Byo.drew {W : World} {b o : Nat} {X : List (BitVec 8)} (h : Byo W b o X) : Byo W.drew b o X := h
theorem Byo.far {W : World} {b b' o i : Nat} {v : Value} {X : List (BitVec 8)} (h : Byo W b o X) (ne : b' ≠ b) : Byo (W.setCell ⟨b', i, none⟩ v) b o X := fun j hj => by rw [World.cell?_setCell_far _ _ _ _ ne]; exact h j hj
theorem Byo.farCells {W : World} {b b' o i : Nat} {X : List (BitVec 8)} (h : Byo W b o X) (ne : b' ≠ b) (cs : List Value) : Byo (W.setCells b' i cs) b o X := fun j hj => by rw [World.cell?_setCells_out _ _ _ _ _ (fun e => absurd e.symm ne)]; exact h j hj
theorem Arr.zeros25 {W : World} {b : Nat} (e : b = W.heap.size) : Arr (W.alloc (.cells #[.int .u64 0, .int .u64 0, .int .u64 0, .int .u64 0, .int .u64 0, .int .u64 0, .int .u64 0, .int .u64 0, .int .u64 0, .int .u64 0, .int .u64 0, .int .u64 0, .int .u64 0, .int .u64 0, .int .u64 0, .int .u64 0, .int .u64 0, .int .u64 0, .int .u64 0, .int .u64 0, .int .u64 0, .int .u64 0, .int .u64 0, .int .u64 0, .int .u64 0] 58)) b (List.replicate 25 0) := fresh_arr e

end Go.Proofs.YtndefnomefdhoaaDoor.K

namespace Go.Proofs.YtndefnomefdhoaaDoor.K
open Go.RowKit Go.Sort

end Go.Proofs.YtndefnomefdhoaaDoor.K

namespace Go.Proofs.YtndefnomefdhoaaDoor.K
open Go.RowKit Go.Sort

/-- What a fresh row of bytes is as an argument. -/
theorem own_arg {B : Nat} {W : World} {v : Value} {X : List (BitVec 8)} (h : Own B W v X) : ∃ a g c, v = .slice a X.length c ∧ At a g 0 X ∧ (a = none → c = 0) ∧ Byo W g 0 X := by
  rcases h.2 with ⟨e, hx⟩ | ⟨g, cap, cur, e, _, _, hle, _⟩
  · have hx' : X = [] := List.length_eq_zero_iff.1 hx
    subst hx'
    exact ⟨none, 0, 0, e, .inl rfl, fun _ => rfl, fun i hi => absurd hi (Nat.not_lt_zero _)⟩
  · subst e
    refine ⟨_, g, cap, rfl, .inr rfl, (fun h => nomatch h), fun i hi => ?_⟩
    rw [Nat.zero_add, h.row.cellAt i (by omega)]
    simp [byts, List.getD, hi]

end Go.Proofs.YtndefnomefdhoaaDoor.K
