import Derived.Test.YtllfmlgnemkklaaDoorFgC
/- Layer 18: what a transaction weighs bounds its lists. -/
namespace Go.Proofs.YtllfmlgnemkklaaDoor
open Go.RowKit Go.Sort
open tq
theorem sumW_len {α : Type} {wt : α → Nat} (h : ∀ x, 1 ≤ wt x) : ∀ L : List α, L.length ≤ sumW wt L
  | [] => Nat.zero_le _
  | x :: L => by have := h x; have := sumW_len h L; rw [sumW, List.length_cons]; omega
theorem sumW_at {α : Type} {wt : α → Nat} (z : α) : ∀ (L : List α) (i : Nat), i < L.length → wt (L.getD i z) ≤ sumW wt L
  | [], i, h => absurd h (Nat.not_lt_zero _)
  | x :: L, 0, _ => by rw [sumW]; exact Nat.le_add_right _ _
  | x :: L, i + 1, h => by have := sumW_at (wt := wt) z L i (by simpa using h); rw [sumW]; have e : (x :: L).getD (i + 1) z = L.getD i z := rfl; rw [e]; omega
theorem bdG_of {t : Txv} (h : txW t ≤ 1048576) : BdG t := by
  unfold txW at h
  have h1 := sumW_len (wt := enW) (fun e => by unfold enW; omega) t.El
  have h3 := sumW_len (wt := fun _ : Aun => 1) (fun _ => Nat.le_refl _) t.Ul
  refine ⟨by omega, by omega, fun i hi => ?_, by omega⟩
  have h4 := sumW_at (wt := enW) zEn t.El i hi
  have h5 := sumW_len (wt := fun X : List Int => X.length + 1) (fun X => by omega) (t.El.getD i zEn).ks
  have h6 : 23 + sumW (fun X : List Int => X.length + 1) (t.El.getD i zEn).ks ≤ sumW enW t.El := h4
  omega
end Go.Proofs.YtllfmlgnemkklaaDoor
