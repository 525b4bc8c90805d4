import Derived.Test.YtdkfpakghpbofaaRsL
/- Layer 7: what cut answers, as a function of the bytes. -/
namespace Go.Proofs.Ytdkfpakghpbofaa
open Go.RowKit Go.Sort
/-- How many bytes the first item has, head and all. -/
def totP (A : List Int) : Nat := (hdP A).2.1 + (hdP A).2.2.1
/-- The items one behind the other, gathered: n bounds their number. -/
def cutA : Nat → List (List Int) → List Int → Int × List (List Int)
  | 0, XS, _ => (0, XS)
  | n + 1, XS, A => if A.length = 0 then (0, XS) else if (hdP A).2.2.2 ≠ 0 then ((hdP A).2.2.2, []) else cutA n (XS ++ [A.take (totP A)]) (A.drop (totP A))
theorem totP_fits {A : List Int} (e : (hdP A).2.2.2 = 0) : totP A ≤ A.length ∧ 1 ≤ totP A := ⟨(hdP_fits e).2.1, (hdP_fits e).2.2⟩
theorem cutA_end (n : Nat) (XS : List (List Int)) {A : List Int} (h : A.length = 0) : cutA n XS A = (0, XS) := by
  cases n with
  | zero => rfl
  | succ n => rw [cutA, if_pos h]
/-- More fuel than bytes changes nothing. -/
theorem cutA_fuel : ∀ (n m : Nat) (XS : List (List Int)) (A : List Int), A.length ≤ n → A.length ≤ m → cutA n XS A = cutA m XS A
  | 0, m, XS, A, h, _ => by rw [cutA_end 0 XS (by omega), cutA_end m XS (by omega)]
  | n + 1, 0, XS, A, _, h => by rw [cutA_end _ XS (by omega), cutA_end 0 XS (by omega)]
  | n + 1, m + 1, XS, A, h1, h2 => by
    rw [cutA, cutA]
    by_cases k : A.length = 0
    · rw [if_pos k, if_pos k]
    · rw [if_neg k, if_neg k]
      by_cases e : (hdP A).2.2.2 ≠ 0
      · rw [if_pos e, if_pos e]
      · rw [if_neg e, if_neg e]
        have f := totP_fits (Decidable.not_not.1 e)
        have d : (A.drop (totP A)).length = A.length - totP A := List.length_drop ..
        exact cutA_fuel n m _ _ (by omega) (by omega)
/-- What cut answers. -/
def cutP (XS : List (List Int)) (A : List Int) : Int × List (List Int) := cutA A.length XS A
theorem cutP_nil (XS : List (List Int)) {A : List Int} (h : A.length = 0) : cutP XS A = (0, XS) := cutA_end _ _ h
theorem cutP_err (XS : List (List Int)) {A : List Int} (h : A.length ≠ 0) (e : (hdP A).2.2.2 ≠ 0) : cutP XS A = ((hdP A).2.2.2, []) := by
  unfold cutP
  obtain ⟨n, en⟩ : ∃ n, A.length = n + 1 := ⟨A.length - 1, by omega⟩
  rw [en, cutA, if_neg h, if_pos e]
theorem cutP_step (XS : List (List Int)) {A : List Int} (h : A.length ≠ 0) (e : (hdP A).2.2.2 = 0) : cutP XS A = cutP (XS ++ [A.take (totP A)]) (A.drop (totP A)) := by
  have f := totP_fits e
  have d : (A.drop (totP A)).length = A.length - totP A := List.length_drop ..
  obtain ⟨n, en⟩ : ∃ n, A.length = n + 1 := ⟨A.length - 1, by omega⟩
  have q : cutA (n + 1) XS A = cutA n (XS ++ [A.take (totP A)]) (A.drop (totP A)) := by rw [cutA, if_neg h, if_neg (fun x => x e)]
  unfold cutP
  rw [en, q]
  exact cutA_fuel _ _ _ _ (by omega) (Nat.le_refl _)
/-- No more items than bytes; none is longer than the bytes. -/
theorem cutA_len : ∀ (n : Nat) (XS : List (List Int)) (A : List Int), (cutA n XS A).2.length ≤ XS.length + n
  | 0, XS, A => by simp [cutA]
  | n + 1, XS, A => by
    rw [cutA]
    by_cases k : A.length = 0
    · rw [if_pos k]; show XS.length ≤ _; omega
    · rw [if_neg k]
      by_cases e : (hdP A).2.2.2 ≠ 0
      · rw [if_pos e]; show 0 ≤ _; omega
      · rw [if_neg e]
        have r := cutA_len n (XS ++ [A.take (totP A)]) (A.drop (totP A))
        rw [List.length_append] at r
        have : ([A.take (totP A)] : List (List Int)).length = 1 := rfl
        omega
end Go.Proofs.Ytdkfpakghpbofaa
