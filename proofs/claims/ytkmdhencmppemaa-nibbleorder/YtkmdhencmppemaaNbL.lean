import Derived.Test.YtkmdhencmppemaaNbE
/- Layer 11: the order of lists, in numbers. -/
namespace Go.Proofs.Ytkmdhencmppemaa
open Go.RowKit Go.Sort

/-- Which of two lists comes first. -/
def lex : List Int → List Int → Int
  | [], [] => 0
  | [], _ :: _ => -1
  | _ :: _, [] => 1
  | x :: X, z :: Z => if x < z then -1 else if z < x then 1 else lex X Z
theorem cmp_lex : ∀ X Z : List Int, cmpI X Z = lex X Z
  | [], [] => by simp [cmpI, comN, lex, sgn]
  | [], z :: Z => by simp [cmpI, comN, lex, sgn]
  | x :: X, [] => by simp [cmpI, comN, lex, sgn]; omega
  | x :: X, z :: Z => by
    by_cases e : x = z
    · subst e
      have ih := cmp_lex X Z
      rw [lex, if_neg (by omega), if_neg (by omega), ← ih]
      have hc : comN (x :: X) (x :: Z) = comN X Z + 1 := by simp [comN]
      unfold cmpI
      rw [hc]
      simp only [List.length_cons, Nat.add_right_cancel_iff, List.getD_cons_succ]
      have e1 : ∀ m n : Nat, sgn ((m + 1 : Nat) : Int) ((n + 1 : Nat) : Int) = sgn (m : Int) (n : Int) := fun m n => by
        unfold sgn
        by_cases h1 : (m : Int) < (n : Int)
        · rw [if_pos (by omega), if_pos h1]
        · rw [if_neg (by omega), if_neg h1]
          by_cases h2 : (n : Int) < (m : Int)
          · rw [if_pos (by omega), if_pos h2]
          · rw [if_neg (by omega), if_neg h2]
      rw [e1]
    · have hc : comN (x :: X) (z :: Z) = 0 := by simp [comN, e]
      unfold cmpI
      rw [hc, if_neg (by simp)]
      have e1 : (x :: X).getD 0 0 = x := rfl
      have e2 : (z :: Z).getD 0 0 = z := rfl
      rw [e1, e2, lex, sgn]
      by_cases h1 : x < z
      · rw [if_pos h1, if_pos h1]
      · rw [if_neg h1, if_neg h1, if_pos (by omega), if_pos (by omega)]
theorem lex_neg : ∀ X Z : List Int, lex X Z = - lex Z X
  | [], [] => rfl
  | [], _ :: _ => rfl
  | _ :: _, [] => rfl
  | x :: X, z :: Z => by
    rw [lex, lex, lex_neg X Z]
    by_cases h1 : x < z
    · rw [if_pos h1, if_neg (by omega), if_pos h1]
    · rw [if_neg h1]
      by_cases h2 : z < x
      · rw [if_pos h2, if_pos h2]; rfl
      · rw [if_neg h2, if_neg h2, if_neg h1]
theorem lex_rng : ∀ X Z : List Int, lex X Z = -1 ∨ lex X Z = 0 ∨ lex X Z = 1
  | [], [] => .inr (.inl rfl)
  | [], _ :: _ => .inl rfl
  | _ :: _, [] => .inr (.inr rfl)
  | x :: X, z :: Z => by
    rw [lex]
    have := lex_rng X Z
    split
    · exact .inl rfl
    · split
      · exact .inr (.inr rfl)
      · exact this
theorem lex_zero : ∀ X Z : List Int, lex X Z = 0 ↔ X = Z
  | [], [] => by simp [lex]
  | [], _ :: _ => by simp [lex]
  | _ :: _, [] => by simp [lex]
  | x :: X, z :: Z => by
    rw [lex]
    have := lex_zero X Z
    by_cases h1 : x < z
    · rw [if_pos h1]; simp; intro e; omega
    · rw [if_neg h1]
      by_cases h2 : z < x
      · rw [if_pos h2]; simp; intro e; omega
      · rw [if_neg h2, this]
        have e : x = z := by omega
        simp [e]
theorem lex_trans : ∀ {X Y Z : List Int}, lex X Y ≤ 0 → lex Y Z ≤ 0 → lex X Z ≤ 0
  | [], _, [], _, _ => by simp [lex]
  | [], _, _ :: _, _, _ => by simp [lex]
  | _ :: _, [], _, h, _ => by simp [lex] at h
  | _ :: _, _ :: _, [], _, h => by simp [lex] at h
  | x :: X, y :: Y, z :: Z, h1, h2 => by
    rw [lex] at h1 h2 ⊢
    by_cases a : x < y
    · by_cases b : y < z
      · rw [if_pos (by omega)]; decide
      · rw [if_neg b] at h2
        by_cases c : z < y
        · rw [if_pos c] at h2; omega
        · rw [if_pos (by omega)]; decide
    · rw [if_neg a] at h1
      by_cases b : y < x
      · rw [if_pos b] at h1; omega
      · rw [if_neg b] at h1
        by_cases c : y < z
        · rw [if_pos (by omega)]; decide
        · rw [if_neg c] at h2
          by_cases d : z < y
          · rw [if_pos d] at h2; omega
          · rw [if_neg d] at h2
            rw [if_neg (by omega), if_neg (by omega)]
            exact lex_trans h1 h2
theorem lex_of : ∀ X Z : List Int, lex (ofL X) (ofL Z) = lex X Z
  | [], [] => rfl
  | [], _ :: _ => rfl
  | _ :: _, [] => rfl
  | x :: X, z :: Z => by
    have e1 : ofL (x :: X) = x / 16 :: x % 16 :: ofL X := rfl
    have e2 : ofL (z :: Z) = z / 16 :: z % 16 :: ofL Z := rfl
    rw [e1, e2, lex, lex, lex_of X Z, lex]
    by_cases h1 : x < z
    · rw [if_pos h1]
      by_cases a : x / 16 < z / 16
      · rw [if_pos a]
      · rw [if_neg a, if_neg (by omega), if_pos (by omega)]
    · rw [if_neg h1]
      by_cases h2 : z < x
      · rw [if_pos h2]
        by_cases a : z / 16 < x / 16
        · rw [if_neg (by omega), if_pos a]
        · rw [if_neg (by omega), if_neg a, if_neg (by omega), if_pos (by omega)]
      · rw [if_neg h2]
        have e : x = z := by omega
        subst e
        rw [if_neg (by omega), if_neg (by omega), if_neg (by omega), if_neg (by omega)]
theorem com_of : ∀ X Z : List Int, comN (ofL X) (ofL Z) = 2 * comN X Z ∨ comN (ofL X) (ofL Z) = 2 * comN X Z + 1
  | [], _ => by simp [ofL, comN]
  | _ :: _, [] => by simp [ofL, comN]
  | x :: X, z :: Z => by
    have e1 : ofL (x :: X) = x / 16 :: x % 16 :: ofL X := rfl
    have e2 : ofL (z :: Z) = z / 16 :: z % 16 :: ofL Z := rfl
    have ih := com_of X Z
    rw [e1, e2]
    simp only [comN]
    by_cases e : x = z
    · subst e
      simp only [if_true]
      omega
    · rw [if_neg e]
      by_cases a : x / 16 = z / 16
      · rw [if_pos a, if_neg (by omega)]; simp
      · rw [if_neg a]; simp
theorem com_take : ∀ X Z : List Int, X.take (comN X Z) = Z.take (comN X Z)
  | [], _ => by simp [comN]
  | _ :: _, [] => by simp [comN]
  | x :: X, z :: Z => by
    simp only [comN]
    by_cases e : x = z
    · subst e
      simp only [if_true, List.take_succ_cons, com_take X Z]
    · rw [if_neg e]; simp
end Go.Proofs.Ytkmdhencmppemaa
