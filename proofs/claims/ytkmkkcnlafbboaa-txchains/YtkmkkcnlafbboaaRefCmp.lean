import Derived.Test.YtkmkkcnlafbboaaRef1
import Derived.Test.YtkmkkcnlafbboaaCmp
namespace Go.Proofs.Ytkmkkcnlafbboaa
open Go.RowKit

def cmpL (x0 x1 x2 x3 y0 y1 y2 y3 : Int) : Int := if x3 < y3 then -1 else if y3 < x3 then 1 else if x2 < y2 then -1 else if y2 < x2 then 1 else if x1 < y1 then -1 else if y1 < x1 then 1 else if x0 < y0 then -1 else if y0 < x0 then 1 else 0

theorem cmpL_eq {n m : Int} (hn : Num n) (hm : Num m) : cmpL (l0 n) (l1 n) (l2 n) (l3 n) (l0 m) (l1 m) (l2 m) (l3 m) = cmpN n m := by
  have e1 := num_l hn; have e2 := num_l hm
  unfold num at e1 e2
  obtain ⟨_, _⟩ := l0_word n; obtain ⟨_, _⟩ := l1_word n; obtain ⟨_, _⟩ := l2_word n; obtain ⟨_, _⟩ := l3_word n
  obtain ⟨_, _⟩ := l0_word m; obtain ⟨_, _⟩ := l1_word m; obtain ⟨_, _⟩ := l2_word m; obtain ⟨_, _⟩ := l3_word m
  generalize l0 n = x0 at *; generalize l1 n = x1 at *; generalize l2 n = x2 at *; generalize l3 n = x3 at *
  generalize l0 m = y0 at *; generalize l1 m = y1 at *; generalize l2 m = y2 at *; generalize l3 m = y3 at *
  unfold cmpL cmpN
  by_cases h : n = m
  · rw [if_pos h]
    have : x3 = y3 := by omega
    have : x2 = y2 := by omega
    have : x1 = y1 := by omega
    have : x0 = y0 := by omega
    repeat rw [if_neg (by omega)]
  · rw [if_neg h]
    by_cases h2 : n < m
    · rw [if_pos h2]
      by_cases a3 : x3 < y3
      · rw [if_pos a3]
      rw [if_neg a3, if_neg (show ¬ y3 < x3 by omega)]
      by_cases a2 : x2 < y2
      · rw [if_pos a2]
      rw [if_neg a2, if_neg (show ¬ y2 < x2 by omega)]
      by_cases a1 : x1 < y1
      · rw [if_pos a1]
      rw [if_neg a1, if_neg (show ¬ y1 < x1 by omega), if_pos (show x0 < y0 by omega)]
    · rw [if_neg h2]
      by_cases a3 : y3 < x3
      · rw [if_neg (show ¬ x3 < y3 by omega), if_pos a3]
      rw [if_neg (show ¬ x3 < y3 by omega), if_neg a3]
      by_cases a2 : y2 < x2
      · rw [if_neg (show ¬ x2 < y2 by omega), if_pos a2]
      rw [if_neg (show ¬ x2 < y2 by omega), if_neg a2]
      by_cases a1 : y1 < x1
      · rw [if_neg (show ¬ x1 < y1 by omega), if_pos a1]
      rw [if_neg (show ¬ x1 < y1 by omega), if_neg a1, if_neg (show ¬ x0 < y0 by omega), if_pos (show y0 < x0 by omega)]

end Go.Proofs.Ytkmkkcnlafbboaa
