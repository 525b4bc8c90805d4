import Derived.Test.YtidchaaahgnabaaDoorLeaf
import Derived.Deep.LoopGhost
import Derived.Laws.IdiomStrings
namespace Go.Proofs.YtidchaaahgnabaaDoor
open Go.RowKit

/-- What a digit stands for; -1: it is none. -/
def dv (c : Int) : Int := if 48 ≤ c ∧ c ≤ 57 then c - 48 else if 97 ≤ c ∧ c ≤ 102 then c - 87 else if 65 ≤ c ∧ c ≤ 70 then c - 55 else -1
def smB (c : Int) : Bool := decide (97 ≤ c) && decide (c ≤ 102)
def caB (c : Int) : Bool := decide (65 ≤ c) && decide (c ≤ 70)
def dgB (c : Int) : Bool := (decide (48 ≤ c) && decide (c ≤ 57)) || smB c || caB c
theorem dv_low (c : Int) : -1 ≤ dv c ∧ dv c ≤ 15 := by unfold dv; split <;> (try split) <;> (try split) <;> omega
theorem dgB_dv (c : Int) : dgB c = decide (0 ≤ dv c) := by
  unfold dgB smB caB dv
  by_cases h1 : 48 ≤ c ∧ c ≤ 57
  · rw [if_pos h1]; simp [h1]
  · rw [if_neg h1]
    by_cases h2 : 97 ≤ c ∧ c ≤ 102
    · rw [if_pos h2]; simp [h2]; omega
    · rw [if_neg h2]
      by_cases h3 : 65 ≤ c ∧ c ≤ 70
      · rw [if_pos h3]; simp [h3]; omega
      · rw [if_neg h3]; simp; omega
theorem small_any (c : Int) (w : World) : Calls Tryd.prog 33 #[.int .u8 c] w fun e w' => e = .returned (.bool (smB c)) ∧ w' = w := by
  unfold smB
  by_cases h : 97 ≤ c
  · have hd : decide (97 ≤ c) = true := decide_eq_true h
    go_enter Tryd.func33, Tryd.ntmps33
    go_wp2
    go_ret
    exact ⟨by simp [hd], rfl⟩
  · have hd : decide (97 ≤ c) = false := decide_eq_false h
    go_enter Tryd.func33, Tryd.ntmps33
    go_wp2
    go_ret
    exact ⟨by simp, rfl⟩
theorem capital_any (c : Int) (w : World) : Calls Tryd.prog 52 #[.int .u8 c] w fun e w' => e = .returned (.bool (caB c)) ∧ w' = w := by
  unfold caB
  by_cases h : 65 ≤ c
  · have hd : decide (65 ≤ c) = true := decide_eq_true h
    go_enter Tryd.func52, Tryd.ntmps52
    go_wp2
    go_ret
    exact ⟨by simp [hd], rfl⟩
  · have hd : decide (65 ≤ c) = false := decide_eq_false h
    go_enter Tryd.func52, Tryd.ntmps52
    go_wp2
    go_ret
    exact ⟨by simp, rfl⟩
theorem value_sm {c : Int} (h : smB c = true) (w : World) : Calls Tryd.prog 51 #[.int .u8 c] w fun e w' => e = .returned (.int .u8 (dv c)) ∧ w' = w := by
  have hc : 97 ≤ c ∧ c ≤ 102 := by simpa [smB] using h
  have e : dv c = c - 97 + 10 := by unfold dv; rw [if_neg (by omega), if_pos hc]; omega
  rw [e]
  clear e h
  obtain ⟨h1, h2⟩ := hc
  go_enter Tryd.func51, Tryd.ntmps51
  go_wp2
  simp [bodyPost, results, Tryd.results51, go_sem]
theorem value_ca {c : Int} (h : caB c = true) (w : World) : Calls Tryd.prog 51 #[.int .u8 c] w fun e w' => e = .returned (.int .u8 (dv c)) ∧ w' = w := by
  have hc : 65 ≤ c ∧ c ≤ 70 := by simpa [caB] using h
  have e : dv c = c - 65 + 10 := by unfold dv; rw [if_neg (by omega), if_neg (by omega), if_pos hc]; omega
  rw [e]
  clear e h
  obtain ⟨h1, h2⟩ := hc
  have h3 : ¬ (97 ≤ c) := by omega
  go_enter Tryd.func51, Tryd.ntmps51
  go_wp2
  simp [bodyPost, results, Tryd.results51, go_sem]
theorem value_nu {c : Int} (h : 48 ≤ c ∧ c ≤ 57) (w : World) : Calls Tryd.prog 51 #[.int .u8 c] w fun e w' => e = .returned (.int .u8 (dv c)) ∧ w' = w := by
  have e : dv c = c - 48 := by unfold dv; rw [if_pos h]
  rw [e]
  clear e
  obtain ⟨h1, h2⟩ := h
  have h3 : ¬ (97 ≤ c) := by omega
  have h4 : ¬ (65 ≤ c) := by omega
  go_enter Tryd.func51, Tryd.ntmps51
  go_wp2
  simp [bodyPost, results, Tryd.results51, go_sem]
theorem value_any {c : Int} (h : 0 ≤ dv c) (w : World) : Calls Tryd.prog 51 #[.int .u8 c] w fun e w' => e = .returned (.int .u8 (dv c)) ∧ w' = w := by
  have hd : dgB c = true := by rw [dgB_dv]; exact decide_eq_true h
  unfold dgB at hd
  by_cases h1 : smB c = true
  · exact value_sm h1 w
  · by_cases h2 : caB c = true
    · exact value_ca h2 w
    · exact value_nu (by simpa [h1, h2] using hd) w
theorem digit_any (c : Int) (w : World) : Calls Tryd.prog 50 #[.int .u8 c] w fun e w' => e = .returned (.bool (decide (0 ≤ dv c))) ∧ w' = w := by
  rw [← dgB_dv]
  unfold dgB
  have hs := small_any c
  have hc := capital_any c
  generalize smB c = s at *
  generalize caB c = t at *
  by_cases h : 48 ≤ c
  · by_cases h' : c ≤ 57
    · have ea : (decide (48 ≤ c) && decide (c ≤ 57) || s || t) = true := by simp [h, h']
      rw [ea]; clear ea
      go_enter Tryd.func50, Tryd.ntmps50
      go_wp2
      go_ret
      exact ⟨by simp, rfl⟩
    · have ea : (decide (48 ≤ c) && decide (c ≤ 57) || s || t) = (s || t) := by simp [h']
      rw [ea]; clear ea
      cases s
      all_goals (
       go_enter Tryd.func50, Tryd.ntmps50
       go_wp2_with first | ((with_reducible refine (hs _).mono ?_); rintro e1 w1 ⟨rfl, rfl⟩) | ((with_reducible refine (hc _).mono ?_); rintro e1 w1 ⟨rfl, rfl⟩)
       go_ret
       exact ⟨by simp, rfl⟩)
  · have ea : (decide (48 ≤ c) && decide (c ≤ 57) || s || t) = (s || t) := by simp [h]
    rw [ea]; clear ea
    cases s
    all_goals (
     go_enter Tryd.func50, Tryd.ntmps50
     go_wp2_with first | ((with_reducible refine (hs _).mono ?_); rintro e1 w1 ⟨rfl, rfl⟩) | ((with_reducible refine (hc _).mono ?_); rintro e1 w1 ⟨rfl, rfl⟩)
     go_ret
     exact ⟨by simp, rfl⟩)
end Go.Proofs.YtidchaaahgnabaaDoor
