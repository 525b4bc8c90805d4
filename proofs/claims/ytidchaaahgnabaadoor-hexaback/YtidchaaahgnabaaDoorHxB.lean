import Derived.Test.YtidchaaahgnabaaDoorHxA
namespace Go.Proofs.YtidchaaahgnabaaDoor
open Go.RowKit

/-- A text's byte. -/
def bt (s : ByteArray) (i : Nat) : Int := ((s.data.toList.getD i 0).toNat : Int)
/-- The text begins with 0x. -/
def frB (s : ByteArray) : Bool := (s.extract 0 2).toList == [48, 120]
/-- What follows. -/
def tl (s : ByteArray) : ByteArray := s.extract 2 s.size
/-- Digits alone. -/
def dgs (t : ByteArray) : Prop := ∀ i, i < t.size → 0 ≤ dv (bt t i)
theorem bt_get (s : ByteArray) (i : Nat) (h : i < s.size) : ((s[i]'h).toNat : Int) = bt s i := by
  have h' : i < s.data.size := h
  unfold bt
  congr 2
  rw [List.getD, Array.getElem?_toList, Array.getElem?_eq_getElem h']
  rfl
theorem tl_size (s : ByteArray) : (tl s).size = s.size - 2 := by simp [tl, ByteArray.size_extract]
theorem tl_bt (s : ByteArray) (i : Nat) : bt (tl s) i = bt s (i + 2) := by
  unfold tl bt
  congr 2
  simp only [ByteArray.data_extract, List.getD, Array.getElem?_toList]
  rw [Array.getElem?_extract]
  simp only [ByteArray.size]
  split
  · rw [Nat.add_comm]
  · rw [Array.getElem?_eq_none (by omega)]
set_option maxRecDepth 100000 in
theorem tailOf_short {s : ByteArray} (h : s.size < 2) (w : World) :
    Calls Tryd.prog 35 #[.string s] w fun e w' => e = .returned (.tuple #[.string ⟨#[]⟩, .bool false]) ∧ w' = w := by
  have h' : (s.size : Int) < 2 := by omega
  go_enter Tryd.func35, Tryd.ntmps35
  go_wp2
  simp [bodyPost, results, Tryd.results35, go_sem]
set_option maxRecDepth 100000 in
theorem tailOf_front {s : ByteArray} (h : ¬ s.size < 2) (hf : frB s = false) (w : World) :
    Calls Tryd.prog 35 #[.string s] w fun e w' => e = .returned (.tuple #[.string ⟨#[]⟩, .bool false]) ∧ w' = w := by
  have h' : ¬ (s.size : Int) < 2 := by omega
  have h2 : (2 : Int) ≤ (s.size : Int) := by omega
  unfold frB at hf
  go_enter Tryd.func35, Tryd.ntmps35
  go_wp2
  simp [bodyPost, results, Tryd.results35, go_sem]
set_option maxRecDepth 100000 in
theorem tailOf_ok {s : ByteArray} (hs : s.size < 140737488355328) (h : ¬ s.size < 2) (hf : frB s = true) (w : World) :
    Calls Tryd.prog 35 #[.string s] w fun e w' => ((dgs (tl s) ∧ e = .returned (.tuple #[.string (tl s), .bool true])) ∨ (¬ dgs (tl s) ∧ e = .returned (.tuple #[.string ⟨#[]⟩, .bool false]))) ∧ w' = w := by
  have h' : ¬ (s.size : Int) < 2 := by omega
  have h2 : (2 : Int) ≤ (s.size : Int) := by omega
  unfold frB at hf
  go_enter Tryd.func35, Tryd.ntmps35
  go_wp2_with fail
  go_loopg [18] (s.size - 2) (fun k iv wr => ∃ i : Nat, k = s.size - 2 - i ∧ i ≤ s.size - 2 ∧ iv = .int .i64 (i : Int) ∧ (∀ j, j < i → 0 ≤ dv (bt (tl s) j)) ∧ w = wr)
  case atStart => exact ⟨0, rfl, Nat.zero_le _, rfl, fun j hj => absurd hj (Nat.not_lt_zero _), rfl⟩
  case round =>
    obtain ⟨i, hk, hi, rfl, hall, rfl⟩ := hrel
    have HK : Hid (gk = s.size - 2 - i ∧ (∀ j, j < i → 0 ≤ dv (bt (tl s) j))) := ⟨hk, hall⟩
    clear hk hall
    by_cases h8 : i = s.size - 2
    · have hlt : ¬ i < s.size - 2 := by omega
      have HA : Hid (dgs (tl s)) := fun j hj => HK.out.2 j (by rw [tl_size] at hj; omega)
      go_wp2
      have ha := HA.out
      simp [bodyPost, results, Tryd.results35, go_sem, tl] at ha ⊢
      exact ha
    · have hlt : i < s.size - 2 := by omega
      have hb : (i : Int) < 140737488355328 := by omega
      have hsz : i < (s.extract 2 s.size).size := by have := tl_size s; unfold tl at this; omega
      have hx := digit_any ((s.extract 2 s.size)[i]'hsz).toNat
      have eb := bt_get (s.extract 2 s.size) i hsz
      by_cases hd : 0 ≤ dv (bt (tl s) i)
      · have hd1 : decide (0 ≤ dv (((s.extract 2 s.size)[i]'hsz).toNat : Int)) = true := by rw [eb]; exact decide_eq_true hd
        have HD : Hid (0 ≤ dv (bt (tl s) i)) := hd
        rw [hd1] at hx
        clear hd1 hd eb
        go_wp2_with ((with_reducible refine (hx _).mono ?_); rintro e1 w1 ⟨rfl, rfl⟩)
        go_roundg (s.size - 2 - (i + 1))
        case measure => have := HK.out; omega
        case rel => exact ⟨i + 1, rfl, by omega, rfl, fun j hj => by
          by_cases hj' : j = i
          · rw [hj']; exact HD.out
          · exact HK.out.2 j (by omega), rfl⟩
      · have hd1 : decide (0 ≤ dv (((s.extract 2 s.size)[i]'hsz).toNat : Int)) = false := by rw [eb]; exact decide_eq_false hd
        have HD : Hid (¬ dgs (tl s)) := fun h => hd (h i (by rw [tl_size]; omega))
        rw [hd1] at hx
        clear hd1 hd eb
        go_wp2_with ((with_reducible refine (hx _).mono ?_); rintro e1 w1 ⟨rfl, rfl⟩)
        simp [bodyPost, results, Tryd.results35, go_sem]
        exact HD.out
/-- Is it 0x and digits alone? -/
def okP (s : ByteArray) : Prop := 2 ≤ s.size ∧ frB s = true ∧ dgs (tl s)
theorem tailOf_yes {s : ByteArray} (hs : s.size < 140737488355328) (h : okP s) (w : World) : Calls Tryd.prog 35 #[.string s] w fun e w' => e = .returned (.tuple #[.string (tl s), .bool true]) ∧ w' = w :=
  (tailOf_ok hs (by have := h.1; omega) h.2.1 w).mono fun e w' ⟨h1, h2⟩ => ⟨by
    rcases h1 with ⟨_, h1⟩ | ⟨h1, _⟩
    · exact h1
    · exact absurd h.2.2 h1, h2⟩
theorem tailOf_no {s : ByteArray} (hs : s.size < 140737488355328) (h : ¬ okP s) (w : World) : Calls Tryd.prog 35 #[.string s] w fun e w' => e = .returned (.tuple #[.string ⟨#[]⟩, .bool false]) ∧ w' = w := by
  by_cases h1 : s.size < 2
  · exact tailOf_short h1 w
  · by_cases h2 : frB s = true
    · refine (tailOf_ok hs h1 h2 w).mono fun e w' ⟨h3, h4⟩ => ⟨?_, h4⟩
      rcases h3 with ⟨h3, _⟩ | ⟨_, h3⟩
      · exact absurd ⟨by omega, h2, h3⟩ h
      · exact h3
    · exact tailOf_front h1 (by simpa using h2) w
end Go.Proofs.YtidchaaahgnabaaDoor
