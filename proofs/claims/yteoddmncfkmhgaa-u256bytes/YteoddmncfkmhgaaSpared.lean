import Derived.Test.YteoddmncfkmhgaaRowB
import Derived.Deep.LoopGhost
namespace Go.Proofs.Yteoddmncfkmhgaa
open Go.RowKit

set_option maxHeartbeats 2000000 in
/-- The room behind a list's end, as it was. -/
theorem spared_yes {n bb ob cb : Nat} (hl : n ≤ 281474976710656) (hcap : n + 9 ≤ cb) (w : World) (ha : ∀ i, n ≤ i → i < n + 9 → w.cell? ⟨bb, ob + i, none⟩ = some (.int .u8 165)) :
    Calls Try.prog 15 #[.slice (some ⟨bb, ob, none⟩) n cb] w fun e w' => e = .returned (.bool true) ∧ Below w.heap.size w w' := by
  have hl' : (n : Int) ≤ 281474976710656 := by omega
  have hc' : (n : Int) + 9 ≤ cb := by omega
  go_enter Try.func15, Try.ntmps15
  go_wp2_with fail
  have e9 : ((n + 9 : Nat) : Int) = (n : Int) + 9 := by omega
  go_loopg [4] 9 (fun k iv wr => ∃ i : Nat, k = 9 - i ∧ i ≤ 9 ∧ iv = .int .i64 ((n : Int) + i) ∧ Below w.heap.size w wr ∧ (∀ i, n ≤ i → i < n + 9 → wr.cell? ⟨bb, ob + i, none⟩ = some (.int .u8 165)))
  case atStart => exact ⟨0, rfl, by decide, by simp, Below.refl _ _, ha⟩
  case round =>
    clear ha
    obtain ⟨i, hk, hi, rfl, B, ha⟩ := hrel
    have HK : Hid (gk = 9 - i) := hk
    have HH : Hid (∀ i, n ≤ i → i < n + 9 → wr.cell? ⟨bb, ob + i, none⟩ = some (.int .u8 165)) := ha
    clear hk ha
    by_cases h8 : i = 9
    · subst h8
      go_wp2
      go_ret
      exact ⟨rfl, B⟩
    · have hi' : (i : Int) < 9 := by omega
      have e1 : ((n : Int) + (i : Int)).toNat = n + i := by omega
      have gx := HH.out (n + i) (by omega) (by omega)
      go_wp2
      go_roundg (9 - (i + 1))
      case measure => have := HK.out; omega
      case rel => exact ⟨i + 1, rfl, by omega, by go_num, B, HH.out⟩

end Go.Proofs.Yteoddmncfkmhgaa
