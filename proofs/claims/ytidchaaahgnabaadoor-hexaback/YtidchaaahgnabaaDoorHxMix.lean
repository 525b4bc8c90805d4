import Derived.Test.YtidchaaahgnabaaDoorHxCheck
namespace Go.Proofs.YtidchaaahgnabaaDoor
open Go.RowKit Go.Sort

/-- Is there a small letter among the first i; a capital one? -/
def smA (t : ByteArray) : Nat → Bool
  | 0 => false
  | i + 1 => smA t i || smB (bt t i)
def caA (t : ByteArray) : Nat → Bool
  | 0 => false
  | i + 1 => caA t i || caB (bt t i)
set_option maxRecDepth 100000 in
set_option maxHeartbeats 4000000 in
theorem hmix_any {t : ByteArray} (ht : t.size < 140737488355328) (w : World) :
    Calls Tryd.prog 37 #[.string t] w fun e w' => e = .returned (.bool (smA t t.size && caA t t.size)) ∧ w' = w := by
  have HN : Hid (t.size < 140737488355328) := ht
  clear ht
  go_enter Tryd.func37, Tryd.ntmps37
  go_wp2_with fail
  go_loopg [3, 4, 8] t.size (fun k sv cv iv wr => ∃ i : Nat, k = t.size - i ∧ i ≤ t.size ∧ iv = .int .i64 (i : Int) ∧ sv = .bool (smA t i) ∧ cv = .bool (caA t i) ∧ w = wr)
  case atStart => exact ⟨0, rfl, Nat.zero_le _, rfl, rfl, rfl, rfl⟩
  case round =>
    obtain ⟨i, hk, hi, rfl, rfl, rfl, rfl⟩ := hrel
    have HK : Hid (gk = t.size - i) := hk
    clear hk
    by_cases h8 : i < t.size
    · have hlt : (i : Int) < (t.size : Int) := by omega
      have ib : (i : Int) < 140737488355328 := by have := HN.out; omega
      have eb := bt_get t i h8
      have hs := small_any (bt t i)
      have hc := capital_any (bt t i)
      have HS : Hid (smA t (i + 1) = (smA t i || smB (bt t i)) ∧ caA t (i + 1) = (caA t i || caB (bt t i))) := ⟨rfl, rfl⟩
      generalize smA t i = p at *
      generalize caA t i = q at *
      generalize smB (bt t i) = p2 at *
      generalize caB (bt t i) = q2 at *
      cases p <;> cases q
      all_goals (
       go_wp2_with first | ((with_reducible refine (hs _).mono ?_); rintro e1 w9 ⟨rfl, hw9⟩; (rw [hw9]); (clear hw9 w9)) | ((with_reducible refine (hc _).mono ?_); rintro e1 w9 ⟨rfl, hw9⟩; (rw [hw9]); (clear hw9 w9))
       go_roundg (t.size - (i + 1))
       case measure => have := HK.out; omega
       case rel => exact ⟨i + 1, rfl, by omega, by rw [Int.natCast_add]; rfl, by rw [HS.out.1]; simp, by rw [HS.out.2]; simp, rfl⟩)
    · obtain rfl : i = t.size := by omega
      have hlt : ¬ ((t.size : Int) < (t.size : Int)) := by omega
      obtain ⟨p, Hp⟩ : ∃ p, Hid (p = smA t t.size) := ⟨_, rfl⟩
      obtain ⟨q, Hq⟩ : ∃ q, Hid (q = caA t t.size) := ⟨_, rfl⟩
      rw [← Hp.out, ← Hq.out]
      cases p <;> cases q
      all_goals (
       go_wp2
       go_ret
       exact ⟨by rw [← Hp.out, ← Hq.out]; simp, rfl⟩)
end Go.Proofs.YtidchaaahgnabaaDoor
