import Derived.Test.YtjlijohdobknoaaDoorFList
namespace Go.Proofs.YtjlijohdobknoaaDoor
open Go.RowKit Go.Sort

/-- Where a list lies, if it has anything. -/
def At4 (a : Option Addr) (g o : Nat) (L : List Int) : Prop := L = [] ∨ a = some ⟨g, o, none⟩
theorem At4.get {a : Option Addr} {g o : Nat} {L : List Int} (h : At4 a g o L) {i : Nat} (hi : i < L.length) : a = some ⟨g, o, none⟩ := by
  rcases h with h | h
  · rw [h] at hi; simp at hi
  · exact h

set_option maxHeartbeats 2000000 in
/-- Two lists of the same numbers are told to be one. -/
theorem fsame_yes {L : List Int} (hl : L.length < 1073741824) {a b : Option Addr} {g o ca h p cb : Nat} (ha : At4 a g o L) (hb : At4 b h p L) (w : World) (hA : Nms w g o L) (hB : Nms w h p L) :
    Calls Tryd.prog 8 #[.slice a L.length ca, .slice b L.length cb] w fun e w' => e = .returned (.bool true) ∧ Below w.heap.size w w' := by
  have ey : ∀ n w, (Op.equalIn 10000 30 (.agg #[.int .u64 (l0 n), .int .u64 (l1 n), .int .u64 (l2 n), .int .u64 (l3 n)]) (.agg #[.int .u64 (l0 n), .int .u64 (l1 n), .int .u64 (l2 n), .int .u64 (l3 n)])).run Tryd.prog w = .ok true w := fun n w => eq_yes w
  have HL : Hid (L.length < 1073741824) := hl
  have HA : Hid (At4 a g o L ∧ At4 b h p L) := ⟨ha, hb⟩
  clear hl ha hb
  go_enter Tryd.func8, Tryd.ntmps8
  go_wp2_with fail
  go_loopg [5] L.length (fun k iv wr => ∃ i : Nat, k = L.length - i ∧ i ≤ L.length ∧ iv = .int .i64 (i : Int) ∧ Below w.heap.size w wr ∧ Nms wr g o L ∧ Nms wr h p L)
  case atStart => exact ⟨0, rfl, Nat.zero_le _, rfl, Below.refl _ _, hA, hB⟩
  case round =>
    clear hA hB
    obtain ⟨i, hk, hi, rfl, B, hA, hB⟩ := hrel
    have HK : Hid (gk = L.length - i ∧ i ≤ L.length) := ⟨hk, hi⟩
    clear hk hi
    by_cases hz : i = L.length
    · have hzl : ¬ i < L.length := by omega
      clear hz
      go_wp2
      simp [bodyPost, results, Tryd.results8, go_sem]
      exact B
    · have hlt : i < L.length := by have := HK.out.2; omega
      obtain rfl := HA.out.1.get hlt
      obtain rfl := HA.out.2.get hlt
      have gA := hA i hlt
      have gB := hB i hlt
      have hi6 : (i : Int) < 1073741824 := by have := HL.out; omega
      generalize L.getD i 0 = xv at gA gB
      clear hz
      go_wp2
      go_region
      go_wp2
      go_roundg (L.length - (i + 1))
      case measure => have := HK.out.1; omega
      case rel => exact ⟨i + 1, rfl, hlt, by go_num, B.drew, hA, hB⟩
end Go.Proofs.YtjlijohdobknoaaDoor
