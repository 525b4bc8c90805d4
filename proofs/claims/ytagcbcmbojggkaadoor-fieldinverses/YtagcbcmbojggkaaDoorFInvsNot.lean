import Derived.Test.YtagcbcmbojggkaaDoorFProd
import Derived.Test.YtagcbcmbojggkaaDoorFBin
import Derived.Test.YtagcbcmbojggkaaDoorFList
namespace Go.Proofs.YtagcbcmbojggkaaDoor
open Go.RowKit Go.Sort

set_option maxHeartbeats 8000000 in
theorem Inverses_zero {k m c : Int} (hk : Kind k m c) {L : List Int} (hl : L.length ≤ 65536) (hN : ∀ i, i < L.length → Num (L.getD i 0)) (hz : preN m L L.length = 0) {a : Option Addr} {g o cap : Nat} (ha : L = [] ∨ a = some ⟨g, o, none⟩) (w : World) (hm : Mds w) (hI : Nms w g o L) (hg : g < w.heap.size) :
    Calls Tryd.prog 4 #[.int .i64 k, .slice a L.length cap] w fun e w' => e = .returned (.tuple #[.slice none 0 0, .int .i64 40]) ∧ Below w.heap.size w w' := by
  have hf := hk.fit
  have HL : Hid (L.length ≤ 65536) := hl
  have HA : Hid (L = [] ∨ a = some ⟨g, o, none⟩) := ha
  have HN : Hid (∀ i, i < L.length → Num (L.getD i 0)) := hN
  have hq := feq_zero (preN_Num hf L L.length)
  rw [show decide (preN m L L.length = 0) = true by simp [hz]] at hq
  have bz := build_zero
  have nl : decide ((L.length : Int) > 65536) = false := by simp; omega
  clear ha hN hz
  go_enter Tryd.func4, Tryd.ntmps4
  go_wp2_with fail
  refine calls_world (fun W => Below w.heap.size w W ∧ Mds W ∧ Nms W g o L) ⟨by repeat (first | with_reducible exact Below.refl _ _ | with_reducible refine Below.alloc ?_ (by first | omega | (simp; done) | (simp; omega)) _), hm, hI⟩ ?_
  clear hm hI
  rintro W ⟨B, hD, hI⟩
  with_reducible refine (of_good hk _ hD).mono ?_
  rintro e w1 ⟨rfl, hb⟩
  replace B := B.trans (hb.mono B.size)
  replace hI := hI.keep hb
  clear hb hD W
  go_wp2_with fail
  refine calls_world (fun W => Below w.heap.size w W ∧ HoldM W w1.heap.size m c ∧ Nms W g o L) ⟨B.alloc B.size _, HoldM.new _ _ _ _, hI.alloc _⟩ ?_
  have o1 : w.heap.size ≤ w1.heap.size := B.size
  clear B hI
  rintro W ⟨B, hF, hI⟩
  generalize w1.heap.size = bf at *
  have hgW : g < W.heap.size := Nat.lt_of_lt_of_le hg B.size
  have PR := products_any hf HL.out HN.out (cap := cap) HA.out W hI hgW
  with_reducible refine PR.mono ?_
  rintro e w2 ⟨ba, rfl, gb, hA, hb⟩
  have o2 : w.heap.size ≤ ba := Nat.le_trans B.size gb
  have n1 : ba ≠ bf := by have := hF.lt; omega
  have n2 : ba ≠ g := by omega
  replace B := B.trans (hb.mono B.size)
  replace hF := hF.keep hb; replace hI := hI.keep hb
  clear hb hgW gb PR W
  have BB : Hid (∀ o, Below w.heap.size w (w2.alloc o)) := fun o => B.alloc B.size o
  clear B hF hI hA n1 n2
  go_wp2
  simp [bodyPost, results, Tryd.results4, go_sem]
  exact BB.out _

set_option maxHeartbeats 2000000 in
theorem Inverses_long {k m c : Int} (hk : Kind k m c) {n : Nat} (hl : 65536 < n) {a : Option Addr} {cap : Nat} (w : World) (hm : Mds w) :
    Calls Tryd.prog 4 #[.int .i64 k, .slice a n cap] w fun e w' => e = .returned (.tuple #[.slice none 0 0, .int .i64 2]) ∧ Below w.heap.size w w' := by
  have nl : decide ((n : Int) > 65536) = true := by simp; omega
  clear hl
  go_enter Tryd.func4, Tryd.ntmps4
  go_wp2_with fail
  with_reducible refine (of_good hk _ hm).mono ?_
  rintro e w1 ⟨rfl, hb⟩
  have BB : Hid (∀ o, Below w.heap.size w (w1.alloc o)) := fun o => hb.alloc hb.size o
  clear hb
  go_wp2
  simp [bodyPost, results, Tryd.results4, go_sem]
  exact BB.out _

set_option maxHeartbeats 2000000 in
theorem Inverses_bad {k : Int} (h0 : k ≠ 0) (h1 : k ≠ 1) {n : Nat} {a : Option Addr} {cap : Nat} (w : World) (hm : Mds w) :
    Calls Tryd.prog 4 #[.int .i64 k, .slice a n cap] w fun e w' => e = .returned (.tuple #[.slice none 0 0, .int .i64 1]) ∧ Below w.heap.size w w' := by
  go_enter Tryd.func4, Tryd.ntmps4
  go_wp2_with fail
  with_reducible refine (of_bad h0 h1 _ hm).mono ?_
  rintro e w1 ⟨rfl, hb⟩
  have BB : Hid (∀ o, Below w.heap.size w (w1.alloc o)) := fun o => hb.alloc hb.size o
  clear hb
  go_wp2
  simp [bodyPost, results, Tryd.results4, go_sem]
  exact BB.out _
end Go.Proofs.YtagcbcmbojggkaaDoor

namespace Go.Proofs.YtagcbcmbojggkaaDoor
open Go.RowKit Go.Sort

/-- Where a list lies, if it has anything. -/
def At4 (a : Option Addr) (g o : Nat) (L : List Int) : Prop := L = [] ∨ a = some ⟨g, o, none⟩
theorem At4.get {a : Option Addr} {g o : Nat} {L : List Int} (h : At4 a g o L) {i : Nat} (hi : i < L.length) : a = some ⟨g, o, none⟩ := by
  rcases h with h | h
  · rw [h] at hi; simp at hi
  · exact h

set_option maxHeartbeats 2000000 in
/-- Two lists of the same numbers are told to be one. -/
theorem fsame_yes {L : List Int} (hl : L.length < 1073741824) {a b : Option Addr} {g o ca h p cb : Nat} (ha : At4 a g o L) (hb : At4 b h p L) (w : World) (hA : Nms w g o L) (hB : Nms w h p L) :
    Calls Tryd.prog 7 #[.slice a L.length ca, .slice b L.length cb] w fun e w' => e = .returned (.bool true) ∧ Below w.heap.size w w' := by
  have ey : ∀ n w, (Op.equalIn 10000 25 (.agg #[.int .u64 (l0 n), .int .u64 (l1 n), .int .u64 (l2 n), .int .u64 (l3 n)]) (.agg #[.int .u64 (l0 n), .int .u64 (l1 n), .int .u64 (l2 n), .int .u64 (l3 n)])).run Tryd.prog w = .ok true w := fun n w => eq_yes w
  have HL : Hid (L.length < 1073741824) := hl
  have HA : Hid (At4 a g o L ∧ At4 b h p L) := ⟨ha, hb⟩
  clear hl ha hb
  go_enter Tryd.func7, Tryd.ntmps7
  go_wp2_with fail
  go_loopg [5] L.length (fun k iv wr => ∃ i : Nat, k = L.length - i ∧ i ≤ L.length ∧ iv = .int .i64 (i : Int) ∧ Below w.heap.size w wr ∧ Nms wr g o L ∧ Nms wr h p L)
  case atStart => exact ⟨0, rfl, Nat.zero_le _, rfl, Below.refl _ _, hA, hB⟩
  case round =>
    clear hA hB
    obtain ⟨i, hk, hi, rfl, B, hA, hB⟩ := hrel
    have HK : Hid (gk = L.length - i ∧ i ≤ L.length) := ⟨hk, hi⟩
    clear hk hi
    by_cases hz : i = L.length
    · have hzl : ¬ i < L.length := by omega
      clear hz
      go_wp2
      simp [bodyPost, results, Tryd.results7, go_sem]
      exact B
    · have hlt : i < L.length := by have := HK.out.2; omega
      obtain rfl := HA.out.1.get hlt
      obtain rfl := HA.out.2.get hlt
      have gA := hA i hlt
      have gB := hB i hlt
      have hi6 : (i : Int) < 1073741824 := by have := HL.out; omega
      generalize L.getD i 0 = xv at gA gB
      clear hz
      go_wp2
      go_region
      go_wp2
      go_roundg (L.length - (i + 1))
      case measure => have := HK.out.1; omega
      case rel => exact ⟨i + 1, rfl, hlt, by go_num, B.drew, hA, hB⟩
end Go.Proofs.YtagcbcmbojggkaaDoor
