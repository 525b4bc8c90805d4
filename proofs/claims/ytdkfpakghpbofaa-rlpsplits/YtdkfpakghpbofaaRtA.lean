import Derived.Test.YtdkfpakghpbofaaRsP
import Derived.Test.YtdkfpakghpbofaaRefCmp
import Derived.Test.YtdkfpakghpbofaaRsH
import Derived.Test.YtdkfpakghpbofaaRjG
/- Layer 7: the document's head: the short ones. -/
namespace Go.Proofs.Ytdkfpakghpbofaa
open Go.RowKit Go.Sort
set_option maxRecDepth 100000 in
set_option maxHeartbeats 4000000 in
theorem rd_empty {a : Option Addr} {m c : Nat} (w : World) :
    Calls Try.prog 16 #[.slice a m c, .int .i64 (m : Int), .int .i64 (m : Int)] w fun e w' => e = .returned (.tuple #[.agg #[.bool false, .int .i64 0, .int .i64 0], .int .i64 70]) ∧ Below w.heap.size w w' := by
  have b1 : decide ((m : Int) ≤ (m : Int)) = true := decide_eq_true (by omega)
  go_enter Try.func16, Try.ntmps16
  go_wp2
  simp [bodyPost, results, Try.results16, go_sem]
  repeat (first | with_reducible exact Below.refl _ _ | with_reducible refine Below.setCell ?_ (Nat.le_refl _) _ | with_reducible refine Below.alloc ?_ (Nat.le_refl _) _)
set_option maxRecDepth 100000 in
set_option maxHeartbeats 4000000 in
theorem rd_low {b o c m p : Nat} {f : Int} (hp : p < m) (hm : m ≤ 16777216) (hf0 : 0 ≤ f) (hf : f < 128) (w : World) (h : w.cell? ⟨b, o + p, none⟩ = some (.int .u8 f)) :
    Calls Try.prog 16 #[.slice (some ⟨b, o, none⟩) m c, .int .i64 (p : Int), .int .i64 (m : Int)] w fun e w' => e = .returned (.tuple #[.agg #[.bool false, .int .i64 (p : Int), .int .i64 ((p : Int) + 1)], .int .i64 0]) ∧ Below w.heap.size w w' := by
  have b1 : decide ((m : Int) ≤ (p : Int)) = false := decide_eq_false (by omega)
  have b2 : (p : Int) < (m : Int) := by omega
  have b3 : (m : Int) ≤ 16777216 := by omega
  have g := fun ob => keepC ((Below.refl w.heap.size w).alloc (Nat.le_refl _) ob) h
  clear hp hm h
  go_enter Try.func16, Try.ntmps16
  go_wp2
  simp [bodyPost, results, Try.results16, go_sem]
  repeat (first | with_reducible exact Below.refl _ _ | with_reducible refine Below.setCell ?_ (Nat.le_refl _) _ | with_reducible refine Below.alloc ?_ (Nat.le_refl _) _)
set_option maxRecDepth 100000 in
set_option maxHeartbeats 4000000 in
theorem rd_short {b o c m p q : Nat} {f : Int} {l t : Bool} {r : Value} (hp : p < m) (hm : m ≤ 16777216) (hc : m ≤ c) (f0 : 128 ≤ f) (f1 : f < 256) (hl : decide (192 ≤ f) = l) (t1 : f % 64 = (q : Int)) (hq : q ≤ 55) (w : World) (h : w.cell? ⟨b, o + p, none⟩ = some (.int .u8 f))
    (ht : l = false → q = 1 → p + 1 < m → ∃ y, w.cell? ⟨b, o + (p + 1), none⟩ = some (.int .u8 y) ∧ decide (y < 128) = t)
    (hr : r = if m < p + 1 + q then .tuple #[.agg #[.bool false, .int .i64 0, .int .i64 0], .int .i64 70] else if l = false ∧ q = 1 ∧ t = true then .tuple #[.agg #[.bool false, .int .i64 0, .int .i64 0], .int .i64 71] else .tuple #[.agg #[.bool l, .int .i64 ((p : Int) + 1), .int .i64 ((p : Int) + 1 + (q : Int))], .int .i64 0]) :
    Calls Try.prog 16 #[.slice (some ⟨b, o, none⟩) m c, .int .i64 (p : Int), .int .i64 (m : Int)] w fun e w' => e = .returned r ∧ Below w.heap.size w w' := by
  have b1 : decide ((m : Int) ≤ (p : Int)) = false := decide_eq_false (by omega)
  have b2 : (p : Int) < (m : Int) := by omega
  have b3 : (m : Int) ≤ 16777216 := by omega
  have b4 : decide (f < 128) = false := decide_eq_false (by omega)
  have b5 : decide (55 < (q : Int)) = false := decide_eq_false (by omega)
  have b6 : (q : Int) ≤ 55 := by omega
  have wf : wrap64 f = f := by unfold wrap64; omega
  have t2 : f.tmod 64 = (q : Int) := by rw [Int.tmod_eq_emod_of_nonneg (by omega)]; exact t1
  have g := fun ob => keepC ((Below.refl w.heap.size w).alloc (Nat.le_refl _) ob) h
  have e1 : ((p : Int) + 1).toNat = p + 1 := by omega
  have HP : Hid (p < m ∧ m ≤ 16777216 ∧ m ≤ c ∧ q ≤ 55) := ⟨hp, hm, hc, hq⟩
  have HT : Hid (l = false → q = 1 → p + 1 < m → ∃ y, w.cell? ⟨b, o + (p + 1), none⟩ = some (.int .u8 y) ∧ decide (y < 128) = t) := ht
  have o1 : w.heap.size ≤ w.heap.size + 1 := by omega
  have hne : w.heap.size + 1 ≠ w.heap.size := by omega
  clear h t1 hp hm hc hq ht
  by_cases k1 : m < p + 1 + q
  · rw [if_pos k1] at hr
    have d1 : decide ((m : Int) - ((p : Int) + 1) < (q : Int)) = true := decide_eq_true (by omega)
    subst hr
    go_enter Try.func16, Try.ntmps16
    go_wp2
    simp [bodyPost, results, Try.results16, go_sem]
    repeat (first | with_reducible exact Below.refl _ _ | with_reducible refine Below.setCell ?_ (Nat.le_refl _) _ | with_reducible refine Below.setCell ?_ o1 _ | with_reducible refine Below.alloc ?_ (Nat.le_refl _) _ | with_reducible refine Below.alloc ?_ (by simp) _)
  rw [if_neg k1] at hr
  have d1 : decide ((m : Int) - ((p : Int) + 1) < (q : Int)) = false := decide_eq_false (by omega)
  cases l
  · by_cases q1 : q = 1
    · subst q1
      obtain ⟨y, gy, ty⟩ := HT.out rfl rfl (by have := HP.out; omega)
      have g2 := fun ob1 ob2 => keepC (((Below.refl w.heap.size w).alloc (Nat.le_refl _) ob1).alloc (by simp) ob2) gy
      have b7 : (p : Int) + 1 < (m : Int) := by have := HP.out; omega
      have lt : b < w.heap.size := World.block_lt_of_cell? w _ gy
      have nb : w.heap.size + 1 ≠ b := by omega
      have nb2 : w.heap.size ≠ b := by omega
      clear gy HT HP
      cases t
      · rw [if_neg (by simp)] at hr
        subst hr
        go_enter Try.func16, Try.ntmps16
        go_wp2
        simp [bodyPost, results, Try.results16, go_sem]
        repeat (first | with_reducible exact Below.refl _ _ | with_reducible refine Below.setCell ?_ (Nat.le_refl _) _ | with_reducible refine Below.setCell ?_ o1 _ | with_reducible refine Below.alloc ?_ (Nat.le_refl _) _ | with_reducible refine Below.alloc ?_ (by simp) _)
      · rw [if_pos ⟨rfl, rfl, rfl⟩] at hr
        subst hr
        go_enter Try.func16, Try.ntmps16
        go_wp2
        simp [bodyPost, results, Try.results16, go_sem]
        repeat (first | with_reducible exact Below.refl _ _ | with_reducible refine Below.setCell ?_ (Nat.le_refl _) _ | with_reducible refine Below.setCell ?_ o1 _ | with_reducible refine Below.alloc ?_ (Nat.le_refl _) _ | with_reducible refine Below.alloc ?_ (by simp) _)
    · rw [if_neg (fun x => q1 x.2.1)] at hr
      have qb : ((q : Int) == 1) = false := by simp; omega
      clear HT HP
      subst hr
      go_enter Try.func16, Try.ntmps16
      go_wp2
      simp [bodyPost, results, Try.results16, go_sem]
      repeat (first | with_reducible exact Below.refl _ _ | with_reducible refine Below.setCell ?_ (Nat.le_refl _) _ | with_reducible refine Below.setCell ?_ o1 _ | with_reducible refine Below.alloc ?_ (Nat.le_refl _) _ | with_reducible refine Below.alloc ?_ (by simp) _)
  · rw [if_neg (fun x => by cases x.1)] at hr
    clear HT HP
    subst hr
    go_enter Try.func16, Try.ntmps16
    go_wp2
    simp [bodyPost, results, Try.results16, go_sem]
    repeat (first | with_reducible exact Below.refl _ _ | with_reducible refine Below.setCell ?_ (Nat.le_refl _) _ | with_reducible refine Below.setCell ?_ o1 _ | with_reducible refine Below.alloc ?_ (Nat.le_refl _) _ | with_reducible refine Below.alloc ?_ (by simp) _)
end Go.Proofs.Ytdkfpakghpbofaa
