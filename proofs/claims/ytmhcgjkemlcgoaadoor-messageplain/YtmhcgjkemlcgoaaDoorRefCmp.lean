import Derived.Test.YtmhcgjkemlcgoaaDoorRef1
import Derived.Test.YtmhcgjkemlcgoaaDoorCmp
namespace Go.Proofs.YtmhcgjkemlcgoaaDoor
open Go.RowKit

def cmpL (x0 x1 x2 x3 y0 y1 y2 y3 : Int) : Int := if x3 < y3 then -1 else if y3 < x3 then 1 else if x2 < y2 then -1 else if y2 < x2 then 1 else if x1 < y1 then -1 else if y1 < x1 then 1 else if x0 < y0 then -1 else if y0 < x0 then 1 else 0

theorem cmpL_eq {n m : Int} (hn : Num n) (hm : Num m) : cmpL (l0 n) (l1 n) (l2 n) (l3 n) (l0 m) (l1 m) (l2 m) (l3 m) = cmpN n m := by
  have e1 := num_l hn; have e2 := num_l hm
  unfold num at e1 e2
  obtain ⟨_, _⟩ := l0_word n; obtain ⟨_, _⟩ := l1_word n; obtain ⟨_, _⟩ := l2_word n; obtain ⟨_, _⟩ := l3_word n
  obtain ⟨_, _⟩ := l0_word m; obtain ⟨_, _⟩ := l1_word m; obtain ⟨_, _⟩ := l2_word m; obtain ⟨_, _⟩ := l3_word m
  generalize l0 n = x0 at *; generalize l1 n = x1 at *; generalize l2 n = x2 at *; generalize l3 n = x3 at *
  generalize l0 m = y0 at *; generalize l1 m = y1 at *; generalize l2 m = y2 at *; generalize l3 m = y3 at *
  unfold cmpL cmpN
  by_cases h : n = m
  · rw [if_pos h]
    have : x3 = y3 := by omega
    have : x2 = y2 := by omega
    have : x1 = y1 := by omega
    have : x0 = y0 := by omega
    repeat rw [if_neg (by omega)]
  · rw [if_neg h]
    by_cases h2 : n < m
    · rw [if_pos h2]
      by_cases a3 : x3 < y3
      · rw [if_pos a3]
      rw [if_neg a3, if_neg (show ¬ y3 < x3 by omega)]
      by_cases a2 : x2 < y2
      · rw [if_pos a2]
      rw [if_neg a2, if_neg (show ¬ y2 < x2 by omega)]
      by_cases a1 : x1 < y1
      · rw [if_pos a1]
      rw [if_neg a1, if_neg (show ¬ y1 < x1 by omega), if_pos (show x0 < y0 by omega)]
    · rw [if_neg h2]
      by_cases a3 : y3 < x3
      · rw [if_neg (show ¬ x3 < y3 by omega), if_pos a3]
      rw [if_neg (show ¬ x3 < y3 by omega), if_neg a3]
      by_cases a2 : y2 < x2
      · rw [if_neg (show ¬ x2 < y2 by omega), if_pos a2]
      rw [if_neg (show ¬ x2 < y2 by omega), if_neg a2]
      by_cases a1 : y1 < x1
      · rw [if_neg (show ¬ x1 < y1 by omega), if_pos a1]
      rw [if_neg (show ¬ x1 < y1 by omega), if_neg a1, if_neg (show ¬ x0 < y0 by omega), if_pos (show y0 < x0 by omega)]

set_option maxHeartbeats 2000000 in
theorem rcmp_limbs (x0 x1 x2 x3 y0 y1 y2 y3 : Int) (w : World) :
    Calls Tryd.prog 37 #[.agg #[.int .u64 x0, .int .u64 x1, .int .u64 x2, .int .u64 x3], .agg #[.int .u64 y0, .int .u64 y1, .int .u64 y2, .int .u64 y3]] w fun e w' => e = .returned (.int .i64 (cmpL x0 x1 x2 x3 y0 y1 y2 y3)) ∧ Below w.heap.size w w' := by
  go_enter Tryd.func37, Tryd.ntmps37
  go_wp2
  refine wp_loop_rounds 5 ?_
  rw [rounds_succ]
  by_cases a3 : x3 < y3
  · have ec : cmpL x0 x1 x2 x3 y0 y1 y2 y3 = -1 := by unfold cmpL; rw [if_pos a3]
    go_wp2
    repeat (go_region; go_wp2)
    simp [bodyPost, results, Tryd.results37, go_sem, ec]
    repeat (first | with_reducible exact Below.refl _ _ | with_reducible refine Below.drew ?_ | with_reducible refine Below.alloc ?_ (by first | omega | (simp; done) | (simp; omega)) _)
  by_cases b3 : y3 < x3
  · have ec : cmpL x0 x1 x2 x3 y0 y1 y2 y3 = 1 := by unfold cmpL; rw [if_neg (show ¬ x3 < y3 by omega), if_pos b3]
    go_wp2
    repeat (go_region; go_wp2)
    simp [bodyPost, results, Tryd.results37, go_sem, ec]
    repeat (first | with_reducible exact Below.refl _ _ | with_reducible refine Below.drew ?_ | with_reducible refine Below.alloc ?_ (by first | omega | (simp; done) | (simp; omega)) _)
  go_wp2
  repeat (go_region; go_wp2)
  rw [rounds_succ]
  by_cases a2 : x2 < y2
  · have ec : cmpL x0 x1 x2 x3 y0 y1 y2 y3 = -1 := by unfold cmpL; rw [if_neg (show ¬ x3 < y3 by omega), if_neg (show ¬ y3 < x3 by omega), if_pos a2]
    go_wp2
    repeat (go_region; go_wp2)
    simp [bodyPost, results, Tryd.results37, go_sem, ec]
    repeat (first | with_reducible exact Below.refl _ _ | with_reducible refine Below.drew ?_ | with_reducible refine Below.alloc ?_ (by first | omega | (simp; done) | (simp; omega)) _)
  by_cases b2 : y2 < x2
  · have ec : cmpL x0 x1 x2 x3 y0 y1 y2 y3 = 1 := by unfold cmpL; rw [if_neg (show ¬ x3 < y3 by omega), if_neg (show ¬ y3 < x3 by omega), if_neg (show ¬ x2 < y2 by omega), if_pos b2]
    go_wp2
    repeat (go_region; go_wp2)
    simp [bodyPost, results, Tryd.results37, go_sem, ec]
    repeat (first | with_reducible exact Below.refl _ _ | with_reducible refine Below.drew ?_ | with_reducible refine Below.alloc ?_ (by first | omega | (simp; done) | (simp; omega)) _)
  go_wp2
  repeat (go_region; go_wp2)
  rw [rounds_succ]
  by_cases a1 : x1 < y1
  · have ec : cmpL x0 x1 x2 x3 y0 y1 y2 y3 = -1 := by unfold cmpL; rw [if_neg (show ¬ x3 < y3 by omega), if_neg (show ¬ y3 < x3 by omega), if_neg (show ¬ x2 < y2 by omega), if_neg (show ¬ y2 < x2 by omega), if_pos a1]
    go_wp2
    repeat (go_region; go_wp2)
    simp [bodyPost, results, Tryd.results37, go_sem, ec]
    repeat (first | with_reducible exact Below.refl _ _ | with_reducible refine Below.drew ?_ | with_reducible refine Below.alloc ?_ (by first | omega | (simp; done) | (simp; omega)) _)
  by_cases b1 : y1 < x1
  · have ec : cmpL x0 x1 x2 x3 y0 y1 y2 y3 = 1 := by unfold cmpL; rw [if_neg (show ¬ x3 < y3 by omega), if_neg (show ¬ y3 < x3 by omega), if_neg (show ¬ x2 < y2 by omega), if_neg (show ¬ y2 < x2 by omega), if_neg (show ¬ x1 < y1 by omega), if_pos b1]
    go_wp2
    repeat (go_region; go_wp2)
    simp [bodyPost, results, Tryd.results37, go_sem, ec]
    repeat (first | with_reducible exact Below.refl _ _ | with_reducible refine Below.drew ?_ | with_reducible refine Below.alloc ?_ (by first | omega | (simp; done) | (simp; omega)) _)
  go_wp2
  repeat (go_region; go_wp2)
  rw [rounds_succ]
  by_cases a0 : x0 < y0
  · have ec : cmpL x0 x1 x2 x3 y0 y1 y2 y3 = -1 := by unfold cmpL; rw [if_neg (show ¬ x3 < y3 by omega), if_neg (show ¬ y3 < x3 by omega), if_neg (show ¬ x2 < y2 by omega), if_neg (show ¬ y2 < x2 by omega), if_neg (show ¬ x1 < y1 by omega), if_neg (show ¬ y1 < x1 by omega), if_pos a0]
    go_wp2
    repeat (go_region; go_wp2)
    simp [bodyPost, results, Tryd.results37, go_sem, ec]
    repeat (first | with_reducible exact Below.refl _ _ | with_reducible refine Below.drew ?_ | with_reducible refine Below.alloc ?_ (by first | omega | (simp; done) | (simp; omega)) _)
  by_cases b0 : y0 < x0
  · have ec : cmpL x0 x1 x2 x3 y0 y1 y2 y3 = 1 := by unfold cmpL; rw [if_neg (show ¬ x3 < y3 by omega), if_neg (show ¬ y3 < x3 by omega), if_neg (show ¬ x2 < y2 by omega), if_neg (show ¬ y2 < x2 by omega), if_neg (show ¬ x1 < y1 by omega), if_neg (show ¬ y1 < x1 by omega), if_neg (show ¬ x0 < y0 by omega), if_pos b0]
    go_wp2
    repeat (go_region; go_wp2)
    simp [bodyPost, results, Tryd.results37, go_sem, ec]
    repeat (first | with_reducible exact Below.refl _ _ | with_reducible refine Below.drew ?_ | with_reducible refine Below.alloc ?_ (by first | omega | (simp; done) | (simp; omega)) _)
  go_wp2
  repeat (go_region; go_wp2)
  rw [rounds_succ]
  have ec : cmpL x0 x1 x2 x3 y0 y1 y2 y3 = 0 := by unfold cmpL; rw [if_neg (show ¬ x3 < y3 by omega), if_neg (show ¬ y3 < x3 by omega), if_neg (show ¬ x2 < y2 by omega), if_neg (show ¬ y2 < x2 by omega), if_neg (show ¬ x1 < y1 by omega), if_neg (show ¬ y1 < x1 by omega), if_neg (show ¬ x0 < y0 by omega), if_neg (show ¬ y0 < x0 by omega)]
  go_wp2
  simp [bodyPost, results, Tryd.results37, go_sem, ec]
  repeat (first | with_reducible exact Below.refl _ _ | with_reducible refine Below.drew ?_ | with_reducible refine Below.alloc ?_ (by first | omega | (simp; done) | (simp; omega)) _)

theorem rcmp_any {n m : Int} (hn : Num n) (hm : Num m) (w : World) :
    Calls Tryd.prog 37 #[.agg #[.int .u64 (l0 n), .int .u64 (l1 n), .int .u64 (l2 n), .int .u64 (l3 n)], .agg #[.int .u64 (l0 m), .int .u64 (l1 m), .int .u64 (l2 m), .int .u64 (l3 m)]] w fun e w' => e = .returned (.int .i64 (cmpN n m)) ∧ Below w.heap.size w w' := by
  rw [← cmpL_eq hn hm]; exact rcmp_limbs _ _ _ _ _ _ _ _ w

theorem rfrom_any {v : Int} (h : Word v) (w : World) :
    Calls Tryd.prog 14 #[.int .u64 v] w fun e w' => e = .returned (.agg #[.int .u64 (l0 v), .int .u64 (l1 v), .int .u64 (l2 v), .int .u64 (l3 v)]) ∧ Below w.heap.size w w' := by
  obtain ⟨r0, r1, r2, r3⟩ := from_val h
  rw [r0, r1, r2, r3]
  clear r0 r1 r2 r3
  go_enter Tryd.func14, Tryd.ntmps14
  go_wp2
  simp [bodyPost, results, Tryd.results14, go_sem]
  repeat (first | with_reducible exact Below.refl _ _ | with_reducible refine Below.drew ?_ | with_reducible refine Below.alloc ?_ (by first | omega | (simp; done) | (simp; omega)) _)

end Go.Proofs.YtmhcgjkemlcgoaaDoor
