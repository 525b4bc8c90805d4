import Derived.Test.YtlpmphldmfefkaaDoorHold
import Derived.Test.YtlpmphldmfefkaaDoorRefNum
import Derived.Test.YtlpmphldmfefkaaDoorAdd
namespace Go.Proofs.YtlpmphldmfefkaaDoor
open Go.RowKit

set_option maxHeartbeats 1000000 in
theorem digits_limbs {x0 x1 x2 x3 : Int} (h0 : Word x0) (h1 : Word x1) (h2 : Word x2) (h3 : Word x3) (w : World) :
    Calls Tryd.prog 79 #[.agg #[.int .u64 x0, .int .u64 x1, .int .u64 x2, .int .u64 x3]] w fun e w' =>
      e = .returned (.agg #[.int .u64 (x0 % 4294967296), .int .u64 (x0 / 4294967296), .int .u64 (x1 % 4294967296), .int .u64 (x1 / 4294967296), .int .u64 (x2 % 4294967296), .int .u64 (x2 / 4294967296), .int .u64 (x3 % 4294967296), .int .u64 (x3 / 4294967296)]) ∧ Below w.heap.size w w' := by
  obtain ⟨_, _⟩ := h0; obtain ⟨_, _⟩ := h1; obtain ⟨_, _⟩ := h2; obtain ⟨_, _⟩ := h3
  go_enter Tryd.func79, Tryd.ntmps79
  go_wp2
  refine wp_loop_rounds 5 ?_
  rw [rounds_succ]; go_wp2
  rw [rounds_succ]; go_wp2
  rw [rounds_succ]; go_wp2
  rw [rounds_succ]; go_wp2
  rw [rounds_succ]; go_wp2
  simp [bodyPost, results, Tryd.results79, go_sem]
  repeat (first | with_reducible exact Below.refl _ _ | with_reducible refine Below.drew ?_ | with_reducible refine Below.alloc ?_ (by first | omega | (simp; done) | (simp; omega)) _)

set_option maxHeartbeats 1000000 in
theorem number_digits {d0 d1 d2 d3 d4 d5 d6 d7 : Int} (h0 : Dig d0) (h1 : Dig d1) (h2 : Dig d2) (h3 : Dig d3) (h4 : Dig d4) (h5 : Dig d5) (h6 : Dig d6) (h7 : Dig d7) (w : World) :
    Calls Tryd.prog 80 #[.agg #[.int .u64 d0, .int .u64 d1, .int .u64 d2, .int .u64 d3, .int .u64 d4, .int .u64 d5, .int .u64 d6, .int .u64 d7]] w fun e w' =>
      e = .returned (.agg #[.int .u64 (d0 + 4294967296 * d1), .int .u64 (d2 + 4294967296 * d3), .int .u64 (d4 + 4294967296 * d5), .int .u64 (d6 + 4294967296 * d7)]) ∧ Below w.heap.size w w' := by
  obtain ⟨_, _⟩ := h0; obtain ⟨_, _⟩ := h1; obtain ⟨_, _⟩ := h2; obtain ⟨_, _⟩ := h3; obtain ⟨_, _⟩ := h4; obtain ⟨_, _⟩ := h5; obtain ⟨_, _⟩ := h6; obtain ⟨_, _⟩ := h7
  go_enter Tryd.func80, Tryd.ntmps80
  go_wp2
  refine wp_loop_rounds 5 ?_
  rw [rounds_succ]; go_wp2; go_region; go_wp2
  rw [rounds_succ]; go_wp2; go_region; go_wp2
  rw [rounds_succ]; go_wp2; go_region; go_wp2
  rw [rounds_succ]; go_wp2; go_region; go_wp2
  rw [rounds_succ]; go_wp2
  simp [bodyPost, results, Tryd.results80, go_sem]
  repeat (first | with_reducible exact Below.refl _ _ | with_reducible refine Below.drew ?_ | with_reducible refine Below.alloc ?_ (by first | omega | (simp; done) | (simp; omega)) _)

theorem number_any {l : List Int} {n : Int} (hl : l.length = 8) (hd : Digs l) (e : vd l = n) (w : World) :
    Calls Tryd.prog 80 #[.agg (l.map (Value.int .u64)).toArray] w fun e w' => e = .returned (.agg #[.int .u64 (l0 n), .int .u64 (l1 n), .int .u64 (l2 n), .int .u64 (l3 n)]) ∧ Below w.heap.size w w' := by
  obtain ⟨a, b, c, d, e', f, g, i, rfl⟩ := len8 hl
  obtain ⟨_, q0, q1, q2, q3⟩ := vd_limbs hd e
  have := number_digits (hd a (by simp)) (hd b (by simp)) (hd c (by simp)) (hd d (by simp)) (hd e' (by simp)) (hd f (by simp)) (hd g (by simp)) (hd i (by simp)) w
  rw [q0, q1, q2, q3] at this
  exact this

/-- The digits of a number, under names. -/
theorem digits_names {n : Int} (hn : Num n) : ∃ a0 a1 a2 a3 a4 a5 a6 a7, Digs [a0, a1, a2, a3, a4, a5, a6, a7] ∧ vd [a0, a1, a2, a3, a4, a5, a6, a7] = n ∧
    ∀ w, Calls Tryd.prog 79 #[.agg #[.int .u64 (l0 n), .int .u64 (l1 n), .int .u64 (l2 n), .int .u64 (l3 n)]] w fun e w' => e = .returned (.agg #[.int .u64 a0, .int .u64 a1, .int .u64 a2, .int .u64 a3, .int .u64 a4, .int .u64 a5, .int .u64 a6, .int .u64 a7]) ∧ Below w.heap.size w w' :=
  ⟨_, _, _, _, _, _, _, _, dl_digs n, dl_vd hn, fun w => digits_limbs (l0_word n) (l1_word n) (l2_word n) (l3_word n) w⟩
/-- Block b holds these digits and may be written. -/
def Dgs (W : World) (b : Nat) (l : List Int) : Prop := Row W b l ∧ Loose W b l.length
theorem Dgs.keep {W w1 : World} {b : Nat} {l : List Int} (h : Dgs W b l) (hl : 0 < l.length) (hb : Below W.heap.size W w1) : Dgs w1 b l := ⟨h.1.keep hb, h.2.keep hb (h.1.lt hl)⟩
theorem Dgs.alloc {W : World} {b : Nat} {l : List Int} (h : Dgs W b l) (hl : 0 < l.length) (o : Obj) : Dgs (W.alloc o) b l := h.keep hl ((Below.refl _ _).alloc (Nat.le_refl _) o)
theorem Dgs.new (W : World) (l : List Int) (t : TypeId) : Dgs (W.alloc (.cells (l.map (Value.int .u64)).toArray t)) W.heap.size l := ⟨Row.new W l t, Loose.new _ _ _ _⟩
theorem Dgs.set {W : World} {b : Nat} {l : List Int} (h : Dgs W b l) (i : Nat) (hi : i < l.length) (v : Int) : Dgs (W.setCell ⟨b, i, none⟩ (.int .u64 v)) b (l.set i v) := ⟨h.1.set i hi v, by rw [List.length_set]; exact h.2.set _ _⟩
theorem Dgs.drew {W : World} {b : Nat} {l : List Int} (h : Dgs W b l) : Dgs W.drew b l := h
theorem Dgs.other {W : World} {b b' i : Nat} {l : List Int} (h : Dgs W b l) (ne : b' ≠ b) (v : Value) : Dgs (W.setCell ⟨b', i, none⟩ v) b l := ⟨h.1.setOther ne v, h.2.set _ _⟩

end Go.Proofs.YtlpmphldmfefkaaDoor

namespace Go.Proofs.YtlpmphldmfefkaaDoor
open Go.RowKit

def cmpL (x0 x1 x2 x3 y0 y1 y2 y3 : Int) : Int := if x3 < y3 then -1 else if y3 < x3 then 1 else if x2 < y2 then -1 else if y2 < x2 then 1 else if x1 < y1 then -1 else if y1 < x1 then 1 else if x0 < y0 then -1 else if y0 < x0 then 1 else 0

theorem cmpL_eq {n m : Int} (hn : Num n) (hm : Num m) : cmpL (l0 n) (l1 n) (l2 n) (l3 n) (l0 m) (l1 m) (l2 m) (l3 m) = cmpN n m := by
  have e1 := num_l hn; have e2 := num_l hm
  unfold num at e1 e2
  obtain ⟨_, _⟩ := l0_word n; obtain ⟨_, _⟩ := l1_word n; obtain ⟨_, _⟩ := l2_word n; obtain ⟨_, _⟩ := l3_word n
  obtain ⟨_, _⟩ := l0_word m; obtain ⟨_, _⟩ := l1_word m; obtain ⟨_, _⟩ := l2_word m; obtain ⟨_, _⟩ := l3_word m
  generalize l0 n = x0 at *; generalize l1 n = x1 at *; generalize l2 n = x2 at *; generalize l3 n = x3 at *
  generalize l0 m = y0 at *; generalize l1 m = y1 at *; generalize l2 m = y2 at *; generalize l3 m = y3 at *
  unfold cmpL cmpN
  by_cases h : n = m
  · rw [if_pos h]
    have : x3 = y3 := by omega
    have : x2 = y2 := by omega
    have : x1 = y1 := by omega
    have : x0 = y0 := by omega
    repeat rw [if_neg (by omega)]
  · rw [if_neg h]
    by_cases h2 : n < m
    · rw [if_pos h2]
      by_cases a3 : x3 < y3
      · rw [if_pos a3]
      rw [if_neg a3, if_neg (show ¬ y3 < x3 by omega)]
      by_cases a2 : x2 < y2
      · rw [if_pos a2]
      rw [if_neg a2, if_neg (show ¬ y2 < x2 by omega)]
      by_cases a1 : x1 < y1
      · rw [if_pos a1]
      rw [if_neg a1, if_neg (show ¬ y1 < x1 by omega), if_pos (show x0 < y0 by omega)]
    · rw [if_neg h2]
      by_cases a3 : y3 < x3
      · rw [if_neg (show ¬ x3 < y3 by omega), if_pos a3]
      rw [if_neg (show ¬ x3 < y3 by omega), if_neg a3]
      by_cases a2 : y2 < x2
      · rw [if_neg (show ¬ x2 < y2 by omega), if_pos a2]
      rw [if_neg (show ¬ x2 < y2 by omega), if_neg a2]
      by_cases a1 : y1 < x1
      · rw [if_neg (show ¬ x1 < y1 by omega), if_pos a1]
      rw [if_neg (show ¬ x1 < y1 by omega), if_neg a1, if_neg (show ¬ x0 < y0 by omega), if_pos (show y0 < x0 by omega)]

set_option maxHeartbeats 2000000 in
theorem rcmp_limbs (x0 x1 x2 x3 y0 y1 y2 y3 : Int) (w : World) :
    Calls Tryd.prog 59 #[.agg #[.int .u64 x0, .int .u64 x1, .int .u64 x2, .int .u64 x3], .agg #[.int .u64 y0, .int .u64 y1, .int .u64 y2, .int .u64 y3]] w fun e w' => e = .returned (.int .i64 (cmpL x0 x1 x2 x3 y0 y1 y2 y3)) ∧ Below w.heap.size w w' := by
  go_enter Tryd.func59, Tryd.ntmps59
  go_wp2
  refine wp_loop_rounds 5 ?_
  rw [rounds_succ]
  by_cases a3 : x3 < y3
  · have ec : cmpL x0 x1 x2 x3 y0 y1 y2 y3 = -1 := by unfold cmpL; rw [if_pos a3]
    go_wp2
    repeat (go_region; go_wp2)
    simp [bodyPost, results, Tryd.results59, go_sem, ec]
    repeat (first | with_reducible exact Below.refl _ _ | with_reducible refine Below.drew ?_ | with_reducible refine Below.alloc ?_ (by first | omega | (simp; done) | (simp; omega)) _)
  by_cases b3 : y3 < x3
  · have ec : cmpL x0 x1 x2 x3 y0 y1 y2 y3 = 1 := by unfold cmpL; rw [if_neg (show ¬ x3 < y3 by omega), if_pos b3]
    go_wp2
    repeat (go_region; go_wp2)
    simp [bodyPost, results, Tryd.results59, go_sem, ec]
    repeat (first | with_reducible exact Below.refl _ _ | with_reducible refine Below.drew ?_ | with_reducible refine Below.alloc ?_ (by first | omega | (simp; done) | (simp; omega)) _)
  go_wp2
  repeat (go_region; go_wp2)
  rw [rounds_succ]
  by_cases a2 : x2 < y2
  · have ec : cmpL x0 x1 x2 x3 y0 y1 y2 y3 = -1 := by unfold cmpL; rw [if_neg (show ¬ x3 < y3 by omega), if_neg (show ¬ y3 < x3 by omega), if_pos a2]
    go_wp2
    repeat (go_region; go_wp2)
    simp [bodyPost, results, Tryd.results59, go_sem, ec]
    repeat (first | with_reducible exact Below.refl _ _ | with_reducible refine Below.drew ?_ | with_reducible refine Below.alloc ?_ (by first | omega | (simp; done) | (simp; omega)) _)
  by_cases b2 : y2 < x2
  · have ec : cmpL x0 x1 x2 x3 y0 y1 y2 y3 = 1 := by unfold cmpL; rw [if_neg (show ¬ x3 < y3 by omega), if_neg (show ¬ y3 < x3 by omega), if_neg (show ¬ x2 < y2 by omega), if_pos b2]
    go_wp2
    repeat (go_region; go_wp2)
    simp [bodyPost, results, Tryd.results59, go_sem, ec]
    repeat (first | with_reducible exact Below.refl _ _ | with_reducible refine Below.drew ?_ | with_reducible refine Below.alloc ?_ (by first | omega | (simp; done) | (simp; omega)) _)
  go_wp2
  repeat (go_region; go_wp2)
  rw [rounds_succ]
  by_cases a1 : x1 < y1
  · have ec : cmpL x0 x1 x2 x3 y0 y1 y2 y3 = -1 := by unfold cmpL; rw [if_neg (show ¬ x3 < y3 by omega), if_neg (show ¬ y3 < x3 by omega), if_neg (show ¬ x2 < y2 by omega), if_neg (show ¬ y2 < x2 by omega), if_pos a1]
    go_wp2
    repeat (go_region; go_wp2)
    simp [bodyPost, results, Tryd.results59, go_sem, ec]
    repeat (first | with_reducible exact Below.refl _ _ | with_reducible refine Below.drew ?_ | with_reducible refine Below.alloc ?_ (by first | omega | (simp; done) | (simp; omega)) _)
  by_cases b1 : y1 < x1
  · have ec : cmpL x0 x1 x2 x3 y0 y1 y2 y3 = 1 := by unfold cmpL; rw [if_neg (show ¬ x3 < y3 by omega), if_neg (show ¬ y3 < x3 by omega), if_neg (show ¬ x2 < y2 by omega), if_neg (show ¬ y2 < x2 by omega), if_neg (show ¬ x1 < y1 by omega), if_pos b1]
    go_wp2
    repeat (go_region; go_wp2)
    simp [bodyPost, results, Tryd.results59, go_sem, ec]
    repeat (first | with_reducible exact Below.refl _ _ | with_reducible refine Below.drew ?_ | with_reducible refine Below.alloc ?_ (by first | omega | (simp; done) | (simp; omega)) _)
  go_wp2
  repeat (go_region; go_wp2)
  rw [rounds_succ]
  by_cases a0 : x0 < y0
  · have ec : cmpL x0 x1 x2 x3 y0 y1 y2 y3 = -1 := by unfold cmpL; rw [if_neg (show ¬ x3 < y3 by omega), if_neg (show ¬ y3 < x3 by omega), if_neg (show ¬ x2 < y2 by omega), if_neg (show ¬ y2 < x2 by omega), if_neg (show ¬ x1 < y1 by omega), if_neg (show ¬ y1 < x1 by omega), if_pos a0]
    go_wp2
    repeat (go_region; go_wp2)
    simp [bodyPost, results, Tryd.results59, go_sem, ec]
    repeat (first | with_reducible exact Below.refl _ _ | with_reducible refine Below.drew ?_ | with_reducible refine Below.alloc ?_ (by first | omega | (simp; done) | (simp; omega)) _)
  by_cases b0 : y0 < x0
  · have ec : cmpL x0 x1 x2 x3 y0 y1 y2 y3 = 1 := by unfold cmpL; rw [if_neg (show ¬ x3 < y3 by omega), if_neg (show ¬ y3 < x3 by omega), if_neg (show ¬ x2 < y2 by omega), if_neg (show ¬ y2 < x2 by omega), if_neg (show ¬ x1 < y1 by omega), if_neg (show ¬ y1 < x1 by omega), if_neg (show ¬ x0 < y0 by omega), if_pos b0]
    go_wp2
    repeat (go_region; go_wp2)
    simp [bodyPost, results, Tryd.results59, go_sem, ec]
    repeat (first | with_reducible exact Below.refl _ _ | with_reducible refine Below.drew ?_ | with_reducible refine Below.alloc ?_ (by first | omega | (simp; done) | (simp; omega)) _)
  go_wp2
  repeat (go_region; go_wp2)
  rw [rounds_succ]
  have ec : cmpL x0 x1 x2 x3 y0 y1 y2 y3 = 0 := by unfold cmpL; rw [if_neg (show ¬ x3 < y3 by omega), if_neg (show ¬ y3 < x3 by omega), if_neg (show ¬ x2 < y2 by omega), if_neg (show ¬ y2 < x2 by omega), if_neg (show ¬ x1 < y1 by omega), if_neg (show ¬ y1 < x1 by omega), if_neg (show ¬ x0 < y0 by omega), if_neg (show ¬ y0 < x0 by omega)]
  go_wp2
  simp [bodyPost, results, Tryd.results59, go_sem, ec]
  repeat (first | with_reducible exact Below.refl _ _ | with_reducible refine Below.drew ?_ | with_reducible refine Below.alloc ?_ (by first | omega | (simp; done) | (simp; omega)) _)

theorem rcmp_any {n m : Int} (hn : Num n) (hm : Num m) (w : World) :
    Calls Tryd.prog 59 #[.agg #[.int .u64 (l0 n), .int .u64 (l1 n), .int .u64 (l2 n), .int .u64 (l3 n)], .agg #[.int .u64 (l0 m), .int .u64 (l1 m), .int .u64 (l2 m), .int .u64 (l3 m)]] w fun e w' => e = .returned (.int .i64 (cmpN n m)) ∧ Below w.heap.size w w' := by
  rw [← cmpL_eq hn hm]; exact rcmp_limbs _ _ _ _ _ _ _ _ w

theorem rfrom_any {v : Int} (h : Word v) (w : World) :
    Calls Tryd.prog 57 #[.int .u64 v] w fun e w' => e = .returned (.agg #[.int .u64 (l0 v), .int .u64 (l1 v), .int .u64 (l2 v), .int .u64 (l3 v)]) ∧ Below w.heap.size w w' := by
  obtain ⟨r0, r1, r2, r3⟩ := from_val h
  rw [r0, r1, r2, r3]
  clear r0 r1 r2 r3
  go_enter Tryd.func57, Tryd.ntmps57
  go_wp2
  simp [bodyPost, results, Tryd.results57, go_sem]
  repeat (first | with_reducible exact Below.refl _ _ | with_reducible refine Below.drew ?_ | with_reducible refine Below.alloc ?_ (by first | omega | (simp; done) | (simp; omega)) _)

end Go.Proofs.YtlpmphldmfefkaaDoor
