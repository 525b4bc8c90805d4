import Derived.Test.YtllfmlgnemkklaaDoorTxS
import Derived.Test.YtllfmlgnemkklaaDoorAdd
namespace Go.Proofs.YtllfmlgnemkklaaDoor
open Go.RowKit Go.Sort
open tq
set_option maxRecDepth 100000 in
set_option maxHeartbeats 4000000 in
theorem fixed_low {t : Txv} {b d : Int} (h20 : t.to.length = 20) (S1 : Hid (∀ w, Calls Tryd.prog 49 #[.agg #[.int .u64 (l0 t.pr), .int .u64 (l1 t.pr), .int .u64 (l2 t.pr), .int .u64 (l3 t.pr)], .agg #[.int .u64 (l0 b), .int .u64 (l1 b), .int .u64 (l2 b), .int .u64 (l3 b)]] w fun e w' => e = .returned (.tuple #[.agg #[.int .u64 (l0 d), .int .u64 (l1 d), .int .u64 (l2 d), .int .u64 (l3 d)], .int .u64 1]) ∧ Below w.heap.size w w')) (w : World) :
    Calls Tryd.prog 35 #[.agg (txC t).toArray, .agg #[.int .u64 (l0 b), .int .u64 (l1 b), .int .u64 (l2 b), .int .u64 (l3 b)]] w fun e w' => e = .returned (.tuple #[.agg #[.int .u64 0, .int .u64 0, .int .u64 0, .int .u64 0], .agg #[.int .u64 0, .int .u64 0, .int .u64 0, .int .u64 0], .int .i64 180]) ∧ Below w.heap.size w w' := by
  have hz := build_zero
  have hb3 : ∀ o1 o2 o3, TxB ((((w.alloc (.cells (txC t).toArray 32)).alloc o1).alloc o2).alloc o3) w.heap.size t := fun o1 o2 o3 => (TxB.new h20).keep ((((Below.refl _ _).alloc (Nat.le_refl _) _).alloc (by simp) _).alloc (by first | (simp; done) | (simp; omega)) _)
  have i0 := fun o1 o2 o3 => (hb3 o1 o2 o3).pr
  have HB3 : Hid (∀ o1 o2 o3, TxB ((((w.alloc (.cells (txC t).toArray 32)).alloc o1).alloc o2).alloc o3) w.heap.size t) := hb3
  clear hb3
  generalize txC t = M at *
  go_enter Tryd.func35, Tryd.ntmps35
  go_wp2_with fail
  refine calls_world (fun W => Below w.heap.size w W ∧ TxB W w.heap.size t ∧ Blank W (w.heap.size + 1 + 1) ∧ Blank W (w.heap.size + 1 + 1 + 1)) ⟨by repeat (first | with_reducible exact Below.refl _ _ | with_reducible refine Below.alloc ?_ (by first | omega | (simp; done) | (simp; omega)) _), HB3.out _ _ _, (Blank.new (by simp)).alloc _, Blank.new (by simp)⟩ ?_
  clear i0 HB3
  rintro W ⟨B, hX, hP, hQ⟩
  have o1 : w.heap.size ≤ w.heap.size + 1 + 1 := by omega
  have o2 : w.heap.size ≤ w.heap.size + 1 + 1 + 1 := by omega
  have c1 : w.heap.size + 1 + 1 ≠ w.heap.size + 1 + 1 + 1 := by omega
  have c2 := c1.symm
  have c3 : w.heap.size + 1 + 1 + 1 ≠ w.heap.size := by omega
  have c5 : w.heap.size + 1 + 1 ≠ w.heap.size := by omega
  generalize w.heap.size + 1 + 1 + 1 = bt at *
  generalize w.heap.size + 1 + 1 = bp at *
  with_reducible refine (S1.out _).mono ?_
  rintro e w1 ⟨rfl, hb⟩
  replace B := B.trans (hb.mono B.size)
  replace hX := hX.keep hb; replace hP := hP.keep hb; replace hQ := hQ.keep hb
  clear hb W
  have gQ := hQ.1.all4; have fQ := hQ.2.all4
  have gP := hP.1.all4; have fP := hP.2.all4
  go_wp2
  simp (config := { maxDischargeDepth := 6, maxSteps := 4000000 }) [bodyPost, results, Tryd.results35, go_sem, *]
  repeat (first | with_reducible exact B | with_reducible refine Below.setCell ?_ o1 _ | with_reducible refine Below.setCell ?_ o2 _ | with_reducible refine Below.drew ?_)

set_option maxRecDepth 100000 in
set_option maxHeartbeats 4000000 in
theorem fixed_ok {t : Txv} {b d : Int} (h20 : t.to.length = 20) (S1 : Hid (∀ w, Calls Tryd.prog 49 #[.agg #[.int .u64 (l0 t.pr), .int .u64 (l1 t.pr), .int .u64 (l2 t.pr), .int .u64 (l3 t.pr)], .agg #[.int .u64 (l0 b), .int .u64 (l1 b), .int .u64 (l2 b), .int .u64 (l3 b)]] w fun e w' => e = .returned (.tuple #[.agg #[.int .u64 (l0 d), .int .u64 (l1 d), .int .u64 (l2 d), .int .u64 (l3 d)], .int .u64 0]) ∧ Below w.heap.size w w')) (w : World) :
    Calls Tryd.prog 35 #[.agg (txC t).toArray, .agg #[.int .u64 (l0 b), .int .u64 (l1 b), .int .u64 (l2 b), .int .u64 (l3 b)]] w fun e w' => e = .returned (.tuple #[.agg #[.int .u64 (l0 t.pr), .int .u64 (l1 t.pr), .int .u64 (l2 t.pr), .int .u64 (l3 t.pr)], .agg #[.int .u64 (l0 d), .int .u64 (l1 d), .int .u64 (l2 d), .int .u64 (l3 d)], .int .i64 0]) ∧ Below w.heap.size w w' := by
  have hz := build_zero
  have hb3 : ∀ o1 o2 o3, TxB ((((w.alloc (.cells (txC t).toArray 32)).alloc o1).alloc o2).alloc o3) w.heap.size t := fun o1 o2 o3 => (TxB.new h20).keep ((((Below.refl _ _).alloc (Nat.le_refl _) _).alloc (by simp) _).alloc (by first | (simp; done) | (simp; omega)) _)
  have i0 := fun o1 o2 o3 => (hb3 o1 o2 o3).pr
  have HB3 : Hid (∀ o1 o2 o3, TxB ((((w.alloc (.cells (txC t).toArray 32)).alloc o1).alloc o2).alloc o3) w.heap.size t) := hb3
  clear hb3
  generalize txC t = M at *
  go_enter Tryd.func35, Tryd.ntmps35
  go_wp2_with fail
  refine calls_world (fun W => Below w.heap.size w W ∧ TxB W w.heap.size t ∧ Blank W (w.heap.size + 1 + 1) ∧ Blank W (w.heap.size + 1 + 1 + 1)) ⟨by repeat (first | with_reducible exact Below.refl _ _ | with_reducible refine Below.alloc ?_ (by first | omega | (simp; done) | (simp; omega)) _), HB3.out _ _ _, (Blank.new (by simp)).alloc _, Blank.new (by simp)⟩ ?_
  clear i0 HB3
  rintro W ⟨B, hX, hP, hQ⟩
  have o1 : w.heap.size ≤ w.heap.size + 1 + 1 := by omega
  have o2 : w.heap.size ≤ w.heap.size + 1 + 1 + 1 := by omega
  have c1 : w.heap.size + 1 + 1 ≠ w.heap.size + 1 + 1 + 1 := by omega
  have c2 := c1.symm
  have c3 : w.heap.size + 1 + 1 + 1 ≠ w.heap.size := by omega
  have c5 : w.heap.size + 1 + 1 ≠ w.heap.size := by omega
  generalize w.heap.size + 1 + 1 + 1 = bt at *
  generalize w.heap.size + 1 + 1 = bp at *
  with_reducible refine (S1.out _).mono ?_
  rintro e w1 ⟨rfl, hb⟩
  replace B := B.trans (hb.mono B.size)
  replace hX := hX.keep hb; replace hP := hP.keep hb; replace hQ := hQ.keep hb
  clear hb W
  have gQ := hQ.1.all4; have fQ := hQ.2.all4
  go_wp2_with fail
  refine wp_world (fun W => Below w.heap.size w W ∧ TxB W w.heap.size t ∧ Blank W bp ∧ Var W bt d) ⟨below_set4 B o2 _ _ _ _, hX.set4 c3 _ _ _ _, hP.set4 c2 _ _ _ _, (Blank.zeroT hQ).sets _⟩ ?_
  clear B hX hP hQ gQ fQ
  rintro W ⟨B, hX, hP, hQ⟩
  have jX := hX.pr; have gQ := hQ.1.cells; have fQ := hQ.2.all4; have gP := hP.1.all4; have fP := hP.2.all4
  clear hX hP hQ
  repeat (go_region; go_wp2)
  all_goals simp [bodyPost, results, Tryd.results35, go_sem, *]
  all_goals repeat (first | with_reducible exact B | with_reducible refine Below.setCell ?_ o1 _ | with_reducible refine Below.setCell ?_ o2 _ | with_reducible refine Below.drew ?_)

/-- What the price is, the tip, the error (behind Draft). -/
def ptN (t : Txv) (b : Int) : Int := if t.ty = 0 ∨ t.ty = 1 then t.pr - b else if t.ti < t.ca - b then t.ti else t.ca - b
def peN (t : Txv) (b : Int) : Int := if t.ty = 0 ∨ t.ty = 1 then (if t.pr < b then 180 else 0) else if t.ca < t.ti then 181 else if t.ca < b then 180 else 0
def ptV (t : Txv) (b : Int) : Int := if peN t b = 0 then ptN t b else 0
def ppV (t : Txv) (b : Int) : Int := if peN t b = 0 then b + ptN t b else 0
theorem fixed_any {t : Txv} {b : Int} (h20 : t.to.length = 20) (hp : Num t.pr) (hb : Num b) (c : t.ty = 0 ∨ t.ty = 1) (w : World) :
    Calls Tryd.prog 35 #[.agg (txC t).toArray, .agg #[.int .u64 (l0 b), .int .u64 (l1 b), .int .u64 (l2 b), .int .u64 (l3 b)]] w fun e w' => e = .returned (.tuple #[.agg #[.int .u64 (l0 (ppV t b)), .int .u64 (l1 (ppV t b)), .int .u64 (l2 (ppV t b)), .int .u64 (l3 (ppV t b))], .agg #[.int .u64 (l0 (ptV t b)), .int .u64 (l1 (ptV t b)), .int .u64 (l2 (ptV t b)), .int .u64 (l3 (ptV t b))], .int .i64 (peN t b)]) ∧ Below w.heap.size w w' := by
  have S1 := fun w => sub_any hp hb w
  have e0 : peN t b = if t.pr < b then 180 else 0 := if_pos c
  have e1 : ptN t b = t.pr - b := if_pos c
  obtain ⟨p0, p1⟩ := hp
  obtain ⟨b0, b1⟩ := hb
  by_cases h : t.pr < b
  · rw [if_pos h] at e0
    rw [show borN t.pr b = 1 from if_pos h] at S1
    rw [show ppV t b = 0 from if_neg (by omega), show ptV t b = 0 from if_neg (by omega), e0]
    obtain ⟨z0, z1, z2, z3⟩ := zero_limbs
    rw [z0, z1, z2, z3]
    exact fixed_low h20 S1 w
  · rw [if_neg h] at e0
    rw [show borN t.pr b = 0 from if_neg h, show difN t.pr b = t.pr - b from Int.emod_eq_of_lt (by omega) (by omega)] at S1
    rw [show ppV t b = t.pr by unfold ppV; rw [if_pos e0, e1]; omega, show ptV t b = t.pr - b by unfold ptV; rw [if_pos e0, e1], e0]
    exact fixed_ok h20 S1 w
theorem capped_any {t : Txv} {b : Int} (h20 : t.to.length = 20) (hti : Num t.ti) (hca : Num t.ca) (hb : Num b) (c : ¬ (t.ty = 0 ∨ t.ty = 1)) (w : World) :
    Calls Tryd.prog 36 #[.agg (txC t).toArray, .agg #[.int .u64 (l0 b), .int .u64 (l1 b), .int .u64 (l2 b), .int .u64 (l3 b)]] w fun e w' => e = .returned (.tuple #[.agg #[.int .u64 (l0 (ppV t b)), .int .u64 (l1 (ppV t b)), .int .u64 (l2 (ppV t b)), .int .u64 (l3 (ppV t b))], .agg #[.int .u64 (l0 (ptV t b)), .int .u64 (l1 (ptV t b)), .int .u64 (l2 (ptV t b)), .int .u64 (l3 (ptV t b))], .int .i64 (peN t b)]) ∧ Below w.heap.size w w' := by
  have C1 := fun w => cmp_any hti hca w
  have S1 := fun w => sub_any hca hb w
  have e0 : peN t b = if t.ca < t.ti then 181 else if t.ca < b then 180 else 0 := if_neg c
  have e1 : ptN t b = if t.ti < t.ca - b then t.ti else t.ca - b := if_neg c
  have nti := hti
  have nb := hb
  obtain ⟨p0, p1⟩ := hti
  obtain ⟨q0, q1⟩ := hca
  obtain ⟨b0, b1⟩ := hb
  have zl := zero_limbs
  obtain ⟨z0, z1, z2, z3⟩ := zl
  by_cases h : t.ca < t.ti
  · rw [if_pos h] at e0
    rw [show ppV t b = 0 from if_neg (by omega), show ptV t b = 0 from if_neg (by omega), e0, z0, z1, z2, z3]
    exact capped_tip h20 C1 (by unfold cmpN; rw [if_neg (by omega), if_neg (by omega)]; decide) w
  have k1 : ¬ 0 < cmpN t.ti t.ca := by unfold cmpN; split <;> (try split) <;> omega
  by_cases h2 : t.ca < b
  · rw [if_neg h, if_pos h2] at e0
    rw [show borN t.ca b = 1 from if_pos h2] at S1
    rw [show ppV t b = 0 from if_neg (by omega), show ptV t b = 0 from if_neg (by omega), e0, z0, z1, z2, z3]
    exact capped_low h20 C1 k1 S1 w
  · rw [if_neg h, if_neg h2] at e0
    have nd : Num (t.ca - b) := ⟨by omega, by omega⟩
    rw [show borN t.ca b = 0 from if_neg h2, show difN t.ca b = t.ca - b from Int.emod_eq_of_lt (by omega) (by omega)] at S1
    have C2 := fun w => cmp_any nti nd w
    by_cases h3 : t.ti < t.ca - b
    · rw [if_pos h3] at e1
      have A1 := fun w => add_any nb nti w
      rw [show sumN b t.ti = b + t.ti from Int.emod_eq_of_lt (by omega) (by omega)] at A1
      rw [show ppV t b = b + t.ti by unfold ppV; rw [if_pos e0, e1], show ptV t b = t.ti by unfold ptV; rw [if_pos e0, e1], e0]
      exact capped_oka h20 C1 k1 S1 C2 (by unfold cmpN; rw [if_neg (by omega), if_pos h3]; decide) A1 w
    · rw [if_neg h3] at e1
      have A1 := fun w => add_any nb nd w
      rw [show sumN b (t.ca - b) = b + (t.ca - b) from Int.emod_eq_of_lt (by omega) (by omega)] at A1
      rw [show ppV t b = b + (t.ca - b) by unfold ppV; rw [if_pos e0, e1], show ptV t b = t.ca - b by unfold ptV; rw [if_pos e0, e1], e0]
      exact capped_okb h20 C1 k1 S1 C2 (by unfold cmpN; split <;> (try split) <;> omega) A1 w
end Go.Proofs.YtllfmlgnemkklaaDoor
