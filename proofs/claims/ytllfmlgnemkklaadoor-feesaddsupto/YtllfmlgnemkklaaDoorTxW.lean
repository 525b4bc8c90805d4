import Derived.Test.YtllfmlgnemkklaaDoorTxV
import Derived.Test.YtllfmlgnemkklaaDoorTxS
/- Layer 15: fields that a type does not have. -/
namespace Go.Proofs.YtllfmlgnemkklaaDoor
open Go.RowKit Go.Sort
open tq
theorem eq_zeroT {m : Int} (hm : Num m) (w : World) : (Op.equalIn 10000 24 (.agg #[.int .u64 (l0 m), .int .u64 (l1 m), .int .u64 (l2 m), .int .u64 (l3 m)]) (.agg #[.int .u64 0, .int .u64 0, .int .u64 0, .int .u64 0])).run Tryd.prog w = .ok (decide (m = 0)) w := by
  have h := eq_num hm (show Num 0 from ⟨by decide, by decide⟩) w
  obtain ⟨z0, z1, z2, z3⟩ := zero_limbs
  rw [z0, z1, z2, z3] at h
  exact h
theorem txb_one {w : World} {t : Txv} (h : t.to.length = 20) (ty : TypeId) : TxB (w.alloc (.cells (txC t).toArray ty)) w.heap.size t := TxB.new h
/-- Is the field blank? -/
def blankT (t : Txv) (f : Int) : Bool :=
  if f = 2 then decide (t.pr = 0) else if f = 3 then decide (t.ti = 0) else if f = 4 then decide (t.ca = 0) else if f = 9 then decide (t.El.length = 0) else if f = 10 then decide (t.bc = 0) else if f = 11 then decide (t.Hsl.length = 0) else if f = 12 then decide (t.Ul.length = 0) else true
set_option maxRecDepth 100000 in
set_option maxHeartbeats 4000000 in
theorem isBlank_any {W0 : World} {t : Txv} {f : Int} (hG : TxG W0 t) (w : World) :
    Calls Tryd.prog 38 #[.agg (txC t).toArray, .int .i64 f] w fun e w' => e = .returned (.bool (blankT t f)) ∧ Below w.heap.size w w' := by
  have h20 := hG.to.1
  have hz := build_zero
  by_cases c2 : f = 2
  · rw [show blankT t f = decide (t.pr = 0) by unfold blankT; rw [if_pos c2]]
    subst c2
    have he := eq_zeroT hG.pr
    have g := (txb_one (w := w) h20 32).pr
    clear hG h20
    generalize decide (t.pr = 0) = z at *
    generalize txC t = M at *
    go_enter Tryd.func38, Tryd.ntmps38
    go_wp2
    simp [bodyPost, results, Tryd.results38, go_sem]
    repeat (first | with_reducible exact Below.refl _ _ | with_reducible refine Below.drew ?_ | with_reducible refine Below.alloc ?_ (by first | omega | (simp; done) | (simp; omega)) _)
  by_cases c3 : f = 3
  · rw [show blankT t f = decide (t.ti = 0) by unfold blankT; rw [if_neg c2, if_pos c3]]
    subst c3
    have he := eq_zeroT hG.ti
    have g := (txb_one (w := w) h20 32).ti
    clear hG h20
    generalize decide (t.ti = 0) = z at *
    generalize txC t = M at *
    go_enter Tryd.func38, Tryd.ntmps38
    go_wp2
    simp [bodyPost, results, Tryd.results38, go_sem]
    repeat (first | with_reducible exact Below.refl _ _ | with_reducible refine Below.drew ?_ | with_reducible refine Below.alloc ?_ (by first | omega | (simp; done) | (simp; omega)) _)
  by_cases c4 : f = 4
  · rw [show blankT t f = decide (t.ca = 0) by unfold blankT; rw [if_neg c2, if_neg c3, if_pos c4]]
    subst c4
    have he := eq_zeroT hG.ca
    have g := (txb_one (w := w) h20 32).ca
    clear hG h20
    generalize decide (t.ca = 0) = z at *
    generalize txC t = M at *
    go_enter Tryd.func38, Tryd.ntmps38
    go_wp2
    simp [bodyPost, results, Tryd.results38, go_sem]
    repeat (first | with_reducible exact Below.refl _ _ | with_reducible refine Below.drew ?_ | with_reducible refine Below.alloc ?_ (by first | omega | (simp; done) | (simp; omega)) _)
  by_cases c9 : f = 9
  · rw [show blankT t f = decide (t.El.length = 0) by unfold blankT; rw [if_neg c2, if_neg c3, if_neg c4, if_pos c9]]
    subst c9
    have g := (txb_one (w := w) h20 32).E
    have he : (((t.El.length : Nat) : Int) == 0) = decide (t.El.length = 0) := by
      by_cases h : t.El.length = 0
      · rw [h]; rfl
      · rw [decide_eq_false h]; exact beq_eq_false_iff_ne.2 (by omega)
    clear hG h20
    generalize txC t = M at *
    generalize t.El.length = m at *
    go_enter Tryd.func38, Tryd.ntmps38
    go_wp2
    simp [bodyPost, results, Tryd.results38, go_sem]
    repeat (first | with_reducible exact Below.refl _ _ | with_reducible refine Below.drew ?_ | with_reducible refine Below.alloc ?_ (by first | omega | (simp; done) | (simp; omega)) _)
  by_cases c10 : f = 10
  · rw [show blankT t f = decide (t.bc = 0) by unfold blankT; rw [if_neg c2, if_neg c3, if_neg c4, if_neg c9, if_pos c10]]
    subst c10
    have he := eq_zeroT hG.bc
    have g := (txb_one (w := w) h20 32).bc
    clear hG h20
    generalize decide (t.bc = 0) = z at *
    generalize txC t = M at *
    go_enter Tryd.func38, Tryd.ntmps38
    go_wp2
    simp [bodyPost, results, Tryd.results38, go_sem]
    repeat (first | with_reducible exact Below.refl _ _ | with_reducible refine Below.drew ?_ | with_reducible refine Below.alloc ?_ (by first | omega | (simp; done) | (simp; omega)) _)
  by_cases c11 : f = 11
  · rw [show blankT t f = decide (t.Hsl.length = 0) by unfold blankT; rw [if_neg c2, if_neg c3, if_neg c4, if_neg c9, if_neg c10, if_pos c11]]
    subst c11
    have g := (txb_one (w := w) h20 32).Hs
    have he : (((t.Hsl.length : Nat) : Int) == 0) = decide (t.Hsl.length = 0) := by
      by_cases h : t.Hsl.length = 0
      · rw [h]; rfl
      · rw [decide_eq_false h]; exact beq_eq_false_iff_ne.2 (by omega)
    clear hG h20
    generalize txC t = M at *
    generalize t.Hsl.length = m at *
    go_enter Tryd.func38, Tryd.ntmps38
    go_wp2
    simp [bodyPost, results, Tryd.results38, go_sem]
    repeat (first | with_reducible exact Below.refl _ _ | with_reducible refine Below.drew ?_ | with_reducible refine Below.alloc ?_ (by first | omega | (simp; done) | (simp; omega)) _)
  by_cases c12 : f = 12
  · rw [show blankT t f = decide (t.Ul.length = 0) by unfold blankT; rw [if_neg c2, if_neg c3, if_neg c4, if_neg c9, if_neg c10, if_neg c11, if_pos c12]]
    subst c12
    have g := (txb_one (w := w) h20 32).U
    have he : (((t.Ul.length : Nat) : Int) == 0) = decide (t.Ul.length = 0) := by
      by_cases h : t.Ul.length = 0
      · rw [h]; rfl
      · rw [decide_eq_false h]; exact beq_eq_false_iff_ne.2 (by omega)
    clear hG h20
    generalize txC t = M at *
    generalize t.Ul.length = m at *
    go_enter Tryd.func38, Tryd.ntmps38
    go_wp2
    simp [bodyPost, results, Tryd.results38, go_sem]
    repeat (first | with_reducible exact Below.refl _ _ | with_reducible refine Below.drew ?_ | with_reducible refine Below.alloc ?_ (by first | omega | (simp; done) | (simp; omega)) _)
  · rw [show blankT t f = true by unfold blankT; rw [if_neg c2, if_neg c3, if_neg c4, if_neg c9, if_neg c10, if_neg c11, if_neg c12]]
    clear hG h20
    generalize txC t = M at *
    go_enter Tryd.func38, Tryd.ntmps38
    go_wp2
    simp [bodyPost, results, Tryd.results38, go_sem]
    repeat (first | with_reducible exact Below.refl _ _ | with_reducible refine Below.drew ?_ | with_reducible refine Below.alloc ?_ (by first | omega | (simp; done) | (simp; omega)) _)
end Go.Proofs.YtllfmlgnemkklaaDoor
