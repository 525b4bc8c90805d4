import Derived.Test.YtgedkdkaddcmmaaDoorCTrs
import Derived.Test.YtgedkdkaddcmmaaDoorCLaid
import Derived.Test.YtgedkdkaddcmmaaDoorRefBit
import Derived.Test.YtgedkdkaddcmmaaDoorCOps
import Derived.Test.YtgedkdkaddcmmaaDoorQAlloc
namespace Go.Proofs.YtgedkdkaddcmmaaDoor
open Go.RowKit Go.Sort

/-- A number in a block. -/
def Nm (W : World) (b : Nat) (n : Int) : Prop := Cl W b [.int .u64 (l0 n), .int .u64 (l1 n), .int .u64 (l2 n), .int .u64 (l3 n)]
theorem Nm.keep {W w1 : World} {b : Nat} {n : Int} (h : Nm W b n) (hb : Below W.heap.size W w1) : Nm w1 b n := Cl.keep h hb
theorem Nm.cells {W : World} {b : Nat} {n : Int} (h : Nm W b n) : W.cell? ⟨b, 0, none⟩ = some (.int .u64 (l0 n)) ∧ W.cell? ⟨b, 1, none⟩ = some (.int .u64 (l1 n)) ∧ W.cell? ⟨b, 2, none⟩ = some (.int .u64 (l2 n)) ∧ W.cell? ⟨b, 3, none⟩ = some (.int .u64 (l3 n)) := ⟨h 0 (by simp), h 1 (by simp), h 2 (by simp), h 3 (by simp)⟩
theorem Nm.grown {W : World} {b : Nat} {n : Int} (h : Nm W b n) : ∀ d os, (grow (redrawn W d) os).cell? ⟨b, 0, none⟩ = some (.int .u64 (l0 n)) ∧ (grow (redrawn W d) os).cell? ⟨b, 1, none⟩ = some (.int .u64 (l1 n)) ∧ (grow (redrawn W d) os).cell? ⟨b, 2, none⟩ = some (.int .u64 (l2 n)) ∧ (grow (redrawn W d) os).cell? ⟨b, 3, none⟩ = some (.int .u64 (l3 n)) := fun d os => (h.keep (below_regrown W d os)).cells
theorem Nm.alloc {W : World} {b : Nat} {n : Int} (h : Nm W b n) (ob : Obj) : Nm (W.alloc ob) b n := h.keep ((Below.refl _ _).alloc (Nat.le_refl _) ob)
theorem Bk12.put {W : World} {b b' : Nat} (h : Bk12 W b) (ne : b' ≠ b) (x' y' z' : Int) : Bk12 (put12 W b' x' y' z') b := ⟨h.1.put ne x' y' z', by unfold put12; exact ((((((((((((h.2.set _ _).set _ _).set _ _).set _ _).set _ _).set _ _).set _ _).set _ _).set _ _).set _ _).set _ _).set _ _)⟩
theorem Pts.cells_put {W : World} {b o b' : Nat} {L : List PP} (h : Pts W b o L) (ne : b' ≠ b) (vs : List Value) (k : Nat) : Pts (W.setCells b' k vs) b o L := by
  induction vs generalizing W k with
  | nil => exact h
  | cons v r ih => exact ih (h.set ne v) (k + 1)

end Go.Proofs.YtgedkdkaddcmmaaDoor

namespace Go.Proofs.YtgedkdkaddcmmaaDoor
open Go.RowKit Go.Sort

theorem Nm.lt {W : World} {b : Nat} {n : Int} (h : Nm W b n) : b < W.heap.size := Cl.lt h (by simp)
theorem Nm.put9 {W : World} {b b' : Nat} {n x' y' : Int} {j : Bool} (h : Nm W b n) (ne : b' ≠ b) : Nm (Go.Proofs.YtgedkdkaddcmmaaDoor.put9 W b' x' y' j) b n := by
  unfold Go.Proofs.YtgedkdkaddcmmaaDoor.put9
  exact Cl.set (Cl.set (Cl.set (Cl.set (Cl.set (Cl.set (Cl.set (Cl.set (Cl.set h ne _) ne _) ne _) ne _) ne _) ne _) ne _) ne _) ne _
def put4 (W : World) (b : Nat) (n : Int) : World := (((W.setCell ⟨b, 0, none⟩ (.int .u64 (l0 n))).setCell ⟨b, 1, none⟩ (.int .u64 (l1 n))).setCell ⟨b, 2, none⟩ (.int .u64 (l2 n))).setCell ⟨b, 3, none⟩ (.int .u64 (l3 n))
theorem Blank.put4 {W : World} {b : Nat} (h : Blank W b) (n : Int) : Nm (Go.Proofs.YtgedkdkaddcmmaaDoor.put4 W b n) b n := by
  obtain ⟨a0, a1, a2, a3⟩ := h.1.all4
  intro k hk
  have hk' : k < 4 := by simpa using hk
  have hc : k = 0 ∨ k = 1 ∨ k = 2 ∨ k = 3 := by omega
  unfold Go.Proofs.YtgedkdkaddcmmaaDoor.put4
  rcases hc with rfl | rfl | rfl | rfl <;> simp [go_sem, a0, a1, a2, a3]
theorem Pnt.put4 {W : World} {b b' : Nat} {x y n : Int} {i : Bool} (h : Pnt W b x y i) (ne : b' ≠ b) : Pnt (Go.Proofs.YtgedkdkaddcmmaaDoor.put4 W b' n) b x y i := by
  unfold Go.Proofs.YtgedkdkaddcmmaaDoor.put4
  exact Cl.set (Cl.set (Cl.set (Cl.set h ne _) ne _) ne _) ne _
theorem Nm.put4 {W : World} {b b' : Nat} {m n : Int} (h : Nm W b m) (ne : b' ≠ b) : Nm (Go.Proofs.YtgedkdkaddcmmaaDoor.put4 W b' n) b m := by
  unfold Go.Proofs.YtgedkdkaddcmmaaDoor.put4
  exact Cl.set (Cl.set (Cl.set (Cl.set h ne _) ne _) ne _) ne _
theorem Mds.put4 {W : World} {b' : Nat} {n : Int} (h : Mds W) (ne : b' ≠ 0) : Mds (Go.Proofs.YtgedkdkaddcmmaaDoor.put4 W b' n) := by
  unfold Go.Proofs.YtgedkdkaddcmmaaDoor.put4
  exact (((h.set ne _).set ne _).set ne _).set ne _
end Go.Proofs.YtgedkdkaddcmmaaDoor

namespace Go.Proofs.YtgedkdkaddcmmaaDoor
open Go.RowKit Go.Sort

abbrev OnT := {t : T3 // t.Low ∧ EC.On t.j.pt}
end Go.Proofs.YtgedkdkaddcmmaaDoor

namespace Go.Proofs.YtgedkdkaddcmmaaDoor
open Go.RowKit Go.Sort

set_option maxRecDepth 100000 in
set_option maxHeartbeats 4000000 in
theorem r5on_id {x y ox oy : Int} {oi r : Bool} (CI : Hid (∀ w, Calls Tryd.prog 12 #[] w fun e w' => e = .returned (.agg #[.int .u64 (l0 ox), .int .u64 (l1 ox), .int .u64 (l2 ox), .int .u64 (l3 ox), .int .u64 (l0 oy), .int .u64 (l1 oy), .int .u64 (l2 oy), .int .u64 (l3 oy), .bool oi]) ∧ Below w.heap.size w w')) (he : ∀ w, (Op.equalIn 10000 27 (.agg #[.int .u64 (l0 x), .int .u64 (l1 x), .int .u64 (l2 x), .int .u64 (l3 x), .int .u64 (l0 y), .int .u64 (l1 y), .int .u64 (l2 y), .int .u64 (l3 y), .bool true]) (.agg #[.int .u64 (l0 ox), .int .u64 (l1 ox), .int .u64 (l2 ox), .int .u64 (l3 ox), .int .u64 (l0 oy), .int .u64 (l1 oy), .int .u64 (l2 oy), .int .u64 (l3 oy), .bool oi])).run Tryd.prog w = .ok r w) (w : World) :
    Calls Tryd.prog 11 #[.agg #[.int .u64 (l0 x), .int .u64 (l1 x), .int .u64 (l2 x), .int .u64 (l3 x), .int .u64 (l0 y), .int .u64 (l1 y), .int .u64 (l2 y), .int .u64 (l3 y), .bool true]] w fun e w' => e = .returned (.bool r) ∧ Below w.heap.size w w' := by
  go_enter Tryd.func11, Tryd.ntmps11
  go_wp2_with fail
  refine wp_world (fun W => Below w.heap.size w W ∧ Pnt W w.heap.size x y true) ⟨by repeat (first | with_reducible exact Below.refl _ _ | with_reducible refine Below.alloc ?_ (by first | omega | (simp; done) | (simp; omega)) _), Pnt.new rfl⟩ ?_
  rintro W ⟨B, hP⟩
  have ghP := hP.grown
  refine wp_region_quiet_below (by kernel_rfl) (by kernel_rfl) ?_
  repeat
    first
      | go_big_quiet_skip
      | (go_big_quiet_want; go_big_quiet_op; go_big_quiet_on)
      | (go_big_quiet_want
         go_big_quiet_op
         apply Exists.intro
         refine ⟨fun p => ?_, ?_⟩
         · (first | (go_at_call 12; with_reducible exact Calls.regrown_of (CI.out _)))
         go_big_quiet_on)
  refine wpQuiet_nil ?_
  rintro w1 ⟨p, rfl⟩
  have hb := below_regrown W p.d p.os
  generalize grow (redrawn W p.d) p.os = w1 at *
  replace B := B.trans (hb.mono B.size)
  replace hP := hP.keep hb
  clear hb W ghP 
  clear hP
  go_wp2
  simp [bodyPost, results, Tryd.results11, go_sem]
  exact B

set_option maxRecDepth 100000 in
set_option maxHeartbeats 4000000 in
theorem r5on_x {x y : Int} (C1 : Hid (∀ w, Calls Tryd.prog 24 #[.agg #[.int .u64 (l0 x), .int .u64 (l1 x), .int .u64 (l2 x), .int .u64 (l3 x)]] w fun e w' => e = .returned (.bool false) ∧ Below w.heap.size w w')) (w : World) :
    Calls Tryd.prog 11 #[.agg #[.int .u64 (l0 x), .int .u64 (l1 x), .int .u64 (l2 x), .int .u64 (l3 x), .int .u64 (l0 y), .int .u64 (l1 y), .int .u64 (l2 y), .int .u64 (l3 y), .bool false]] w fun e w' => e = .returned (.bool false) ∧ Below w.heap.size w w' := by
  go_enter Tryd.func11, Tryd.ntmps11
  go_wp2_with fail
  refine calls_world (fun W => Below w.heap.size w W ∧ Pnt W w.heap.size x y false) ⟨by repeat (first | with_reducible exact Below.refl _ _ | with_reducible refine Below.alloc ?_ (by first | omega | (simp; done) | (simp; omega)) _), Pnt.new rfl⟩ ?_
  rintro W ⟨B, hP⟩
  with_reducible refine (C1.out _).mono ?_
  rintro e w9 ⟨rfl, hb⟩
  replace B := B.trans (hb.mono B.size)
  clear hb hP W
  go_wp2
  simp [bodyPost, results, Tryd.results11, go_sem]
  exact B

set_option maxRecDepth 100000 in
set_option maxHeartbeats 4000000 in
theorem r5on_y {x y : Int} (C1 : Hid (∀ w, Calls Tryd.prog 24 #[.agg #[.int .u64 (l0 x), .int .u64 (l1 x), .int .u64 (l2 x), .int .u64 (l3 x)]] w fun e w' => e = .returned (.bool true) ∧ Below w.heap.size w w')) (C2 : Hid (∀ w, Calls Tryd.prog 24 #[.agg #[.int .u64 (l0 y), .int .u64 (l1 y), .int .u64 (l2 y), .int .u64 (l3 y)]] w fun e w' => e = .returned (.bool false) ∧ Below w.heap.size w w')) (w : World) :
    Calls Tryd.prog 11 #[.agg #[.int .u64 (l0 x), .int .u64 (l1 x), .int .u64 (l2 x), .int .u64 (l3 x), .int .u64 (l0 y), .int .u64 (l1 y), .int .u64 (l2 y), .int .u64 (l3 y), .bool false]] w fun e w' => e = .returned (.bool false) ∧ Below w.heap.size w w' := by
  go_enter Tryd.func11, Tryd.ntmps11
  go_wp2_with fail
  refine calls_world (fun W => Below w.heap.size w W ∧ Pnt W w.heap.size x y false) ⟨by repeat (first | with_reducible exact Below.refl _ _ | with_reducible refine Below.alloc ?_ (by first | omega | (simp; done) | (simp; omega)) _), Pnt.new rfl⟩ ?_
  rintro W ⟨B, hP⟩
  with_reducible refine (C1.out _).mono ?_
  rintro e w1 ⟨rfl, hb⟩
  replace B := B.trans (hb.mono B.size)
  replace hP := hP.keep hb
  clear hb W
  have ghP := hP.cells
  go_wp2_with fail
  refine calls_world (fun W => Below w.heap.size w W ∧ Pnt W w.heap.size x y false) ⟨B, hP⟩ ?_
  clear B hP ghP
  rintro W ⟨B, hP⟩
  with_reducible refine (C2.out _).mono ?_
  rintro e w9 ⟨rfl, hb⟩
  replace B := B.trans (hb.mono B.size)
  clear hb hP W
  go_wp2
  simp [bodyPost, results, Tryd.results11, go_sem]
  exact B

set_option maxRecDepth 100000 in
set_option maxHeartbeats 4000000 in
theorem r5on_q {x y a b : Int} {r : Bool} (C1 : Hid (∀ w, Calls Tryd.prog 24 #[.agg #[.int .u64 (l0 x), .int .u64 (l1 x), .int .u64 (l2 x), .int .u64 (l3 x)]] w fun e w' => e = .returned (.bool true) ∧ Below w.heap.size w w')) (C2 : Hid (∀ w, Calls Tryd.prog 24 #[.agg #[.int .u64 (l0 y), .int .u64 (l1 y), .int .u64 (l2 y), .int .u64 (l3 y)]] w fun e w' => e = .returned (.bool true) ∧ Below w.heap.size w w')) (C3 : Hid (∀ w, Calls Tryd.prog 25 #[.agg #[.int .u64 (l0 y), .int .u64 (l1 y), .int .u64 (l2 y), .int .u64 (l3 y)], .agg #[.int .u64 (l0 y), .int .u64 (l1 y), .int .u64 (l2 y), .int .u64 (l3 y)]] w fun e w' => e = .returned (.agg #[.int .u64 (l0 a), .int .u64 (l1 a), .int .u64 (l2 a), .int .u64 (l3 a)]) ∧ Below w.heap.size w w')) (C4 : Hid (∀ w, Calls Tryd.prog 26 #[.agg #[.int .u64 (l0 x), .int .u64 (l1 x), .int .u64 (l2 x), .int .u64 (l3 x)]] w fun e w' => e = .returned (.agg #[.int .u64 (l0 b), .int .u64 (l1 b), .int .u64 (l2 b), .int .u64 (l3 b)]) ∧ Below w.heap.size w w')) (he : ∀ w, (Op.equalIn 10000 25 (.agg #[.int .u64 (l0 a), .int .u64 (l1 a), .int .u64 (l2 a), .int .u64 (l3 a)]) (.agg #[.int .u64 (l0 b), .int .u64 (l1 b), .int .u64 (l2 b), .int .u64 (l3 b)])).run Tryd.prog w = .ok r w) (w : World) :
    Calls Tryd.prog 11 #[.agg #[.int .u64 (l0 x), .int .u64 (l1 x), .int .u64 (l2 x), .int .u64 (l3 x), .int .u64 (l0 y), .int .u64 (l1 y), .int .u64 (l2 y), .int .u64 (l3 y), .bool false]] w fun e w' => e = .returned (.bool r) ∧ Below w.heap.size w w' := by
  go_enter Tryd.func11, Tryd.ntmps11
  go_wp2_with fail
  refine calls_world (fun W => Below w.heap.size w W ∧ Pnt W w.heap.size x y false) ⟨by repeat (first | with_reducible exact Below.refl _ _ | with_reducible refine Below.alloc ?_ (by first | omega | (simp; done) | (simp; omega)) _), Pnt.new rfl⟩ ?_
  rintro W ⟨B, hP⟩
  with_reducible refine (C1.out _).mono ?_
  rintro e w1 ⟨rfl, hb⟩
  replace B := B.trans (hb.mono B.size)
  replace hP := hP.keep hb
  clear hb W
  have ghP := hP.cells
  go_wp2_with fail
  refine calls_world (fun W => Below w.heap.size w W ∧ Pnt W w.heap.size x y false) ⟨B, hP⟩ ?_
  clear B hP ghP
  rintro W ⟨B, hP⟩
  with_reducible refine (C2.out _).mono ?_
  rintro e w2 ⟨rfl, hb⟩
  replace B := B.trans (hb.mono B.size)
  replace hP := hP.keep hb
  clear hb W
  go_wp2_with fail
  refine wp_world (fun W => Below w.heap.size w W ∧ Pnt W w.heap.size x y false) ⟨B, hP⟩ ?_
  clear B hP 
  rintro W ⟨B, hP⟩
  have ghP := hP.grown
  refine wp_region_quiet_below (by kernel_rfl) (by kernel_rfl) ?_
  repeat
    first
      | go_big_quiet_skip
      | (go_big_quiet_want; go_big_quiet_op; go_big_quiet_on)
      | (go_big_quiet_want
         go_big_quiet_op
         apply Exists.intro
         refine ⟨fun p => ?_, ?_⟩
         · (first | (go_at_call 25; with_reducible exact Calls.regrown_of (C3.out _)) | (go_at_call 26; with_reducible exact Calls.regrown_of (C4.out _)))
         go_big_quiet_on)
  refine wpQuiet_nil ?_
  rintro w3 ⟨p, rfl⟩
  have hb := below_regrown W p.d p.os
  generalize grow (redrawn W p.d) p.os = w3 at *
  replace B := B.trans (hb.mono B.size)
  replace hP := hP.keep hb
  clear hb W ghP 
  clear hP
  go_wp2
  simp [bodyPost, results, Tryd.results11, go_sem]
  exact B

theorem r5on_any {x y : Int} {i : Bool} (hx : Num x) (hy : Num y) (w : World) :
    Calls Tryd.prog 11 #[.agg #[.int .u64 (l0 x), .int .u64 (l1 x), .int .u64 (l2 x), .int .u64 (l3 x), .int .u64 (l0 y), .int .u64 (l1 y), .int .u64 (l2 y), .int .u64 (l3 y), .bool i]] w fun e w' => e = .returned (.bool (decide (Vd x y i))) ∧ Below w.heap.size w w' := by
  cases i with
  | true =>
    refine r5on_id (fun w => r5identity_any w) (fun w => ?_) w
    rw [eq_pt_any hx hy ⟨by decide, by decide⟩ ⟨by decide, by decide⟩]
    congr 1
    simp [Vd]
  | false =>
    have low : ∀ {n : Int}, Num n → ∀ (v : Bool), decide (n < pN) = v → Hid (∀ w, Calls Tryd.prog 24 #[.agg #[.int .u64 (l0 n), .int .u64 (l1 n), .int .u64 (l2 n), .int .u64 (l3 n)]] w fun e w' => e = .returned (.bool v) ∧ Below w.heap.size w w') := fun hn v e w => by
      have := r5low_any hn w
      rw [e] at this; exact this
    by_cases h1 : x < pN
    · by_cases h2 : y < pN
      · have lx : EC.Low x := ⟨hx.1, h1⟩
        have ly : EC.Low y := ⟨hy.1, h2⟩
        have key : decide (modN pN (y * y) = cubN x) = decide (Vd x y false) := by
          apply decide_eq_decide.2
          constructor
          · intro e
            refine ⟨lx, ly, ?_⟩
            have := congrArg EC.fp e
            unfold cubN at this
            simp only [EC.fp_mod, EC.fp_mul, EC.fp_add] at this
            rw [show EC.fp 7 = 7 by decide +kernel] at this
            exact this
          · intro ⟨_, _, e⟩
            have e' : EC.fp y * EC.fp y = EC.fp x * EC.fp x * EC.fp x + 7 := e
            unfold cubN
            refine EC.fp_inj (EC.low_mod _) (EC.low_mod _) ?_
            simp only [EC.fp_mod, EC.fp_mul, EC.fp_add]
            rw [show EC.fp 7 = 7 by decide +kernel]
            exact e'
        rw [← key]
        exact r5on_q (low hx true (decide_eq_true h1)) (low hy true (decide_eq_true h2)) (fun w => r5mul_any hy hy w) (fun w => r5cubic_any hx w) (fun w => eq_num (modN_Num fit_p _) (modN_Num fit_p _) w) w
      · rw [decide_eq_false (show ¬ Vd x y false from fun h => h2 h.2.1.2)]
        exact r5on_y (low hx true (decide_eq_true h1)) (low hy false (decide_eq_false h2)) w
    · rw [decide_eq_false (show ¬ Vd x y false from fun h => h1 h.1.2)]
      exact r5on_x (low hx false (decide_eq_false h1)) w

end Go.Proofs.YtgedkdkaddcmmaaDoor
