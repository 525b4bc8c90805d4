import Derived.Test.YtjppjieidjodfabDoorCBlend
import Derived.Test.YtjppjieidjodfabDoorCOps
import Derived.Test.YtjppjieidjodfabDoorQAlloc
import Derived.Test.YtjppjieidjodfabDoorCRMul
namespace Go.Proofs.YtjppjieidjodfabDoor
open Go.RowKit Go.Sort

theorem Cols.keep {W w1 : World} (h : Cols W) (hb : Below W.heap.size W w1) : Cols w1 := Pts.keep h hb
theorem Cols.alloc {W : World} (h : Cols W) (ob : Obj) : Cols (W.alloc ob) := Pts.alloc h ob
theorem Cols.put9 {W : World} {b' : Nat} {x' y' : Int} {j : Bool} (h : Cols W) (ne : b' ≠ 0) : Cols (Go.Proofs.YtjppjieidjodfabDoor.put9 W b' x' y' j) := by
  unfold Go.Proofs.YtjppjieidjodfabDoor.put9
  exact Pts.set (Pts.set (Pts.set (Pts.set (Pts.set (Pts.set (Pts.set (Pts.set (Pts.set h ne _) ne _) ne _) ne _) ne _) ne _) ne _) ne _) ne _
theorem Nm.lt {W : World} {b : Nat} {n : Int} (h : Nm W b n) : b < W.heap.size := Cl.lt h (by simp)
theorem Nm.put9 {W : World} {b b' : Nat} {n x' y' : Int} {j : Bool} (h : Nm W b n) (ne : b' ≠ b) : Nm (Go.Proofs.YtjppjieidjodfabDoor.put9 W b' x' y' j) b n := by
  unfold Go.Proofs.YtjppjieidjodfabDoor.put9
  exact Cl.set (Cl.set (Cl.set (Cl.set (Cl.set (Cl.set (Cl.set (Cl.set (Cl.set h ne _) ne _) ne _) ne _) ne _) ne _) ne _) ne _) ne _
def put4 (W : World) (b : Nat) (n : Int) : World := (((W.setCell ⟨b, 0, none⟩ (.int .u64 (l0 n))).setCell ⟨b, 1, none⟩ (.int .u64 (l1 n))).setCell ⟨b, 2, none⟩ (.int .u64 (l2 n))).setCell ⟨b, 3, none⟩ (.int .u64 (l3 n))
theorem Blank.put4 {W : World} {b : Nat} (h : Blank W b) (n : Int) : Nm (Go.Proofs.YtjppjieidjodfabDoor.put4 W b n) b n := by
  obtain ⟨a0, a1, a2, a3⟩ := h.1.all4
  intro k hk
  have hk' : k < 4 := by simpa using hk
  have hc : k = 0 ∨ k = 1 ∨ k = 2 ∨ k = 3 := by omega
  unfold Go.Proofs.YtjppjieidjodfabDoor.put4
  rcases hc with rfl | rfl | rfl | rfl <;> simp [go_sem, a0, a1, a2, a3]
theorem Pnt.put4 {W : World} {b b' : Nat} {x y n : Int} {i : Bool} (h : Pnt W b x y i) (ne : b' ≠ b) : Pnt (Go.Proofs.YtjppjieidjodfabDoor.put4 W b' n) b x y i := by
  unfold Go.Proofs.YtjppjieidjodfabDoor.put4
  exact Cl.set (Cl.set (Cl.set (Cl.set h ne _) ne _) ne _) ne _
theorem Nm.put4 {W : World} {b b' : Nat} {m n : Int} (h : Nm W b m) (ne : b' ≠ b) : Nm (Go.Proofs.YtjppjieidjodfabDoor.put4 W b' n) b m := by
  unfold Go.Proofs.YtjppjieidjodfabDoor.put4
  exact Cl.set (Cl.set (Cl.set (Cl.set h ne _) ne _) ne _) ne _
theorem Mds.put4 {W : World} {b' : Nat} {n : Int} (h : Mds W) (ne : b' ≠ 1) : Mds (Go.Proofs.YtjppjieidjodfabDoor.put4 W b' n) := by
  unfold Go.Proofs.YtjppjieidjodfabDoor.put4
  exact (((h.set ne _).set ne _).set ne _).set ne _
theorem Cols.put4 {W : World} {b' : Nat} {n : Int} (h : Cols W) (ne : b' ≠ 0) : Cols (Go.Proofs.YtjppjieidjodfabDoor.put4 W b' n) := by
  unfold Go.Proofs.YtjppjieidjodfabDoor.put4
  exact Pts.set (Pts.set (Pts.set (Pts.set h ne _) ne _) ne _) ne _
theorem below_put4 {W w : World} {n b : Nat} {m : Int} (h : Below n w W) (hb : n ≤ b) : Below n w (put4 W b m) := by
  unfold put4
  exact (((h.setCell hb _).setCell hb _).setCell hb _).setCell hb _
theorem alloc_pt (dst : Option Tmp) (pos : String) (ty : TypeId) (ρ : Operand → Value) (w : World) : (execOp ρ { dst := dst, op := Op.alloc 26, type := ty, pos := pos, after := #[], guard := none }).run Tryd.prog w = .ok (.value (.pointer (some ⟨w.heap.size, 0, none⟩))) (w.alloc (.cells #[.int .u64 0, .int .u64 0, .int .u64 0, .int .u64 0, .int .u64 0, .int .u64 0, .int .u64 0, .int .u64 0, .bool false] 26)) := by
  simp [execOp, go_sem]
end Go.Proofs.YtjppjieidjodfabDoor

namespace Go.Proofs.YtjppjieidjodfabDoor
open Go.RowKit Go.Sort

set_option maxHeartbeats 1000000 in
theorem lnum5_any (v : Int) (w : World) : Calls Tryd.prog 11 #[.int .i64 v] w fun e w' => e = .returned (.int .i64 v) ∧ Below w.heap.size w w' := by
  go_enter Tryd.func11, Tryd.ntmps11
  go_wp2
  simp [bodyPost, results, Tryd.results11, go_sem]
  exact Below.refl _ _
theorem eq_pt_num {x y : Int} {i : Bool} (hx : Num x) (hy : Num y) : ∀ w, (Op.equalIn 10000 26 (.agg #[.int .u64 (l0 x), .int .u64 (l1 x), .int .u64 (l2 x), .int .u64 (l3 x), .int .u64 (l0 y), .int .u64 (l1 y), .int .u64 (l2 y), .int .u64 (l3 y), .bool i]) (.agg #[.int .u64 (l0 x), .int .u64 (l1 x), .int .u64 (l2 x), .int .u64 (l3 x), .int .u64 (l0 y), .int .u64 (l1 y), .int .u64 (l2 y), .int .u64 (l3 y), .bool i])).run Tryd.prog w = .ok true w := fun w => by
  have := eq_pt_any (i := i) (j := i) hx hy hx hy w
  simpa using this

set_option maxRecDepth 100000 in
set_option maxHeartbeats 8000000 in
theorem cmuladds_walk {a b x y X Y e0 : Int} {i j : Bool} (CM : Hid (∀ w, Mds w → Cols w → Calls Tryd.prog 29 #[.agg #[.int .u64 (l0 a), .int .u64 (l1 a), .int .u64 (l2 a), .int .u64 (l3 a)], .agg #[.int .u64 (l0 b), .int .u64 (l1 b), .int .u64 (l2 b), .int .u64 (l3 b)], .agg #[.int .u64 (l0 x), .int .u64 (l1 x), .int .u64 (l2 x), .int .u64 (l3 x), .int .u64 (l0 y), .int .u64 (l1 y), .int .u64 (l2 y), .int .u64 (l3 y), .bool i]] w fun e w' => e = .returned (.tuple #[.agg #[.int .u64 (l0 X), .int .u64 (l1 X), .int .u64 (l2 X), .int .u64 (l3 X), .int .u64 (l0 Y), .int .u64 (l1 Y), .int .u64 (l2 Y), .int .u64 (l3 Y), .bool j], .int .i64 e0]) ∧ Below w.heap.size w w')) (CR : Hid (∀ w, Calls Tryd.prog 30 #[.agg #[.int .u64 (l0 a), .int .u64 (l1 a), .int .u64 (l2 a), .int .u64 (l3 a)], .agg #[.int .u64 (l0 b), .int .u64 (l1 b), .int .u64 (l2 b), .int .u64 (l3 b)], .agg #[.int .u64 (l0 x), .int .u64 (l1 x), .int .u64 (l2 x), .int .u64 (l3 x), .int .u64 (l0 y), .int .u64 (l1 y), .int .u64 (l2 y), .int .u64 (l3 y), .bool i]] w fun e w' => e = .returned (.tuple #[.agg #[.int .u64 (l0 X), .int .u64 (l1 X), .int .u64 (l2 X), .int .u64 (l3 X), .int .u64 (l0 Y), .int .u64 (l1 Y), .int .u64 (l2 Y), .int .u64 (l3 Y), .bool j], .int .i64 e0]) ∧ Below w.heap.size w w')) (CN : Hid (∀ w, Calls Tryd.prog 11 #[.int .i64 e0] w fun e w' => e = .returned (.int .i64 e0) ∧ Below w.heap.size w w')) (E : ∀ w, (Op.equalIn 10000 26 (.agg #[.int .u64 (l0 X), .int .u64 (l1 X), .int .u64 (l2 X), .int .u64 (l3 X), .int .u64 (l0 Y), .int .u64 (l1 Y), .int .u64 (l2 Y), .int .u64 (l3 Y), .bool j]) (.agg #[.int .u64 (l0 X), .int .u64 (l1 X), .int .u64 (l2 X), .int .u64 (l3 X), .int .u64 (l0 Y), .int .u64 (l1 Y), .int .u64 (l2 Y), .int .u64 (l3 Y), .bool j])).run Tryd.prog w = .ok true w) (w : World) (hm : Mds w) (hc : Cols w) :
    Calls Tryd.prog 7 #[.agg #[.int .u64 (l0 a), .int .u64 (l1 a), .int .u64 (l2 a), .int .u64 (l3 a)], .agg #[.int .u64 (l0 b), .int .u64 (l1 b), .int .u64 (l2 b), .int .u64 (l3 b)], .agg #[.int .u64 (l0 x), .int .u64 (l1 x), .int .u64 (l2 x), .int .u64 (l3 x), .int .u64 (l0 y), .int .u64 (l1 y), .int .u64 (l2 y), .int .u64 (l3 y), .bool i]] w fun e w' => e = .returned (.bool true) ∧ Below w.heap.size w w' := by
  go_enter Tryd.func7, Tryd.ntmps7
  go_wp2_with fail
  refine calls_world (fun W => Below w.heap.size w W ∧ Mds W ∧ Cols W ∧ Nm W w.heap.size a ∧ Nm W (w.heap.size + 1) b ∧ Pnt W (w.heap.size + 1 + 1) x y i) ⟨by repeat (first | with_reducible exact Below.refl _ _ | with_reducible refine Below.alloc ?_ (by first | omega | (simp; done) | (simp; omega)) _), ((hm.alloc _).alloc _).alloc _, ((Cols.alloc hc _).alloc _).alloc _, (Nm.alloc (Cl.new _ rfl rfl) _).alloc _, Nm.alloc (Cl.new _ (by simp) rfl) _, Pnt.new (by simp)⟩ ?_
  rintro W ⟨B, hD, hO, hA, hB, hQ⟩
  generalize w.heap.size + 1 + 1 = bq at *
  generalize w.heap.size + 1 = bb at *
  with_reducible refine (CM.out _ hD hO).mono ?_
  rintro e w1 ⟨rfl, hb⟩
  replace B := B.trans (hb.mono B.size)
  replace hD := hD.keep hb; replace hO := hO.keep hb; replace hA := hA.keep hb; replace hB := hB.keep hb; replace hQ := hQ.keep hb
  clear hb W
  have ghA := fun o => (hA.alloc o).cells
  have ghB := fun o => (hB.alloc o).cells
  have ghQ := fun o => (hQ.alloc o).cells
  go_wp2_with fail
  refine calls_world (fun W => Below w.heap.size w W ∧ Mds W ∧ Cols W ∧ Nm W w.heap.size a ∧ Nm W bb b ∧ Pnt W bq x y i ∧ Pnt W w1.heap.size X Y j) ⟨B.alloc B.size _, hD.alloc _, hO.alloc _, hA.alloc _, hB.alloc _, hQ.alloc _, Pnt.new rfl⟩ ?_
  clear B hD hO hA hB hQ ghA ghB ghQ
  rintro W ⟨B, hD, hO, hA, hB, hQ, hP⟩
  generalize w1.heap.size = bp at *
  clear hA hB hQ
  with_reducible refine (CR.out _).mono ?_
  rintro e w2 ⟨rfl, hb⟩
  replace B := B.trans (hb.mono B.size)
  replace hD := hD.keep hb; replace hO := hO.keep hb; replace hP := hP.keep hb
  clear hb W
  have ghP := fun o => (hP.alloc o).cells
  go_wp2_with fail
  refine calls_world (fun W => Below w.heap.size w W ∧ Mds W ∧ Cols W ∧ Pnt W bp X Y j ∧ Pnt W w2.heap.size X Y j) ⟨B.alloc B.size _, hD.alloc _, hO.alloc _, hP.alloc _, Pnt.new rfl⟩ ?_
  clear B hD hO hP ghP
  rintro W ⟨B, hD, hO, hP, hR⟩
  generalize w2.heap.size = br at *
  with_reducible refine (CN.out _).mono ?_
  rintro e w9 ⟨rfl, hb⟩
  replace B := B.trans (hb.mono B.size)
  clear hb hD hO hP hR W
  go_wp2
  simp [bodyPost, results, Tryd.results7, go_sem]
  exact B
theorem cmuladds_any {a b x y : Int} {i : Bool} (ha : Num a) (hb : Num b) (hx : Num x) (hy : Num y) (w : World) (hm : Mds w) (hc : Cols w) :
    Calls Tryd.prog 7 #[.agg #[.int .u64 (l0 a), .int .u64 (l1 a), .int .u64 (l2 a), .int .u64 (l3 a)], .agg #[.int .u64 (l0 b), .int .u64 (l1 b), .int .u64 (l2 b), .int .u64 (l3 b)], .agg #[.int .u64 (l0 x), .int .u64 (l1 x), .int .u64 (l2 x), .int .u64 (l3 x), .int .u64 (l0 y), .int .u64 (l1 y), .int .u64 (l2 y), .int .u64 (l3 y), .bool i]] w fun e w' => e = .returned (.bool true) ∧ Below w.heap.size w w' := by
  by_cases hv : Vd x y i
  · obtain ⟨X, Y, j, hj, ej⟩ := rep_pt (EC.Pt.on (EC.smul_on EC.gJ_on a.toNat) (EC.smul_on hv.on b.toNat))
    exact cmuladds_walk (fun w hm hc => cmuladd_any ha hb hv hj ej w hm hc) (fun w => r5muladd_any ha hb hv hj ej w) (fun w => lnum5_any 0 w) (eq_pt_self hj) w hm hc
  · exact cmuladds_walk (fun w hm _ => cmuladd_bad (con_no hx hy hv) w hm) (fun w => r5muladd_bad (r5on_no hx hy hv) w) (fun w => lnum5_any 50 w) (eq_pt_num ⟨by decide, by decide⟩ ⟨by decide, by decide⟩) w hm hc

set_option maxRecDepth 100000 in
set_option maxHeartbeats 8000000 in
theorem cmuls_walk {a x y X Y X2 Y2 e0 : Int} {i j j2 : Bool} (CM : Hid (∀ w, Mds w → Cols w → Calls Tryd.prog 31 #[.agg #[.int .u64 (l0 a), .int .u64 (l1 a), .int .u64 (l2 a), .int .u64 (l3 a)], .agg #[.int .u64 (l0 x), .int .u64 (l1 x), .int .u64 (l2 x), .int .u64 (l3 x), .int .u64 (l0 y), .int .u64 (l1 y), .int .u64 (l2 y), .int .u64 (l3 y), .bool i]] w fun e w' => e = .returned (.tuple #[.agg #[.int .u64 (l0 X), .int .u64 (l1 X), .int .u64 (l2 X), .int .u64 (l3 X), .int .u64 (l0 Y), .int .u64 (l1 Y), .int .u64 (l2 Y), .int .u64 (l3 Y), .bool j], .int .i64 e0]) ∧ Below w.heap.size w w')) (CR : Hid (∀ w, Calls Tryd.prog 32 #[.agg #[.int .u64 (l0 a), .int .u64 (l1 a), .int .u64 (l2 a), .int .u64 (l3 a)], .agg #[.int .u64 (l0 x), .int .u64 (l1 x), .int .u64 (l2 x), .int .u64 (l3 x), .int .u64 (l0 y), .int .u64 (l1 y), .int .u64 (l2 y), .int .u64 (l3 y), .bool i]] w fun e w' => e = .returned (.tuple #[.agg #[.int .u64 (l0 X), .int .u64 (l1 X), .int .u64 (l2 X), .int .u64 (l3 X), .int .u64 (l0 Y), .int .u64 (l1 Y), .int .u64 (l2 Y), .int .u64 (l3 Y), .bool j], .int .i64 e0]) ∧ Below w.heap.size w w')) (CN : Hid (∀ w, Calls Tryd.prog 11 #[.int .i64 e0] w fun e w' => e = .returned (.int .i64 e0) ∧ Below w.heap.size w w')) (E : ∀ w, (Op.equalIn 10000 26 (.agg #[.int .u64 (l0 X), .int .u64 (l1 X), .int .u64 (l2 X), .int .u64 (l3 X), .int .u64 (l0 Y), .int .u64 (l1 Y), .int .u64 (l2 Y), .int .u64 (l3 Y), .bool j]) (.agg #[.int .u64 (l0 X), .int .u64 (l1 X), .int .u64 (l2 X), .int .u64 (l3 X), .int .u64 (l0 Y), .int .u64 (l1 Y), .int .u64 (l2 Y), .int .u64 (l3 Y), .bool j])).run Tryd.prog w = .ok true w)
    (CG : Hid (∀ w, Mds w → Cols w → Calls Tryd.prog 33 #[.agg #[.int .u64 (l0 a), .int .u64 (l1 a), .int .u64 (l2 a), .int .u64 (l3 a)]] w fun e w' => e = .returned (.agg #[.int .u64 (l0 X2), .int .u64 (l1 X2), .int .u64 (l2 X2), .int .u64 (l3 X2), .int .u64 (l0 Y2), .int .u64 (l1 Y2), .int .u64 (l2 Y2), .int .u64 (l3 Y2), .bool j2]) ∧ Below w.heap.size w w')) (CH : Hid (∀ w, Calls Tryd.prog 34 #[.agg #[.int .u64 (l0 a), .int .u64 (l1 a), .int .u64 (l2 a), .int .u64 (l3 a)]] w fun e w' => e = .returned (.agg #[.int .u64 (l0 X2), .int .u64 (l1 X2), .int .u64 (l2 X2), .int .u64 (l3 X2), .int .u64 (l0 Y2), .int .u64 (l1 Y2), .int .u64 (l2 Y2), .int .u64 (l3 Y2), .bool j2]) ∧ Below w.heap.size w w')) (E2 : ∀ w, (Op.equalIn 10000 26 (.agg #[.int .u64 (l0 X2), .int .u64 (l1 X2), .int .u64 (l2 X2), .int .u64 (l3 X2), .int .u64 (l0 Y2), .int .u64 (l1 Y2), .int .u64 (l2 Y2), .int .u64 (l3 Y2), .bool j2]) (.agg #[.int .u64 (l0 X2), .int .u64 (l1 X2), .int .u64 (l2 X2), .int .u64 (l3 X2), .int .u64 (l0 Y2), .int .u64 (l1 Y2), .int .u64 (l2 Y2), .int .u64 (l3 Y2), .bool j2])).run Tryd.prog w = .ok true w) (w : World) (hm : Mds w) (hc : Cols w) :
    Calls Tryd.prog 8 #[.agg #[.int .u64 (l0 a), .int .u64 (l1 a), .int .u64 (l2 a), .int .u64 (l3 a)], .agg #[.int .u64 (l0 x), .int .u64 (l1 x), .int .u64 (l2 x), .int .u64 (l3 x), .int .u64 (l0 y), .int .u64 (l1 y), .int .u64 (l2 y), .int .u64 (l3 y), .bool i]] w fun e w' => e = .returned (.bool true) ∧ Below w.heap.size w w' := by
  go_enter Tryd.func8, Tryd.ntmps8
  go_wp2_with fail
  refine calls_world (fun W => Below w.heap.size w W ∧ Mds W ∧ Cols W ∧ Nm W w.heap.size a ∧ Pnt W (w.heap.size + 1) x y i) ⟨by repeat (first | with_reducible exact Below.refl _ _ | with_reducible refine Below.alloc ?_ (by first | omega | (simp; done) | (simp; omega)) _), (hm.alloc _).alloc _, (Cols.alloc hc _).alloc _, Nm.alloc (Cl.new _ rfl rfl) _, Pnt.new (by simp)⟩ ?_
  rintro W ⟨B, hD, hO, hA, hQ⟩
  generalize w.heap.size + 1 = bq at *
  with_reducible refine (CM.out _ hD hO).mono ?_
  rintro e w1 ⟨rfl, hb⟩
  replace B := B.trans (hb.mono B.size)
  replace hD := hD.keep hb; replace hO := hO.keep hb; replace hA := hA.keep hb; replace hQ := hQ.keep hb
  clear hb W
  have ghA := fun o => (hA.alloc o).cells
  have ghQ := fun o => (hQ.alloc o).cells
  go_wp2_with fail
  refine calls_world (fun W => Below w.heap.size w W ∧ Mds W ∧ Cols W ∧ Nm W w.heap.size a ∧ Pnt W bq x y i ∧ Pnt W w1.heap.size X Y j) ⟨B.alloc B.size _, hD.alloc _, hO.alloc _, hA.alloc _, hQ.alloc _, Pnt.new rfl⟩ ?_
  clear B hD hO hA hQ ghA ghQ
  rintro W ⟨B, hD, hO, hA, hQ, hP⟩
  generalize w1.heap.size = bp at *
  clear hQ
  with_reducible refine (CR.out _).mono ?_
  rintro e w2 ⟨rfl, hb⟩
  replace B := B.trans (hb.mono B.size)
  replace hD := hD.keep hb; replace hO := hO.keep hb; replace hA := hA.keep hb; replace hP := hP.keep hb
  clear hb W
  go_wp2_with fail
  refine wp_world (fun W => Below w.heap.size w W ∧ Mds W ∧ Cols W ∧ Nm W w.heap.size a ∧ Pnt W bp X Y j ∧ Pnt W w2.heap.size X Y j) ⟨B.alloc B.size _, hD.alloc _, hO.alloc _, hA.alloc _, hP.alloc _, Pnt.new rfl⟩ ?_
  clear B hD hO hA hP 
  rintro W ⟨B, hD, hO, hA, hP, hR⟩
  generalize w2.heap.size = br at *
  have ghP := hP.grown
  have ghR := hR.grown
  have ghA := hA.grown
  have hDg : ∀ d os, Mds (grow (redrawn W d) os) := fun d os => hD.keep (below_regrown W d os)
  have hOg : ∀ d os, Cols (grow (redrawn W d) os) := fun d os => hO.keep (below_regrown W d os)
  refine wp_region_quiet_below (by kernel_rfl) (by kernel_rfl) ?_
  repeat
    first
      | go_big_quiet_skip
      | (go_big_quiet_want; go_big_quiet_op; go_big_quiet_on)
      | (go_big_quiet_want
         go_big_quiet_op
         apply Exists.intro
         refine ⟨fun p => ?_, ?_⟩
         · (first | (go_at_call 11; with_reducible exact Calls.regrown_of (CN.out _)) | (go_at_call 33; with_reducible exact Calls.regrown_of (CG.out _ (hDg p.d p.os) (hOg p.d p.os))) | (go_at_call 34; with_reducible exact Calls.regrown_of (CH.out _)))
         go_big_quiet_on)
  refine wpQuiet_nil ?_
  rintro w3 ⟨p, rfl⟩
  have hb := below_regrown W p.d p.os
  generalize grow (redrawn W p.d) p.os = w3 at *
  replace B := B.trans (hb.mono B.size)
  replace hD := hD.keep hb; replace hO := hO.keep hb; replace hA := hA.keep hb; replace hP := hP.keep hb; replace hR := hR.keep hb
  clear hb W ghP ghR ghA hDg hOg
  clear hD hO hP hR hA
  go_wp2
  simp [bodyPost, results, Tryd.results8, go_sem]
  exact B
theorem cmuls_any {a x y : Int} {i : Bool} (ha : Num a) (hx : Num x) (hy : Num y) (w : World) (hm : Mds w) (hc : Cols w) :
    Calls Tryd.prog 8 #[.agg #[.int .u64 (l0 a), .int .u64 (l1 a), .int .u64 (l2 a), .int .u64 (l3 a)], .agg #[.int .u64 (l0 x), .int .u64 (l1 x), .int .u64 (l2 x), .int .u64 (l3 x), .int .u64 (l0 y), .int .u64 (l1 y), .int .u64 (l2 y), .int .u64 (l3 y), .bool i]] w fun e w' => e = .returned (.bool true) ∧ Below w.heap.size w w' := by
  obtain ⟨X2, Y2, j2, hg, eg⟩ := rep_pt (EC.smul_on EC.gJ_on a.toNat)
  by_cases hv : Vd x y i
  · obtain ⟨X, Y, j, hj, ej⟩ := rep_pt (EC.smul_on hv.on a.toNat)
    exact cmuls_walk (fun w hm hc => cmul_any ha hv hj ej w hm hc) (fun w => r5mulp_any ha hv hj ej w) (fun w => lnum5_any 0 w) (eq_pt_self hj) (fun w hm hc => cmulg_any ha hg eg w hm hc) (fun w => r5mulg_any ha hg eg w) (eq_pt_self hg) w hm hc
  · exact cmuls_walk (fun w hm hc => cmul_bad hx hy hv w hm hc) (fun w => r5mulp_bad (r5on_no hx hy hv) w) (fun w => lnum5_any 50 w) (eq_pt_num ⟨by decide, by decide⟩ ⟨by decide, by decide⟩) (fun w hm hc => cmulg_any ha hg eg w hm hc) (fun w => r5mulg_any ha hg eg w) (eq_pt_self hg) w hm hc
end Go.Proofs.YtjppjieidjodfabDoor
