import Derived.Test.YtjppjieidjodfaaDoorCBlend
import Derived.Test.YtjppjieidjodfaaDoorCLaw
import Derived.Test.YtjppjieidjodfaaDoorQAlloc
import Derived.Test.YtjppjieidjodfaaDoorReduce
namespace Go.Proofs.YtjppjieidjodfaaDoor
open Go.RowKit Go.Sort

theorem Cols.keep {W w1 : World} (h : Cols W) (hb : Below W.heap.size W w1) : Cols w1 := Pts.keep h hb
theorem Cols.alloc {W : World} (h : Cols W) (ob : Obj) : Cols (W.alloc ob) := Pts.alloc h ob
theorem Cols.put9 {W : World} {b' : Nat} {x' y' : Int} {j : Bool} (h : Cols W) (ne : b' ≠ 0) : Cols (Go.Proofs.YtjppjieidjodfaaDoor.put9 W b' x' y' j) := by
  unfold Go.Proofs.YtjppjieidjodfaaDoor.put9
  exact Pts.set (Pts.set (Pts.set (Pts.set (Pts.set (Pts.set (Pts.set (Pts.set (Pts.set h ne _) ne _) ne _) ne _) ne _) ne _) ne _) ne _) ne _
theorem Nm.lt {W : World} {b : Nat} {n : Int} (h : Nm W b n) : b < W.heap.size := Cl.lt h (by simp)
theorem Nm.put9 {W : World} {b b' : Nat} {n x' y' : Int} {j : Bool} (h : Nm W b n) (ne : b' ≠ b) : Nm (Go.Proofs.YtjppjieidjodfaaDoor.put9 W b' x' y' j) b n := by
  unfold Go.Proofs.YtjppjieidjodfaaDoor.put9
  exact Cl.set (Cl.set (Cl.set (Cl.set (Cl.set (Cl.set (Cl.set (Cl.set (Cl.set h ne _) ne _) ne _) ne _) ne _) ne _) ne _) ne _) ne _
def put4 (W : World) (b : Nat) (n : Int) : World := (((W.setCell ⟨b, 0, none⟩ (.int .u64 (l0 n))).setCell ⟨b, 1, none⟩ (.int .u64 (l1 n))).setCell ⟨b, 2, none⟩ (.int .u64 (l2 n))).setCell ⟨b, 3, none⟩ (.int .u64 (l3 n))
theorem Blank.put4 {W : World} {b : Nat} (h : Blank W b) (n : Int) : Nm (Go.Proofs.YtjppjieidjodfaaDoor.put4 W b n) b n := by
  obtain ⟨a0, a1, a2, a3⟩ := h.1.all4
  intro k hk
  have hk' : k < 4 := by simpa using hk
  have hc : k = 0 ∨ k = 1 ∨ k = 2 ∨ k = 3 := by omega
  unfold Go.Proofs.YtjppjieidjodfaaDoor.put4
  rcases hc with rfl | rfl | rfl | rfl <;> simp [go_sem, a0, a1, a2, a3]
theorem Pnt.put4 {W : World} {b b' : Nat} {x y n : Int} {i : Bool} (h : Pnt W b x y i) (ne : b' ≠ b) : Pnt (Go.Proofs.YtjppjieidjodfaaDoor.put4 W b' n) b x y i := by
  unfold Go.Proofs.YtjppjieidjodfaaDoor.put4
  exact Cl.set (Cl.set (Cl.set (Cl.set h ne _) ne _) ne _) ne _
theorem Nm.put4 {W : World} {b b' : Nat} {m n : Int} (h : Nm W b m) (ne : b' ≠ b) : Nm (Go.Proofs.YtjppjieidjodfaaDoor.put4 W b' n) b m := by
  unfold Go.Proofs.YtjppjieidjodfaaDoor.put4
  exact Cl.set (Cl.set (Cl.set (Cl.set h ne _) ne _) ne _) ne _
theorem Mds.put4 {W : World} {b' : Nat} {n : Int} (h : Mds W) (ne : b' ≠ 1) : Mds (Go.Proofs.YtjppjieidjodfaaDoor.put4 W b' n) := by
  unfold Go.Proofs.YtjppjieidjodfaaDoor.put4
  exact (((h.set ne _).set ne _).set ne _).set ne _
theorem Cols.put4 {W : World} {b' : Nat} {n : Int} (h : Cols W) (ne : b' ≠ 0) : Cols (Go.Proofs.YtjppjieidjodfaaDoor.put4 W b' n) := by
  unfold Go.Proofs.YtjppjieidjodfaaDoor.put4
  exact Pts.set (Pts.set (Pts.set (Pts.set h ne _) ne _) ne _) ne _
theorem below_put4 {W w : World} {n b : Nat} {m : Int} (h : Below n w W) (hb : n ≤ b) : Below n w (put4 W b m) := by
  unfold put4
  exact (((h.setCell hb _).setCell hb _).setCell hb _).setCell hb _
theorem alloc_pt (dst : Option Tmp) (pos : String) (ty : TypeId) (ρ : Operand → Value) (w : World) : (execOp ρ { dst := dst, op := Op.alloc 26, type := ty, pos := pos, after := #[], guard := none }).run Tryd.prog w = .ok (.value (.pointer (some ⟨w.heap.size, 0, none⟩))) (w.alloc (.cells #[.int .u64 0, .int .u64 0, .int .u64 0, .int .u64 0, .int .u64 0, .int .u64 0, .int .u64 0, .int .u64 0, .bool false] 26)) := by
  simp [execOp, go_sem]
end Go.Proofs.YtjppjieidjodfaaDoor

namespace Go.Proofs.YtjppjieidjodfaaDoor
open Go.RowKit Go.Sort

theorem lorder_any (w : World) : Calls Tryd.prog 31 #[] w fun e w' => e = .returned (.agg #[.int .u64 (l0 nN), .int .u64 (l1 nN), .int .u64 (l2 nN), .int .u64 (l3 nN)]) ∧ Below w.heap.size w w' := by
  obtain ⟨c0, c1, c2, c3⟩ := limbs_n
  rw [c0, c1, c2, c3]
  clear c0 c1 c2 c3
  go_enter Tryd.func31, Tryd.ntmps31
  go_wp2
  simp [bodyPost, results, Tryd.results31, go_sem]
  repeat (first | with_reducible exact Below.refl _ _ | with_reducible refine Below.alloc ?_ (by first | omega | (simp; done) | (simp; omega)) _ | with_reducible refine Below.setCell ?_ (by first | omega | (simp; done) | (simp; omega)) _)

set_option maxRecDepth 100000 in
set_option maxHeartbeats 8000000 in
theorem corder_bad {a b x y : Int} {i : Bool} (CB : Hid (∀ w, Mds w → Cols w → Calls Tryd.prog 9 #[] w fun e w' => e = .returned (.bool true) ∧ Below w.heap.size w w')) (C0 : Hid (∀ w, Mds w → Calls Tryd.prog 10 #[.agg #[.int .u64 (l0 x), .int .u64 (l1 x), .int .u64 (l2 x), .int .u64 (l3 x), .int .u64 (l0 y), .int .u64 (l1 y), .int .u64 (l2 y), .int .u64 (l3 y), .bool i]] w fun e w' => e = .returned (.bool false) ∧ Below w.heap.size w w')) (w : World) (hm : Mds w) (hc : Cols w) :
    Calls Tryd.prog 8 #[.agg #[.int .u64 (l0 a), .int .u64 (l1 a), .int .u64 (l2 a), .int .u64 (l3 a)], .agg #[.int .u64 (l0 b), .int .u64 (l1 b), .int .u64 (l2 b), .int .u64 (l3 b)], .agg #[.int .u64 (l0 x), .int .u64 (l1 x), .int .u64 (l2 x), .int .u64 (l3 x), .int .u64 (l0 y), .int .u64 (l1 y), .int .u64 (l2 y), .int .u64 (l3 y), .bool i]] w fun e w' => e = .returned (.bool true) ∧ Below w.heap.size w w' := by
  go_enter Tryd.func8, Tryd.ntmps8
  go_wp2_with fail
  refine calls_world (fun W => Below w.heap.size w W ∧ Mds W ∧ Cols W ∧ Nm W w.heap.size a ∧ Nm W (w.heap.size + 1) b ∧ Pnt W (w.heap.size + 1 + 1) x y i) ⟨by repeat (first | with_reducible exact Below.refl _ _ | with_reducible refine Below.alloc ?_ (by first | omega | (simp; done) | (simp; omega)) _), ((hm.alloc _).alloc _).alloc _, ((Cols.alloc hc _).alloc _).alloc _, (Nm.alloc (Cl.new _ rfl rfl) _).alloc _, Nm.alloc (Cl.new _ (by simp) rfl) _, Pnt.new (by simp)⟩ ?_
  rintro W ⟨B, hD, hO, hA, hB, hP⟩
  generalize w.heap.size + 1 + 1 = bp at *
  generalize w.heap.size + 1 = bb at *
  with_reducible refine (CB.out _ hD hO).mono ?_
  rintro e w1 ⟨rfl, hb⟩
  replace B := B.trans (hb.mono B.size)
  replace hD := hD.keep hb; replace hO := hO.keep hb; replace hA := hA.keep hb; replace hB := hB.keep hb; replace hP := hP.keep hb
  clear hb W
  have ghP := hP.cells
  go_wp2_with fail
  refine calls_world (fun W => Below w.heap.size w W ∧ Mds W ∧ Cols W ∧ Nm W w.heap.size a ∧ Nm W bb b ∧ Pnt W bp x y i) ⟨B, hD, hO, hA, hB, hP⟩ ?_
  clear B hD hO hA hB hP ghP
  rintro W ⟨B, hD, hO, hA, hB, hP⟩
  with_reducible refine (C0.out _ hD).mono ?_
  rintro e w9 ⟨rfl, hb⟩
  replace B := B.trans (hb.mono B.size)
  clear hb hD hO hP hA hB W
  go_wp2
  simp [bodyPost, results, Tryd.results8, go_sem]
  exact B

set_option maxRecDepth 100000 in
set_option maxHeartbeats 16000000 in
theorem corder_walk {a b k x y xq yq xr yr xs ys ox oy xg yg xm ym gx gy : Int} {i iq ir is oi ig im gi : Bool} (CB : Hid (∀ w, Mds w → Cols w → Calls Tryd.prog 9 #[] w fun e w' => e = .returned (.bool true) ∧ Below w.heap.size w w')) (C0 : Hid (∀ w, Mds w → Calls Tryd.prog 10 #[.agg #[.int .u64 (l0 x), .int .u64 (l1 x), .int .u64 (l2 x), .int .u64 (l3 x), .int .u64 (l0 y), .int .u64 (l1 y), .int .u64 (l2 y), .int .u64 (l3 y), .bool i]] w fun e w' => e = .returned (.bool true) ∧ Below w.heap.size w w')) (CO : Hid (∀ w, Calls Tryd.prog 31 #[] w fun e w' => e = .returned (.agg #[.int .u64 (l0 nN), .int .u64 (l1 nN), .int .u64 (l2 nN), .int .u64 (l3 nN)]) ∧ Below w.heap.size w w')) (M0 : Hid (∀ w, Mds w → Cols w → Calls Tryd.prog 26 #[.agg #[.int .u64 (l0 nN), .int .u64 (l1 nN), .int .u64 (l2 nN), .int .u64 (l3 nN)], .agg #[.int .u64 (l0 x), .int .u64 (l1 x), .int .u64 (l2 x), .int .u64 (l3 x), .int .u64 (l0 y), .int .u64 (l1 y), .int .u64 (l2 y), .int .u64 (l3 y), .bool i]] w fun e w' => e = .returned (.tuple #[.agg #[.int .u64 (l0 ox), .int .u64 (l1 ox), .int .u64 (l2 ox), .int .u64 (l3 ox), .int .u64 (l0 oy), .int .u64 (l1 oy), .int .u64 (l2 oy), .int .u64 (l3 oy), .bool oi], .int .i64 0]) ∧ Below w.heap.size w w')) (M1 : Hid (∀ w, Mds w → Cols w → Calls Tryd.prog 26 #[.agg #[.int .u64 (l0 a), .int .u64 (l1 a), .int .u64 (l2 a), .int .u64 (l3 a)], .agg #[.int .u64 (l0 x), .int .u64 (l1 x), .int .u64 (l2 x), .int .u64 (l3 x), .int .u64 (l0 y), .int .u64 (l1 y), .int .u64 (l2 y), .int .u64 (l3 y), .bool i]] w fun e w' => e = .returned (.tuple #[.agg #[.int .u64 (l0 xq), .int .u64 (l1 xq), .int .u64 (l2 xq), .int .u64 (l3 xq), .int .u64 (l0 yq), .int .u64 (l1 yq), .int .u64 (l2 yq), .int .u64 (l3 yq), .bool iq], .int .i64 0]) ∧ Below w.heap.size w w')) (M2 : Hid (∀ w, Mds w → Cols w → Calls Tryd.prog 26 #[.agg #[.int .u64 (l0 b), .int .u64 (l1 b), .int .u64 (l2 b), .int .u64 (l3 b)], .agg #[.int .u64 (l0 x), .int .u64 (l1 x), .int .u64 (l2 x), .int .u64 (l3 x), .int .u64 (l0 y), .int .u64 (l1 y), .int .u64 (l2 y), .int .u64 (l3 y), .bool i]] w fun e w' => e = .returned (.tuple #[.agg #[.int .u64 (l0 xr), .int .u64 (l1 xr), .int .u64 (l2 xr), .int .u64 (l3 xr), .int .u64 (l0 yr), .int .u64 (l1 yr), .int .u64 (l2 yr), .int .u64 (l3 yr), .bool ir], .int .i64 0]) ∧ Below w.heap.size w w'))
    (AM : Hid (∀ w, Calls Tryd.prog 32 #[.agg #[.int .u64 (l0 a), .int .u64 (l1 a), .int .u64 (l2 a), .int .u64 (l3 a)], .agg #[.int .u64 (l0 b), .int .u64 (l1 b), .int .u64 (l2 b), .int .u64 (l3 b)], .agg #[.int .u64 (l0 nN), .int .u64 (l1 nN), .int .u64 (l2 nN), .int .u64 (l3 nN)]] w fun e w' => e = .returned (.tuple #[.agg #[.int .u64 (l0 k), .int .u64 (l1 k), .int .u64 (l2 k), .int .u64 (l3 k)], .int .i64 0]) ∧ Below w.heap.size w w')) (M3 : Hid (∀ w, Mds w → Cols w → Calls Tryd.prog 26 #[.agg #[.int .u64 (l0 k), .int .u64 (l1 k), .int .u64 (l2 k), .int .u64 (l3 k)], .agg #[.int .u64 (l0 x), .int .u64 (l1 x), .int .u64 (l2 x), .int .u64 (l3 x), .int .u64 (l0 y), .int .u64 (l1 y), .int .u64 (l2 y), .int .u64 (l3 y), .bool i]] w fun e w' => e = .returned (.tuple #[.agg #[.int .u64 (l0 xs), .int .u64 (l1 xs), .int .u64 (l2 xs), .int .u64 (l3 xs), .int .u64 (l0 ys), .int .u64 (l1 ys), .int .u64 (l2 ys), .int .u64 (l3 ys), .bool is], .int .i64 0]) ∧ Below w.heap.size w w')) (L1 : Hid (∀ w, Mds w → Calls Tryd.prog 11 #[.agg #[.int .u64 (l0 xq), .int .u64 (l1 xq), .int .u64 (l2 xq), .int .u64 (l3 xq), .int .u64 (l0 yq), .int .u64 (l1 yq), .int .u64 (l2 yq), .int .u64 (l3 yq), .bool iq], .agg #[.int .u64 (l0 xr), .int .u64 (l1 xr), .int .u64 (l2 xr), .int .u64 (l3 xr), .int .u64 (l0 yr), .int .u64 (l1 yr), .int .u64 (l2 yr), .int .u64 (l3 yr), .bool ir]] w fun e w' => e = .returned (.tuple #[.agg #[.int .u64 (l0 xs), .int .u64 (l1 xs), .int .u64 (l2 xs), .int .u64 (l3 xs), .int .u64 (l0 ys), .int .u64 (l1 ys), .int .u64 (l2 ys), .int .u64 (l3 ys), .bool is], .bool true]) ∧ Below w.heap.size w w')) (CN : Hid (∀ w, Calls Tryd.prog 16 #[.int .i64 0] w fun e w' => e = .returned (.int .i64 0) ∧ Below w.heap.size w w')) (CZ : Hid (∀ w, Calls Tryd.prog 13 #[] w fun e w' => e = .returned (.agg #[.int .u64 (l0 ox), .int .u64 (l1 ox), .int .u64 (l2 ox), .int .u64 (l3 ox), .int .u64 (l0 oy), .int .u64 (l1 oy), .int .u64 (l2 oy), .int .u64 (l3 oy), .bool oi]) ∧ Below w.heap.size w w'))
    (CG : Hid (∀ w, Cols w → Calls Tryd.prog 33 #[] w fun e w' => e = .returned (.agg #[.int .u64 (l0 gx), .int .u64 (l1 gx), .int .u64 (l2 gx), .int .u64 (l3 gx), .int .u64 (l0 gy), .int .u64 (l1 gy), .int .u64 (l2 gy), .int .u64 (l3 gy), .bool gi]) ∧ Below w.heap.size w w')) (M4 : Hid (∀ w, Mds w → Cols w → Calls Tryd.prog 26 #[.agg #[.int .u64 (l0 a), .int .u64 (l1 a), .int .u64 (l2 a), .int .u64 (l3 a)], .agg #[.int .u64 (l0 gx), .int .u64 (l1 gx), .int .u64 (l2 gx), .int .u64 (l3 gx), .int .u64 (l0 gy), .int .u64 (l1 gy), .int .u64 (l2 gy), .int .u64 (l3 gy), .bool gi]] w fun e w' => e = .returned (.tuple #[.agg #[.int .u64 (l0 xg), .int .u64 (l1 xg), .int .u64 (l2 xg), .int .u64 (l3 xg), .int .u64 (l0 yg), .int .u64 (l1 yg), .int .u64 (l2 yg), .int .u64 (l3 yg), .bool ig], .int .i64 0]) ∧ Below w.heap.size w w')) (MA : Hid (∀ w, Mds w → Cols w → Calls Tryd.prog 34 #[.agg #[.int .u64 (l0 a), .int .u64 (l1 a), .int .u64 (l2 a), .int .u64 (l3 a)], .agg #[.int .u64 (l0 b), .int .u64 (l1 b), .int .u64 (l2 b), .int .u64 (l3 b)], .agg #[.int .u64 (l0 x), .int .u64 (l1 x), .int .u64 (l2 x), .int .u64 (l3 x), .int .u64 (l0 y), .int .u64 (l1 y), .int .u64 (l2 y), .int .u64 (l3 y), .bool i]] w fun e w' => e = .returned (.tuple #[.agg #[.int .u64 (l0 xm), .int .u64 (l1 xm), .int .u64 (l2 xm), .int .u64 (l3 xm), .int .u64 (l0 ym), .int .u64 (l1 ym), .int .u64 (l2 ym), .int .u64 (l3 ym), .bool im], .int .i64 0]) ∧ Below w.heap.size w w')) (L2 : Hid (∀ w, Mds w → Calls Tryd.prog 11 #[.agg #[.int .u64 (l0 xg), .int .u64 (l1 xg), .int .u64 (l2 xg), .int .u64 (l3 xg), .int .u64 (l0 yg), .int .u64 (l1 yg), .int .u64 (l2 yg), .int .u64 (l3 yg), .bool ig], .agg #[.int .u64 (l0 xr), .int .u64 (l1 xr), .int .u64 (l2 xr), .int .u64 (l3 xr), .int .u64 (l0 yr), .int .u64 (l1 yr), .int .u64 (l2 yr), .int .u64 (l3 yr), .bool ir]] w fun e w' => e = .returned (.tuple #[.agg #[.int .u64 (l0 xm), .int .u64 (l1 xm), .int .u64 (l2 xm), .int .u64 (l3 xm), .int .u64 (l0 ym), .int .u64 (l1 ym), .int .u64 (l2 ym), .int .u64 (l3 ym), .bool im], .bool true]) ∧ Below w.heap.size w w')) (MG : Hid (∀ w, Mds w → Cols w → Calls Tryd.prog 35 #[.agg #[.int .u64 (l0 a), .int .u64 (l1 a), .int .u64 (l2 a), .int .u64 (l3 a)]] w fun e w' => e = .returned (.agg #[.int .u64 (l0 xg), .int .u64 (l1 xg), .int .u64 (l2 xg), .int .u64 (l3 xg), .int .u64 (l0 yg), .int .u64 (l1 yg), .int .u64 (l2 yg), .int .u64 (l3 yg), .bool ig]) ∧ Below w.heap.size w w'))
    (Eo : ∀ w, (Op.equalIn 10000 26 (.agg #[.int .u64 (l0 ox), .int .u64 (l1 ox), .int .u64 (l2 ox), .int .u64 (l3 ox), .int .u64 (l0 oy), .int .u64 (l1 oy), .int .u64 (l2 oy), .int .u64 (l3 oy), .bool oi]) (.agg #[.int .u64 (l0 ox), .int .u64 (l1 ox), .int .u64 (l2 ox), .int .u64 (l3 ox), .int .u64 (l0 oy), .int .u64 (l1 oy), .int .u64 (l2 oy), .int .u64 (l3 oy), .bool oi])).run Tryd.prog w = .ok true w) (Es : ∀ w, (Op.equalIn 10000 26 (.agg #[.int .u64 (l0 xs), .int .u64 (l1 xs), .int .u64 (l2 xs), .int .u64 (l3 xs), .int .u64 (l0 ys), .int .u64 (l1 ys), .int .u64 (l2 ys), .int .u64 (l3 ys), .bool is]) (.agg #[.int .u64 (l0 xs), .int .u64 (l1 xs), .int .u64 (l2 xs), .int .u64 (l3 xs), .int .u64 (l0 ys), .int .u64 (l1 ys), .int .u64 (l2 ys), .int .u64 (l3 ys), .bool is])).run Tryd.prog w = .ok true w) (Eg : ∀ w, (Op.equalIn 10000 26 (.agg #[.int .u64 (l0 xg), .int .u64 (l1 xg), .int .u64 (l2 xg), .int .u64 (l3 xg), .int .u64 (l0 yg), .int .u64 (l1 yg), .int .u64 (l2 yg), .int .u64 (l3 yg), .bool ig]) (.agg #[.int .u64 (l0 xg), .int .u64 (l1 xg), .int .u64 (l2 xg), .int .u64 (l3 xg), .int .u64 (l0 yg), .int .u64 (l1 yg), .int .u64 (l2 yg), .int .u64 (l3 yg), .bool ig])).run Tryd.prog w = .ok true w) (Em : ∀ w, (Op.equalIn 10000 26 (.agg #[.int .u64 (l0 xm), .int .u64 (l1 xm), .int .u64 (l2 xm), .int .u64 (l3 xm), .int .u64 (l0 ym), .int .u64 (l1 ym), .int .u64 (l2 ym), .int .u64 (l3 ym), .bool im]) (.agg #[.int .u64 (l0 xm), .int .u64 (l1 xm), .int .u64 (l2 xm), .int .u64 (l3 xm), .int .u64 (l0 ym), .int .u64 (l1 ym), .int .u64 (l2 ym), .int .u64 (l3 ym), .bool im])).run Tryd.prog w = .ok true w) (w : World) (hm : Mds w) (hc : Cols w) :
    Calls Tryd.prog 8 #[.agg #[.int .u64 (l0 a), .int .u64 (l1 a), .int .u64 (l2 a), .int .u64 (l3 a)], .agg #[.int .u64 (l0 b), .int .u64 (l1 b), .int .u64 (l2 b), .int .u64 (l3 b)], .agg #[.int .u64 (l0 x), .int .u64 (l1 x), .int .u64 (l2 x), .int .u64 (l3 x), .int .u64 (l0 y), .int .u64 (l1 y), .int .u64 (l2 y), .int .u64 (l3 y), .bool i]] w fun e w' => e = .returned (.bool true) ∧ Below w.heap.size w w' := by
  go_enter Tryd.func8, Tryd.ntmps8
  go_wp2_with fail
  refine calls_world (fun W => Below w.heap.size w W ∧ Mds W ∧ Cols W ∧ Nm W w.heap.size a ∧ Nm W (w.heap.size + 1) b ∧ Pnt W (w.heap.size + 1 + 1) x y i) ⟨by repeat (first | with_reducible exact Below.refl _ _ | with_reducible refine Below.alloc ?_ (by first | omega | (simp; done) | (simp; omega)) _), ((hm.alloc _).alloc _).alloc _, ((Cols.alloc hc _).alloc _).alloc _, (Nm.alloc (Cl.new _ rfl rfl) _).alloc _, Nm.alloc (Cl.new _ (by simp) rfl) _, Pnt.new (by simp)⟩ ?_
  rintro W ⟨B, hD, hO, hA, hB, hP⟩
  generalize w.heap.size + 1 + 1 = bp at *
  generalize w.heap.size + 1 = bb at *
  with_reducible refine (CB.out _ hD hO).mono ?_
  rintro e w1 ⟨rfl, hb⟩
  replace B := B.trans (hb.mono B.size)
  replace hD := hD.keep hb; replace hO := hO.keep hb; replace hA := hA.keep hb; replace hB := hB.keep hb; replace hP := hP.keep hb
  clear hb W
  have ghP := hP.cells
  go_wp2_with fail
  refine calls_world (fun W => Below w.heap.size w W ∧ Mds W ∧ Cols W ∧ Nm W w.heap.size a ∧ Nm W bb b ∧ Pnt W bp x y i) ⟨B, hD, hO, hA, hB, hP⟩ ?_
  clear B hD hO hA hB hP ghP
  rintro W ⟨B, hD, hO, hA, hB, hP⟩
  with_reducible refine (C0.out _ hD).mono ?_
  rintro e w2 ⟨rfl, hb⟩
  replace B := B.trans (hb.mono B.size)
  replace hD := hD.keep hb; replace hO := hO.keep hb; replace hA := hA.keep hb; replace hB := hB.keep hb; replace hP := hP.keep hb
  clear hb W
  go_wp2_with fail
  refine wp_world (fun W => Below w.heap.size w W ∧ Mds W ∧ Cols W ∧ Nm W w.heap.size a ∧ Nm W bb b ∧ Pnt W bp x y i) ⟨B, hD, hO, hA, hB, hP⟩ ?_
  clear B hD hO hA hB hP 
  rintro W ⟨B, hD, hO, hA, hB, hP⟩
  refine put_tail (A := ?AA1) 6 (fun V kk => put9 V kk ox oy oi) (by kernel_rfl) (by kernel_rfl) rfl rfl rfl (alloc_pt _ _ _) (fun V V0 h0 h1 => below_put9 (alloc_below h0 h1) h0.size) (fun V hV => ?HH1) (fun V V0 h0 h1 => ?EE1) (fun V0 V w1 h0 h1 h2 => ?TT1)
  case HH1 =>
    have hDg : ∀ d os, Mds (grow (redrawn V d) os) := fun d os => (hD.keep hV).keep (below_regrown V d os)
    have hOg : ∀ d os, Cols (grow (redrawn V d) os) := fun d os => (hO.keep hV).keep (below_regrown V d os)
    have ghP := (hP.keep hV).grown
    unfold Gr
    simp only [List.take_succ_cons, List.take_zero]
    repeat
      first
        | go_big_quiet_skip
        | (go_big_quiet_want; go_big_quiet_op; go_big_quiet_on)
        | (go_big_quiet_want
           go_big_quiet_op
           apply Exists.intro
           refine ⟨fun p => ?_, ?_⟩
           · (first | (go_at_call 31; with_reducible exact Calls.regrown_of (CO.out _)) | (go_at_call 26; with_reducible exact Calls.regrown_of (M0.out _ (hDg p.d p.os) (hOg p.d p.os))))
           go_big_quiet_on)
    refine wpQuiet_nil ?_
    exact rfl
  case EE1 =>
    obtain ⟨c0, c1, c2, c3, c4, c5, c6, c7, c8⟩ := ((Bk9.new rfl).keep h1).cells
    obtain ⟨f0, f1, f2, f3, f4, f5, f6, f7, f8⟩ := ((Bk9.new rfl).keep h1).free
    unfold put9
    simp [execOp, Act.put, Act.eval, go_sem, c0, c1, c2, c3, c4, c5, c6, c7, c8, f0, f1, f2, f3, f4, f5, f6, f7, f8]
  case TT1 =>
    have hN := (((Bk9.new rfl).keep h1).put9 ox oy oi).keep h2
    have hb := alloc_below h0 h1
    have nhD : V0.heap.size ≠ 1 := Nat.ne_of_gt (Nat.lt_of_lt_of_le hD.lt h0.size)
    have nhO : V0.heap.size ≠ 0 := Nat.ne_of_gt (Nat.lt_of_lt_of_le hO.lt h0.size)
    have nhA : V0.heap.size ≠ w.heap.size := Nat.ne_of_gt (Nat.lt_of_lt_of_le hA.lt h0.size)
    have nhB : V0.heap.size ≠ bb := Nat.ne_of_gt (Nat.lt_of_lt_of_le hB.lt h0.size)
    have nhP : V0.heap.size ≠ bp := Nat.ne_of_gt (Nat.lt_of_lt_of_le hP.lt h0.size)
    have gn : w.heap.size ≤ V0.heap.size := Nat.le_trans B.size h0.size
    have B1 := below_put9 (x' := ox) (y' := oy) (j := oi) (B.trans (hb.mono B.size)) gn
    replace B := B1.trans (h2.mono B1.size)
    replace hD := ((hD.keep hb).put9 nhD).keep h2
    replace hO := ((hO.keep hb).put9 nhO).keep h2
    replace hA := ((hA.keep hb).put9 nhA).keep h2
    replace hB := ((hB.keep hb).put9 nhB).keep h2
    replace hP := ((hP.keep hb).put9 nhP).keep h2
    clear hb h0 h1 h2 B1 W gn nhD nhO nhA nhB nhP
    generalize V0.heap.size = bz at *
    clear V V0
    have ghA := hA.cells
    have ghP := hP.cells
    simp only [List.drop_succ_cons, List.drop_zero, Act.put, List.setIfInBounds_toArray, List.set_cons_zero, List.set_cons_succ]
    go_wp2_with fail
    refine calls_world (fun W => Below w.heap.size w W ∧ Mds W ∧ Cols W ∧ Nm W w.heap.size a ∧ Nm W bb b ∧ Pnt W bp x y i ∧ Pnt W bz ox oy oi) ⟨B, hD, hO, hA, hB, hP, hN⟩ ?_
    clear B hN hD hO hA hB hP ghA ghP
    rintro W ⟨B, hD, hO, hA, hB, hP, hZ⟩
    clear w1
    with_reducible refine (M1.out _ hD hO).mono ?_
    rintro e w21 ⟨rfl, hb⟩
    replace B := B.trans (hb.mono B.size)
    replace hD := hD.keep hb; replace hO := hO.keep hb; replace hA := hA.keep hb; replace hB := hB.keep hb; replace hP := hP.keep hb; replace hZ := hZ.keep hb
    clear hb W
    have ghB := fun o => (hB.alloc o).cells
    have ghP := fun o => (hP.alloc o).cells
    go_wp2_with fail
    refine calls_world (fun W => Below w.heap.size w W ∧ Mds W ∧ Cols W ∧ Nm W w.heap.size a ∧ Nm W bb b ∧ Pnt W bp x y i ∧ Pnt W bz ox oy oi ∧ Pnt W w21.heap.size xq yq iq) ⟨B.alloc B.size _, hD.alloc _, hO.alloc _, hA.alloc _, hB.alloc _, hP.alloc _, hZ.alloc _, Pnt.new rfl⟩ ?_
    clear B hD hO hA hB hP hZ ghB ghP
    rintro W ⟨B, hD, hO, hA, hB, hP, hZ, hQ⟩
    generalize w21.heap.size = bq at *
    with_reducible refine (M2.out _ hD hO).mono ?_
    rintro e w22 ⟨rfl, hb⟩
    replace B := B.trans (hb.mono B.size)
    replace hD := hD.keep hb; replace hO := hO.keep hb; replace hA := hA.keep hb; replace hB := hB.keep hb; replace hP := hP.keep hb; replace hZ := hZ.keep hb; replace hQ := hQ.keep hb
    clear hb W
    go_wp2_with fail
    refine wp_world (fun W => Below w.heap.size w W ∧ Mds W ∧ Cols W ∧ Nm W w.heap.size a ∧ Nm W bb b ∧ Pnt W bp x y i ∧ Pnt W bz ox oy oi ∧ Pnt W bq xq yq iq ∧ Pnt W w22.heap.size xr yr ir) ⟨B.alloc B.size _, hD.alloc _, hO.alloc _, hA.alloc _, hB.alloc _, hP.alloc _, hZ.alloc _, hQ.alloc _, Pnt.new rfl⟩ ?_
    clear B hD hO hA hB hP hZ hQ 
    rintro W ⟨B, hD, hO, hA, hB, hP, hZ, hQ, hR⟩
    generalize w22.heap.size = br at *
    refine put_tail (A := ?AA2) 7 (fun V kk => put4 V kk k) (by kernel_rfl) (by kernel_rfl) rfl rfl rfl (alloc_num _ _ _) (fun V V0 h0 h1 => below_put4 (alloc_below h0 h1) h0.size) (fun V hV => ?HH2) (fun V V0 h0 h1 => ?EE2) (fun V0 V w1 h0 h1 h2 => ?TT2)
    case HH2 =>
      have hDg : ∀ d os, Mds (grow (redrawn V d) os) := fun d os => (hD.keep hV).keep (below_regrown V d os)
      have hOg : ∀ d os, Cols (grow (redrawn V d) os) := fun d os => (hO.keep hV).keep (below_regrown V d os)
      have ghA := (hA.keep hV).grown
      have ghB := (hB.keep hV).grown
      unfold Gr
      simp only [List.take_succ_cons, List.take_zero]
      repeat
        first
          | go_big_quiet_skip
          | (go_big_quiet_want; go_big_quiet_op; go_big_quiet_on)
          | (go_big_quiet_want
             go_big_quiet_op
             apply Exists.intro
             refine ⟨fun p => ?_, ?_⟩
             · (first | (go_at_call 31; with_reducible exact Calls.regrown_of (CO.out _)) | (go_at_call 32; with_reducible exact Calls.regrown_of (AM.out _)))
             go_big_quiet_on)
      refine wpQuiet_nil ?_
      exact rfl
    case EE2 =>
      obtain ⟨c0, c1, c2, c3⟩ := ((Blank.new rfl).keep h1).1.all4
      obtain ⟨f0, f1, f2, f3⟩ := ((Blank.new rfl).keep h1).2.all4
      unfold put4
      simp [execOp, Act.put, Act.eval, go_sem, c0, c1, c2, c3, f0, f1, f2, f3]
    case TT2 =>
      have hN := (((Blank.new rfl).keep h1).put4 k).keep h2
      have hb := alloc_below h0 h1
      have nhD : V0.heap.size ≠ 1 := Nat.ne_of_gt (Nat.lt_of_lt_of_le hD.lt h0.size)
      have nhO : V0.heap.size ≠ 0 := Nat.ne_of_gt (Nat.lt_of_lt_of_le hO.lt h0.size)
      have nhA : V0.heap.size ≠ w.heap.size := Nat.ne_of_gt (Nat.lt_of_lt_of_le hA.lt h0.size)
      have nhB : V0.heap.size ≠ bb := Nat.ne_of_gt (Nat.lt_of_lt_of_le hB.lt h0.size)
      have nhP : V0.heap.size ≠ bp := Nat.ne_of_gt (Nat.lt_of_lt_of_le hP.lt h0.size)
      have nhZ : V0.heap.size ≠ bz := Nat.ne_of_gt (Nat.lt_of_lt_of_le hZ.lt h0.size)
      have nhQ : V0.heap.size ≠ bq := Nat.ne_of_gt (Nat.lt_of_lt_of_le hQ.lt h0.size)
      have nhR : V0.heap.size ≠ br := Nat.ne_of_gt (Nat.lt_of_lt_of_le hR.lt h0.size)
      have gn : w.heap.size ≤ V0.heap.size := Nat.le_trans B.size h0.size
      have B1 := below_put4 (m := k) (B.trans (hb.mono B.size)) gn
      replace B := B1.trans (h2.mono B1.size)
      replace hD := ((hD.keep hb).put4 nhD).keep h2
      replace hO := ((hO.keep hb).put4 nhO).keep h2
      replace hA := ((hA.keep hb).put4 nhA).keep h2
      replace hB := ((hB.keep hb).put4 nhB).keep h2
      replace hP := ((hP.keep hb).put4 nhP).keep h2
      replace hZ := ((hZ.keep hb).put4 nhZ).keep h2
      replace hQ := ((hQ.keep hb).put4 nhQ).keep h2
      replace hR := ((hR.keep hb).put4 nhR).keep h2
      clear hb h0 h1 h2 B1 W gn nhD nhO nhA nhB nhP nhZ nhQ nhR
      generalize V0.heap.size = bk at *
      clear V V0
      have ghP := hP.cells
      have gN := hN.cells
      simp only [List.drop_succ_cons, List.drop_zero, Act.put, List.setIfInBounds_toArray, List.set_cons_zero, List.set_cons_succ]
      go_wp2_with fail
      refine calls_world (fun W => Below w.heap.size w W ∧ Mds W ∧ Cols W ∧ Nm W w.heap.size a ∧ Nm W bb b ∧ Pnt W bp x y i ∧ Pnt W bz ox oy oi ∧ Pnt W bq xq yq iq ∧ Pnt W br xr yr ir ∧ Nm W bk k) ⟨B, hD, hO, hA, hB, hP, hZ, hQ, hR, hN⟩ ?_
      clear B hN gN hD hO hA hB hP hZ hQ hR ghP
      rintro W ⟨B, hD, hO, hA, hB, hP, hZ, hQ, hR, hK⟩
      clear w1
      clear hK
      with_reducible refine (M3.out _ hD hO).mono ?_
      rintro e w41 ⟨rfl, hb⟩
      replace B := B.trans (hb.mono B.size)
      replace hD := hD.keep hb; replace hO := hO.keep hb; replace hA := hA.keep hb; replace hB := hB.keep hb; replace hP := hP.keep hb; replace hZ := hZ.keep hb; replace hQ := hQ.keep hb; replace hR := hR.keep hb
      clear hb W
      have ghQ := fun o => (hQ.alloc o).cells
      have ghR := fun o => (hR.alloc o).cells
      go_wp2_with fail
      refine calls_world (fun W => Below w.heap.size w W ∧ Mds W ∧ Cols W ∧ Nm W w.heap.size a ∧ Nm W bb b ∧ Pnt W bp x y i ∧ Pnt W bz ox oy oi ∧ Pnt W bq xq yq iq ∧ Pnt W br xr yr ir ∧ Pnt W w41.heap.size xs ys is) ⟨B.alloc B.size _, hD.alloc _, hO.alloc _, hA.alloc _, hB.alloc _, hP.alloc _, hZ.alloc _, hQ.alloc _, hR.alloc _, Pnt.new rfl⟩ ?_
      clear B hD hO hA hB hP hZ hQ hR ghQ ghR
      rintro W ⟨B, hD, hO, hA, hB, hP, hZ, hQ, hR, hT⟩
      generalize w41.heap.size = bt at *
      with_reducible refine (L1.out _ hD).mono ?_
      rintro e w42 ⟨rfl, hb⟩
      replace B := B.trans (hb.mono B.size)
      replace hD := hD.keep hb; replace hO := hO.keep hb; replace hA := hA.keep hb; replace hB := hB.keep hb; replace hP := hP.keep hb; replace hZ := hZ.keep hb; replace hQ := hQ.keep hb; replace hR := hR.keep hb; replace hT := hT.keep hb
      clear hb W
      go_wp2_with fail
      refine wp_world (fun W => Below w.heap.size w W ∧ Mds W ∧ Cols W ∧ Nm W w.heap.size a ∧ Nm W bb b ∧ Pnt W bp x y i ∧ Pnt W bz ox oy oi ∧ Pnt W bq xq yq iq ∧ Pnt W br xr yr ir ∧ Pnt W bt xs ys is ∧ Pnt W w42.heap.size xs ys is) ⟨B.alloc B.size _, hD.alloc _, hO.alloc _, hA.alloc _, hB.alloc _, hP.alloc _, hZ.alloc _, hQ.alloc _, hR.alloc _, hT.alloc _, Pnt.new rfl⟩ ?_
      clear B hD hO hA hB hP hZ hQ hR hT 
      rintro W ⟨B, hD, hO, hA, hB, hP, hZ, hQ, hR, hT, hS⟩
      generalize w42.heap.size = bs at *
      have ghZ := hZ.grown
      have ghS := hS.grown
      have ghT := hT.grown
      have hDg : ∀ d os, Mds (grow (redrawn W d) os) := fun d os => hD.keep (below_regrown W d os)
      have hOg : ∀ d os, Cols (grow (redrawn W d) os) := fun d os => hO.keep (below_regrown W d os)
      refine wp_region_quiet_below (by kernel_rfl) (by kernel_rfl) ?_
      repeat
        first
          | go_big_quiet_skip
          | (go_big_quiet_want; go_big_quiet_op; go_big_quiet_on)
          | (go_big_quiet_want
             go_big_quiet_op
             apply Exists.intro
             refine ⟨fun p => ?_, ?_⟩
             · (first | (go_at_call 16; with_reducible exact Calls.regrown_of (CN.out _)) | (go_at_call 13; with_reducible exact Calls.regrown_of (CZ.out _)))
             go_big_quiet_on)
      refine wpQuiet_nil ?_
      rintro w43 ⟨p, rfl⟩
      have hb := below_regrown W p.d p.os
      generalize grow (redrawn W p.d) p.os = w43 at *
      replace B := B.trans (hb.mono B.size)
      replace hD := hD.keep hb; replace hO := hO.keep hb; replace hA := hA.keep hb; replace hB := hB.keep hb; replace hP := hP.keep hb; replace hZ := hZ.keep hb; replace hQ := hQ.keep hb; replace hR := hR.keep hb; replace hT := hT.keep hb; replace hS := hS.keep hb
      clear hb W ghZ ghS ghT hDg hOg
      clear hZ hS hT hQ
      go_wp2_with fail
      refine wp_world (fun W => Below w.heap.size w W ∧ Mds W ∧ Cols W ∧ Nm W w.heap.size a ∧ Nm W bb b ∧ Pnt W bp x y i ∧ Pnt W br xr yr ir) ⟨B, hD, hO, hA, hB, hP, hR⟩ ?_
      clear B hD hO hA hB hP hR
      rintro W ⟨B, hD, hO, hA, hB, hP, hR⟩
      clear w43
      refine put_tail (A := ?AA3) 6 (fun V kk => put9 V kk xg yg ig) (by kernel_rfl) (by kernel_rfl) rfl rfl rfl (alloc_pt _ _ _) (fun V V0 h0 h1 => below_put9 (alloc_below h0 h1) h0.size) (fun V hV => ?HH3) (fun V V0 h0 h1 => ?EE3) (fun V0 V w1 h0 h1 h2 => ?TT3)
      case HH3 =>
        have hDg : ∀ d os, Mds (grow (redrawn V d) os) := fun d os => (hD.keep hV).keep (below_regrown V d os)
        have hOg : ∀ d os, Cols (grow (redrawn V d) os) := fun d os => (hO.keep hV).keep (below_regrown V d os)
        have ghA := (hA.keep hV).grown
        unfold Gr
        simp only [List.take_succ_cons, List.take_zero]
        repeat
          first
            | go_big_quiet_skip
            | (go_big_quiet_want; go_big_quiet_op; go_big_quiet_on)
            | (go_big_quiet_want
               go_big_quiet_op
               apply Exists.intro
               refine ⟨fun p => ?_, ?_⟩
               · (first | (go_at_call 33; with_reducible exact Calls.regrown_of (CG.out _ (hOg p.d p.os))) | (go_at_call 26; with_reducible exact Calls.regrown_of (M4.out _ (hDg p.d p.os) (hOg p.d p.os))))
               go_big_quiet_on)
        refine wpQuiet_nil ?_
        exact rfl
      case EE3 =>
        obtain ⟨c0, c1, c2, c3, c4, c5, c6, c7, c8⟩ := ((Bk9.new rfl).keep h1).cells
        obtain ⟨f0, f1, f2, f3, f4, f5, f6, f7, f8⟩ := ((Bk9.new rfl).keep h1).free
        unfold put9
        simp [execOp, Act.put, Act.eval, go_sem, c0, c1, c2, c3, c4, c5, c6, c7, c8, f0, f1, f2, f3, f4, f5, f6, f7, f8]
      case TT3 =>
        have hN := (((Bk9.new rfl).keep h1).put9 xg yg ig).keep h2
        have hb := alloc_below h0 h1
        have nhD : V0.heap.size ≠ 1 := Nat.ne_of_gt (Nat.lt_of_lt_of_le hD.lt h0.size)
        have nhO : V0.heap.size ≠ 0 := Nat.ne_of_gt (Nat.lt_of_lt_of_le hO.lt h0.size)
        have nhA : V0.heap.size ≠ w.heap.size := Nat.ne_of_gt (Nat.lt_of_lt_of_le hA.lt h0.size)
        have nhB : V0.heap.size ≠ bb := Nat.ne_of_gt (Nat.lt_of_lt_of_le hB.lt h0.size)
        have nhP : V0.heap.size ≠ bp := Nat.ne_of_gt (Nat.lt_of_lt_of_le hP.lt h0.size)
        have nhR : V0.heap.size ≠ br := Nat.ne_of_gt (Nat.lt_of_lt_of_le hR.lt h0.size)
        have gn : w.heap.size ≤ V0.heap.size := Nat.le_trans B.size h0.size
        have B1 := below_put9 (x' := xg) (y' := yg) (j := ig) (B.trans (hb.mono B.size)) gn
        replace B := B1.trans (h2.mono B1.size)
        replace hD := ((hD.keep hb).put9 nhD).keep h2
        replace hO := ((hO.keep hb).put9 nhO).keep h2
        replace hA := ((hA.keep hb).put9 nhA).keep h2
        replace hB := ((hB.keep hb).put9 nhB).keep h2
        replace hP := ((hP.keep hb).put9 nhP).keep h2
        replace hR := ((hR.keep hb).put9 nhR).keep h2
        clear hb h0 h1 h2 B1 W gn nhD nhO nhA nhB nhP nhR
        generalize V0.heap.size = bg at *
        clear V V0
        have ghA := hA.cells
        have ghB := hB.cells
        have ghP := hP.cells
        simp only [List.drop_succ_cons, List.drop_zero, Act.put, List.setIfInBounds_toArray, List.set_cons_zero, List.set_cons_succ]
        go_wp2_with fail
        refine calls_world (fun W => Below w.heap.size w W ∧ Mds W ∧ Cols W ∧ Nm W w.heap.size a ∧ Nm W bb b ∧ Pnt W bp x y i ∧ Pnt W br xr yr ir ∧ Pnt W bg xg yg ig) ⟨B, hD, hO, hA, hB, hP, hR, hN⟩ ?_
        clear B hN hD hO hA hB hP hR ghA ghB ghP
        rintro W ⟨B, hD, hO, hA, hB, hP, hR, hG⟩
        clear w1
        with_reducible refine (MA.out _ hD hO).mono ?_
        rintro e w61 ⟨rfl, hb⟩
        replace B := B.trans (hb.mono B.size)
        replace hD := hD.keep hb; replace hO := hO.keep hb; replace hA := hA.keep hb; replace hB := hB.keep hb; replace hP := hP.keep hb; replace hR := hR.keep hb; replace hG := hG.keep hb
        clear hb W
        have ghG := fun o => (hG.alloc o).cells
        have ghR := fun o => (hR.alloc o).cells
        go_wp2_with fail
        refine calls_world (fun W => Below w.heap.size w W ∧ Mds W ∧ Cols W ∧ Nm W w.heap.size a ∧ Nm W bb b ∧ Pnt W bp x y i ∧ Pnt W br xr yr ir ∧ Pnt W bg xg yg ig ∧ Pnt W w61.heap.size xm ym im) ⟨B.alloc B.size _, hD.alloc _, hO.alloc _, hA.alloc _, hB.alloc _, hP.alloc _, hR.alloc _, hG.alloc _, Pnt.new rfl⟩ ?_
        clear B hD hO hA hB hP hR hG ghG ghR
        rintro W ⟨B, hD, hO, hA, hB, hP, hR, hG, hM⟩
        generalize w61.heap.size = bm at *
        with_reducible refine (L2.out _ hD).mono ?_
        rintro e w62 ⟨rfl, hb⟩
        replace B := B.trans (hb.mono B.size)
        replace hD := hD.keep hb; replace hO := hO.keep hb; replace hA := hA.keep hb; replace hB := hB.keep hb; replace hP := hP.keep hb; replace hR := hR.keep hb; replace hG := hG.keep hb; replace hM := hM.keep hb
        clear hb W
        go_wp2_with fail
        refine wp_world (fun W => Below w.heap.size w W ∧ Mds W ∧ Cols W ∧ Nm W w.heap.size a ∧ Nm W bb b ∧ Pnt W bp x y i ∧ Pnt W br xr yr ir ∧ Pnt W bg xg yg ig ∧ Pnt W bm xm ym im ∧ Pnt W w62.heap.size xm ym im) ⟨B.alloc B.size _, hD.alloc _, hO.alloc _, hA.alloc _, hB.alloc _, hP.alloc _, hR.alloc _, hG.alloc _, hM.alloc _, Pnt.new rfl⟩ ?_
        clear B hD hO hA hB hP hR hG hM 
        rintro W ⟨B, hD, hO, hA, hB, hP, hR, hG, hM, hX⟩
        generalize w62.heap.size = bx at *
        have ghG := hG.grown
        have ghA := hA.grown
        have ghM := hM.grown
        have ghX := hX.grown
        have hDg : ∀ d os, Mds (grow (redrawn W d) os) := fun d os => hD.keep (below_regrown W d os)
        have hOg : ∀ d os, Cols (grow (redrawn W d) os) := fun d os => hO.keep (below_regrown W d os)
        refine wp_region_quiet_below (by kernel_rfl) (by kernel_rfl) ?_
        repeat
          first
            | go_big_quiet_skip
            | (go_big_quiet_want; go_big_quiet_op; go_big_quiet_on)
            | (go_big_quiet_want
               go_big_quiet_op
               apply Exists.intro
               refine ⟨fun p => ?_, ?_⟩
               · (first | (go_at_call 16; with_reducible exact Calls.regrown_of (CN.out _)) | (go_at_call 35; with_reducible exact Calls.regrown_of (MG.out _ (hDg p.d p.os) (hOg p.d p.os))))
               go_big_quiet_on)
        refine wpQuiet_nil ?_
        rintro w63 ⟨p, rfl⟩
        have hb := below_regrown W p.d p.os
        generalize grow (redrawn W p.d) p.os = w63 at *
        replace B := B.trans (hb.mono B.size)
        replace hD := hD.keep hb; replace hO := hO.keep hb; replace hA := hA.keep hb; replace hB := hB.keep hb; replace hP := hP.keep hb; replace hR := hR.keep hb; replace hG := hG.keep hb; replace hM := hM.keep hb; replace hX := hX.keep hb
        clear hb W ghG ghA ghM ghX hDg hOg
        go_wp2
        simp [bodyPost, results, Tryd.results8, go_sem]
        exact B

theorem addMod_n {a b : Int} (ha : Num a) (hb : Num b) : Num ((a + b) % nN) ∧ Hid (∀ w, Calls Tryd.prog 32 #[.agg #[.int .u64 (l0 a), .int .u64 (l1 a), .int .u64 (l2 a), .int .u64 (l3 a)], .agg #[.int .u64 (l0 b), .int .u64 (l1 b), .int .u64 (l2 b), .int .u64 (l3 b)], .agg #[.int .u64 (l0 nN), .int .u64 (l1 nN), .int .u64 (l2 nN), .int .u64 (l3 nN)]] w fun e w' => e = .returned (.tuple #[.agg #[.int .u64 (l0 ((a + b) % nN)), .int .u64 (l1 ((a + b) % nN)), .int .u64 (l2 ((a + b) % nN)), .int .u64 (l3 ((a + b) % nN))], .int .i64 0]) ∧ Below w.heap.size w w') := by
  have nz : nN ≠ 0 := by decide
  have nn : Num nN := ⟨by decide, by decide⟩
  have e : (sumN a b + carN a b * 115792089237316195423570985008687907853269984665640564039457584007913129639936) % nN = (a + b) % nN := by
    congr 1
    unfold sumN carN
    omega
  refine ⟨?_, fun w => addMod_walk ha hb (fun w => ?_) w⟩
  · have h1 := Int.emod_nonneg (a + b) nz
    have h2 := Int.emod_lt_of_pos (a + b) (show (0 : Int) < nN by decide)
    have h3 : nN < 115792089237316195423570985008687907853269984665640564039457584007913129639936 := by decide
    exact ⟨h1, by omega⟩
  · have := reduce_any (h := carN a b) (by obtain ⟨a, b⟩ := carN_word ha hb; exact ⟨a, by omega⟩) (sumN_Num a b) nn nz w
    rw [e] at this
    exact this
theorem smul_mod {p : EC.Pt} (hp : EC.On p) (k : Nat) : EC.smul (k % 115792089237316195423570985008687907852837564279074904382605163141518161494337) p = EC.smul k p := by
  have e := Nat.div_add_mod k 115792089237316195423570985008687907852837564279074904382605163141518161494337
  conv => rhs; rw [← e]
  rw [EC.smul_add hp, EC.smul_mul hp, EC.ord_all hp, EC.smul_o]
  rfl
theorem corder_any {a b x y : Int} {i : Bool} (ha : Num a) (hb : Num b) (hx : Num x) (hy : Num y) (w : World) (hm : Mds w) (hc : Cols w) :
    Calls Tryd.prog 8 #[.agg #[.int .u64 (l0 a), .int .u64 (l1 a), .int .u64 (l2 a), .int .u64 (l3 a)], .agg #[.int .u64 (l0 b), .int .u64 (l1 b), .int .u64 (l2 b), .int .u64 (l3 b)], .agg #[.int .u64 (l0 x), .int .u64 (l1 x), .int .u64 (l2 x), .int .u64 (l3 x), .int .u64 (l0 y), .int .u64 (l1 y), .int .u64 (l2 y), .int .u64 (l3 y), .bool i]] w fun e w' => e = .returned (.bool true) ∧ Below w.heap.size w w' := by
  have CB : Hid (∀ w, Mds w → Cols w → Calls Tryd.prog 9 #[] w fun e w' => e = .returned (.bool true) ∧ Below w.heap.size w w') := fun w hm hc => lbase_any w hm hc.gat
  by_cases hp : Vd x y i
  · obtain ⟨xq, yq, iq, hq, eq⟩ := rep_pt (EC.smul_on hp.on a.toNat)
    obtain ⟨xr, yr, ir, hr, er⟩ := rep_pt (EC.smul_on hp.on b.toNat)
    obtain ⟨xs, ys, is, hs, es⟩ := rep_pt (EC.smul_on hp.on ((a + b) % nN).toNat)
    obtain ⟨xg, yg, ig, hg, eg⟩ := rep_pt (EC.smul_on EC.gJ_on a.toNat)
    obtain ⟨xm, ym, im, hmm, em⟩ := rep_pt (EC.Pt.on (EC.smul_on EC.gJ_on a.toNat) (EC.smul_on hp.on b.toNat))
    have ho : Vd 0 0 true := ⟨rfl, rfl⟩
    have nn : Num nN := ⟨by decide, by decide⟩
    obtain ⟨nk, AM⟩ := addMod_n ha hb
    have e0 : ptOf 0 0 true = EC.smul nN.toNat (ptOf x y i) := (EC.ord_all hp.on).symm
    have e1 : ptOf xs ys is = (ptOf xq yq iq).add (ptOf xr yr ir) := by
      rw [es, eq, er, ← EC.smul_add hp.on, ← smul_mod hp.on (a.toNat + b.toNat)]
      congr 1
      have h1 := ha.1; have h2 := hb.1
      obtain ⟨u, rfl⟩ := Int.eq_ofNat_of_zero_le h1
      obtain ⟨v, rfl⟩ := Int.eq_ofNat_of_zero_le h2
      rw [EC.nN_is, ← Int.natCast_add, ← Int.natCast_emod]
      rfl
    have e2 : ptOf xg yg ig = EC.smul a.toNat (ptOf gX gY false) := by rw [eg, g_pt]
    have e3 : ptOf xm ym im = (ptOf xg yg ig).add (ptOf xr yr ir) := by rw [em, eg, er]
    exact corder_walk CB (con_yes hp) (fun w => lorder_any w) (fun w hm hc => cmul_any nn hp ho e0 w hm hc) (fun w hm hc => cmul_any ha hp hq eq w hm hc) (fun w hm hc => cmul_any hb hp hr er w hm hc) AM (fun w hm hc => cmul_any nk hp hs es w hm hc)
      (fun w hm => lplus_any hq hr hs e1 w hm) (fun w => lwnum_any 0 w) (fun w => lzero_any w) (fun w hc => cg_any w hc.gat) (fun w hm hc => cmul_any ha g_valid hg e2 w hm hc) (fun w hm hc => cmuladd_any ha hb hp hmm em w hm hc) (fun w hm => lplus_any hg hr hmm e3 w hm)
      (fun w hm hc => cmulg_any ha hg eg w hm hc) (eq_pt_self ho) (eq_pt_self hs) (eq_pt_self hg) (eq_pt_self hmm) w hm hc
  · exact corder_bad CB (con_no hx hy hp) w hm hc
end Go.Proofs.YtjppjieidjodfaaDoor
