import Derived.Test.YtjppjieidjodfaaDoorCOps
import Derived.Test.YtjppjieidjodfaaDoorQAlloc
namespace Go.Proofs.YtjppjieidjodfaaDoor
open Go.RowKit Go.Sort

theorem lwnum_any (v : Int) (w : World) : Calls Tryd.prog 16 #[.int .i64 v] w fun e w' => e = .returned (.int .i64 v) ∧ Below w.heap.size w w' := by
  go_enter Tryd.func16, Tryd.ntmps16
  go_wp2
  simp [bodyPost, results, Tryd.results16, go_sem]
  exact Below.refl _ _
theorem lzero_any (w : World) : Calls Tryd.prog 13 #[] w fun e w' => e = .returned (.agg #[.int .u64 (l0 0), .int .u64 (l1 0), .int .u64 (l2 0), .int .u64 (l3 0), .int .u64 (l0 0), .int .u64 (l1 0), .int .u64 (l2 0), .int .u64 (l3 0), .bool true]) ∧ Below w.heap.size w w' := by
  obtain ⟨z0, z1, z2, z3⟩ := zero_limbs
  rw [z0, z1, z2, z3]
  go_enter Tryd.func13, Tryd.ntmps13
  go_wp2
  simp [bodyPost, results, Tryd.results13, go_sem]
  repeat (first | with_reducible refine Below.setCell ?_ (by omega) _ | (first | with_reducible exact Below.refl _ _ | with_reducible refine Below.alloc ?_ (by first | omega | (simp; done) | (simp; omega)) _))

def dX : Int := 89565891926547004231252920425935692360644145829622209833684329913297188986597
def dY : Int := 12158399299693830322967808612713398636155367887041628176798871954788371653930
theorem g_pt : EC.gJ.pt = ptOf gX gY false := by
  rw [EC.gJ_pt]; show EC.Pt.a _ _ = EC.Pt.a (EC.fp gX) (EC.fp gY)
  rw [show EC.gJ.x = EC.fp gX by decide +kernel, show EC.gJ.y = EC.fp gY by decide +kernel]
theorem d_pt : ptOf dX dY false = (ptOf gX gY false).add (ptOf gX gY false) := by
  rw [← g_pt, ← EC.jd_pt EC.gJ_on]
  exact (EC.pt_of (u := EC.fp dX) (v := EC.fp dY) (by decide +kernel) (by decide +kernel) (by decide +kernel)).symm
theorem d_valid : Vd dX dY false := ⟨⟨by decide, by decide⟩, ⟨by decide, by decide⟩, by rw [d_pt]; exact EC.Pt.on g_valid.on g_valid.on⟩
theorem d_limbs : l0 dX = 12370272968204394213 ∧ l1 dX = 6662950628856118439 ∧ l2 dX = 3478257130916576472 ∧ l3 dX = 14268669794154544493 := by decide
theorem none_not : ¬ Vd 0 0 false := fun h => absurd h.2.2 (by show ¬ EC.fp 0 * EC.fp 0 = EC.fp 0 * EC.fp 0 * EC.fp 0 + 7; decide +kernel)

set_option maxRecDepth 100000 in
set_option maxHeartbeats 8000000 in
theorem lbase_any (w : World) (hm : Mds w) (hg : Gat w) :
    Calls Tryd.prog 9 #[] w fun e w' => e = .returned (.bool true) ∧ Below w.heap.size w w' := by
  have C1 : Hid (∀ w, Gat w → Calls Tryd.prog 33 #[] w fun e w' => e = .returned (.agg #[.int .u64 (l0 gX), .int .u64 (l1 gX), .int .u64 (l2 gX), .int .u64 (l3 gX), .int .u64 (l0 gY), .int .u64 (l1 gY), .int .u64 (l2 gY), .int .u64 (l3 gY), .bool false]) ∧ Below w.heap.size w w') := fun w h => cg_any w h
  have C2 : Hid (∀ w, Mds w → Calls Tryd.prog 15 #[.agg #[.int .u64 (l0 gX), .int .u64 (l1 gX), .int .u64 (l2 gX), .int .u64 (l3 gX), .int .u64 (l0 gY), .int .u64 (l1 gY), .int .u64 (l2 gY), .int .u64 (l3 gY), .bool false]] w fun e w' => e = .returned (.tuple #[.agg #[.int .u64 (l0 dX), .int .u64 (l1 dX), .int .u64 (l2 dX), .int .u64 (l3 dX), .int .u64 (l0 dY), .int .u64 (l1 dY), .int .u64 (l2 dY), .int .u64 (l3 dY), .bool false], .int .i64 0]) ∧ Below w.heap.size w w') := fun w hm => cdouble_any g_valid d_valid d_pt w hm
  have C3 : Hid (∀ w, Mds w → Calls Tryd.prog 10 #[.agg #[.int .u64 (l0 gX), .int .u64 (l1 gX), .int .u64 (l2 gX), .int .u64 (l3 gX), .int .u64 (l0 gY), .int .u64 (l1 gY), .int .u64 (l2 gY), .int .u64 (l3 gY), .bool false]] w fun e w' => e = .returned (.bool true) ∧ Below w.heap.size w w') := con_yes g_valid
  have C4 : Hid (∀ w, Mds w → Calls Tryd.prog 10 #[.agg #[.int .u64 (l0 dX), .int .u64 (l1 dX), .int .u64 (l2 dX), .int .u64 (l3 dX), .int .u64 (l0 dY), .int .u64 (l1 dY), .int .u64 (l2 dY), .int .u64 (l3 dY), .bool false]] w fun e w' => e = .returned (.bool true) ∧ Below w.heap.size w w') := con_yes d_valid
  have C5 : Hid (∀ w, Mds w → Calls Tryd.prog 10 #[.agg #[.int .u64 0, .int .u64 0, .int .u64 0, .int .u64 0, .int .u64 0, .int .u64 0, .int .u64 0, .int .u64 0, .bool false]] w fun e w' => e = .returned (.bool false) ∧ Below w.heap.size w w') := fun w hm => by
    have := con_any (x := 0) (y := 0) (i := false) ⟨by decide, by decide⟩ ⟨by decide, by decide⟩ w hm
    obtain ⟨z0, z1, z2, z3⟩ := zero_limbs
    rw [z0, z1, z2, z3, decide_eq_false none_not] at this
    exact this
  have C6 : Hid (∀ w, Mds w → Calls Tryd.prog 10 #[.agg #[.int .u64 (l0 0), .int .u64 (l1 0), .int .u64 (l2 0), .int .u64 (l3 0), .int .u64 (l0 0), .int .u64 (l1 0), .int .u64 (l2 0), .int .u64 (l3 0), .bool true]] w fun e w' => e = .returned (.bool true) ∧ Below w.heap.size w w') := con_yes ⟨rfl, rfl⟩
  have e1 : ∀ w, (Op.equalIn 10000 24 (.agg #[.int .u64 (l0 dX), .int .u64 (l1 dX), .int .u64 (l2 dX), .int .u64 (l3 dX)]) (.agg #[.int .u64 (l0 dX), .int .u64 (l1 dX), .int .u64 (l2 dX), .int .u64 (l3 dX)])).run Tryd.prog w = .ok true w := fun w => eq_yes w
  have e2 : ∀ w, (Op.equalIn 10000 26 (.agg #[.int .u64 (l0 dX), .int .u64 (l1 dX), .int .u64 (l2 dX), .int .u64 (l3 dX), .int .u64 (l0 dY), .int .u64 (l1 dY), .int .u64 (l2 dY), .int .u64 (l3 dY), .bool false]) (.agg #[.int .u64 (l0 gX), .int .u64 (l1 gX), .int .u64 (l2 gX), .int .u64 (l3 gX), .int .u64 (l0 gY), .int .u64 (l1 gY), .int .u64 (l2 gY), .int .u64 (l3 gY), .bool false])).run Tryd.prog w = .ok false w := fun w => by
    rw [eq_pt_any d_valid.low.1.num d_valid.low.2.num g_valid.low.1.num g_valid.low.2.num]
    rw [decide_eq_false (show ¬ dX = gX by decide)]; rfl
  obtain ⟨r0, r1, r2, r3⟩ := d_limbs
  have hold : ∀ (W : World) (t : TypeId), Hold (W.alloc (.cells #[.int .u64 12370272968204394213, .int .u64 6662950628856118439, .int .u64 3478257130916576472, .int .u64 14268669794154544493] t)) W.heap.size dX := fun W t => by
    rw [← r0, ← r1, ← r2, ← r3]; exact Hold.new _ _ _
  clear r0 r1 r2 r3
  generalize dX = dX at *; generalize dY = dY at *; generalize gX = gX at *; generalize gY = gY at *
  go_enter Tryd.func9, Tryd.ntmps9
  go_wp2_with fail
  refine calls_world (fun W => Below w.heap.size w W ∧ Mds W ∧ Gat W ∧ Hold W w.heap.size dX) ⟨by repeat (first | with_reducible exact Below.refl _ _ | with_reducible refine Below.alloc ?_ (by first | omega | (simp; done) | (simp; omega)) _), hm.alloc _, hg.alloc _, hold _ _⟩ ?_
  rintro W ⟨B, hD, hG, hX⟩
  with_reducible refine (C1.out _ hG).mono ?_
  rintro e w1 ⟨rfl, hb⟩
  replace B := B.trans (hb.mono B.size)
  replace hD := hD.keep hb; replace hX := hX.keep hb
  clear hb hG W
  go_wp2_with fail
  refine calls_world (fun W => Below w.heap.size w W ∧ Mds W ∧ Hold W w.heap.size dX ∧ Pnt W w1.heap.size gX gY false) ⟨B.alloc B.size _, hD.alloc _, hX.alloc _, Pnt.new rfl⟩ ?_
  clear B hD hX 
  rintro W ⟨B, hD, hX, hA⟩
  generalize w1.heap.size = ba at *
  with_reducible refine (C2.out _ hD).mono ?_
  rintro e w2 ⟨rfl, hb⟩
  replace B := B.trans (hb.mono B.size)
  replace hD := hD.keep hb; replace hX := hX.keep hb; replace hA := hA.keep hb
  clear hb W
  have ghA := fun o => (hA.alloc o).cells
  go_wp2_with fail
  refine calls_world (fun W => Below w.heap.size w W ∧ Mds W ∧ Hold W w.heap.size dX ∧ Pnt W ba gX gY false ∧ Pnt W w2.heap.size dX dY false) ⟨B.alloc B.size _, hD.alloc _, hX.alloc _, hA.alloc _, Pnt.new rfl⟩ ?_
  clear B hD hX hA ghA
  rintro W ⟨B, hD, hX, hA, hE⟩
  generalize w2.heap.size = be at *
  with_reducible refine (C3.out _ hD).mono ?_
  rintro e w3 ⟨rfl, hb⟩
  replace B := B.trans (hb.mono B.size)
  replace hD := hD.keep hb; replace hX := hX.keep hb; replace hA := hA.keep hb; replace hE := hE.keep hb
  clear hb W
  have ghE := hE.cells
  go_wp2_with fail
  refine calls_world (fun W => Below w.heap.size w W ∧ Mds W ∧ Hold W w.heap.size dX ∧ Pnt W ba gX gY false ∧ Pnt W be dX dY false) ⟨B, hD, hX, hA, hE⟩ ?_
  clear B hD hX hA hE ghE
  rintro W ⟨B, hD, hX, hA, hE⟩
  with_reducible refine (C4.out _ hD).mono ?_
  rintro e w4 ⟨rfl, hb⟩
  replace B := B.trans (hb.mono B.size)
  replace hD := hD.keep hb; replace hX := hX.keep hb; replace hA := hA.keep hb; replace hE := hE.keep hb
  clear hb W
  go_wp2_with fail
  refine calls_world (fun W => Below w.heap.size w W ∧ Mds W ∧ Hold W w.heap.size dX ∧ Pnt W ba gX gY false ∧ Pnt W be dX dY false) ⟨B, hD, hX, hA, hE⟩ ?_
  clear B hD hX hA hE 
  rintro W ⟨B, hD, hX, hA, hE⟩
  with_reducible refine (lwnum_any _ _).mono ?_
  rintro e w5 ⟨rfl, hb⟩
  replace B := B.trans (hb.mono B.size)
  replace hD := hD.keep hb; replace hX := hX.keep hb; replace hA := hA.keep hb; replace hE := hE.keep hb
  clear hb W
  have ghE := hE.cells
  have ghX := hX.cells
  have ghA := hA.cells
  go_wp2_with fail
  refine calls_world (fun W => Below w.heap.size w W ∧ Mds W ∧ Hold W w.heap.size dX ∧ Pnt W ba gX gY false ∧ Pnt W be dX dY false) ⟨B, hD, hX, hA, hE⟩ ?_
  clear B hD hX hA hE ghE ghX ghA
  rintro W ⟨B, hD, hX, hA, hE⟩
  with_reducible refine (C5.out _ hD).mono ?_
  rintro e w6 ⟨rfl, hb⟩
  replace B := B.trans (hb.mono B.size)
  replace hD := hD.keep hb; replace hX := hX.keep hb; replace hA := hA.keep hb; replace hE := hE.keep hb
  clear hb W
  go_wp2_with fail
  refine calls_world (fun W => Below w.heap.size w W ∧ Mds W ∧ Hold W w.heap.size dX ∧ Pnt W ba gX gY false ∧ Pnt W be dX dY false) ⟨B, hD, hX, hA, hE⟩ ?_
  clear B hD hX hA hE 
  rintro W ⟨B, hD, hX, hA, hE⟩
  with_reducible refine (lzero_any _).mono ?_
  rintro e w7 ⟨rfl, hb⟩
  replace B := B.trans (hb.mono B.size)
  replace hD := hD.keep hb; replace hX := hX.keep hb; replace hA := hA.keep hb; replace hE := hE.keep hb
  clear hb W
  go_wp2_with fail
  refine calls_world (fun W => Below w.heap.size w W ∧ Mds W ∧ Hold W w.heap.size dX ∧ Pnt W ba gX gY false ∧ Pnt W be dX dY false) ⟨B, hD, hX, hA, hE⟩ ?_
  clear B hD hX hA hE 
  rintro W ⟨B, hD, hX, hA, hE⟩
  with_reducible refine (C6.out _ hD).mono ?_
  rintro e w9 ⟨rfl, hb⟩
  replace B := B.trans (hb.mono B.size)
  replace hD := hD.keep hb; replace hX := hX.keep hb; replace hA := hA.keep hb; replace hE := hE.keep hb
  clear hb W
  go_wp2
  simp [bodyPost, results, Tryd.results9, go_sem]
  exact B
end Go.Proofs.YtjppjieidjodfaaDoor

namespace Go.Proofs.YtjppjieidjodfaaDoor
open Go.RowKit Go.Sort

def put9 (W : World) (b : Nat) (x y : Int) (i : Bool) : World := (((((((((W.setCell ⟨b, 0, none⟩ (.int .u64 (l0 x))).setCell ⟨b, 1, none⟩ (.int .u64 (l1 x))).setCell ⟨b, 2, none⟩ (.int .u64 (l2 x))).setCell ⟨b, 3, none⟩ (.int .u64 (l3 x))).setCell ⟨b, 4, none⟩ (.int .u64 (l0 y))).setCell ⟨b, 5, none⟩ (.int .u64 (l1 y))).setCell ⟨b, 6, none⟩ (.int .u64 (l2 y))).setCell ⟨b, 7, none⟩ (.int .u64 (l3 y))).setCell ⟨b, 8, none⟩ (.bool i))
theorem Bk9.put9 {W : World} {b : Nat} (h : Bk9 W b) (x y : Int) (i : Bool) : Pnt (Go.Proofs.YtjppjieidjodfaaDoor.put9 W b x y i) b x y i := by
  obtain ⟨a0, a1, a2, a3, a4, a5, a6, a7, a8⟩ := h.cells
  intro k hk
  have hk' : k < 9 := by simpa using hk
  have hc : k = 0 ∨ k = 1 ∨ k = 2 ∨ k = 3 ∨ k = 4 ∨ k = 5 ∨ k = 6 ∨ k = 7 ∨ k = 8 := by omega
  unfold Go.Proofs.YtjppjieidjodfaaDoor.put9
  rcases hc with rfl | rfl | rfl | rfl | rfl | rfl | rfl | rfl | rfl <;> simp [go_sem, a0, a1, a2, a3, a4, a5, a6, a7, a8]
theorem Pnt.put9 {W : World} {b b' : Nat} {x y x' y' : Int} {i j : Bool} (h : Pnt W b x y i) (ne : b' ≠ b) : Pnt (Go.Proofs.YtjppjieidjodfaaDoor.put9 W b' x' y' j) b x y i := by
  unfold Go.Proofs.YtjppjieidjodfaaDoor.put9
  exact Cl.set (Cl.set (Cl.set (Cl.set (Cl.set (Cl.set (Cl.set (Cl.set (Cl.set (h) ne _) ne _) ne _) ne _) ne _) ne _) ne _) ne _) ne _
theorem Mds.put9 {W : World} {b' : Nat} {x' y' : Int} {j : Bool} (h : Mds W) (ne : b' ≠ 1) : Mds (Go.Proofs.YtjppjieidjodfaaDoor.put9 W b' x' y' j) := by
  unfold Go.Proofs.YtjppjieidjodfaaDoor.put9
  exact (((((((((h.set ne _).set ne _).set ne _).set ne _).set ne _).set ne _).set ne _).set ne _).set ne _)
theorem below_put9 {W w : World} {n b : Nat} {x' y' : Int} {j : Bool} (h : Below n w W) (hb : n ≤ b) : Below n w (put9 W b x' y' j) := by
  unfold put9
  exact (((((((((h.setCell hb _).setCell hb _).setCell hb _).setCell hb _).setCell hb _).setCell hb _).setCell hb _).setCell hb _).setCell hb _)

set_option maxRecDepth 100000 in
set_option maxHeartbeats 8000000 in
theorem lplus_walk {x y x2 y2 x' y' : Int} {i i2 j : Bool} (C1 : Hid (∀ w, Mds w → Calls Tryd.prog 39 #[.agg #[.int .u64 (l0 x), .int .u64 (l1 x), .int .u64 (l2 x), .int .u64 (l3 x), .int .u64 (l0 y), .int .u64 (l1 y), .int .u64 (l2 y), .int .u64 (l3 y), .bool i], .agg #[.int .u64 (l0 x2), .int .u64 (l1 x2), .int .u64 (l2 x2), .int .u64 (l3 x2), .int .u64 (l0 y2), .int .u64 (l1 y2), .int .u64 (l2 y2), .int .u64 (l3 y2), .bool i2]] w fun e w' => e = .returned (.tuple #[.agg #[.int .u64 (l0 x'), .int .u64 (l1 x'), .int .u64 (l2 x'), .int .u64 (l3 x'), .int .u64 (l0 y'), .int .u64 (l1 y'), .int .u64 (l2 y'), .int .u64 (l3 y'), .bool j], .int .i64 0]) ∧ Below w.heap.size w w')) (C2 : Hid (∀ w, Mds w → Calls Tryd.prog 10 #[.agg #[.int .u64 (l0 x'), .int .u64 (l1 x'), .int .u64 (l2 x'), .int .u64 (l3 x'), .int .u64 (l0 y'), .int .u64 (l1 y'), .int .u64 (l2 y'), .int .u64 (l3 y'), .bool j]] w fun e w' => e = .returned (.bool true) ∧ Below w.heap.size w w')) (w : World) (hm : Mds w) :
    Calls Tryd.prog 11 #[.agg #[.int .u64 (l0 x), .int .u64 (l1 x), .int .u64 (l2 x), .int .u64 (l3 x), .int .u64 (l0 y), .int .u64 (l1 y), .int .u64 (l2 y), .int .u64 (l3 y), .bool i], .agg #[.int .u64 (l0 x2), .int .u64 (l1 x2), .int .u64 (l2 x2), .int .u64 (l3 x2), .int .u64 (l0 y2), .int .u64 (l1 y2), .int .u64 (l2 y2), .int .u64 (l3 y2), .bool i2]] w fun e w' => e = .returned (.tuple #[.agg #[.int .u64 (l0 x'), .int .u64 (l1 x'), .int .u64 (l2 x'), .int .u64 (l3 x'), .int .u64 (l0 y'), .int .u64 (l1 y'), .int .u64 (l2 y'), .int .u64 (l3 y'), .bool j], .bool true]) ∧ Below w.heap.size w w' := by
  go_enter Tryd.func11, Tryd.ntmps11
  go_wp2_with fail
  refine calls_world (fun W => Below w.heap.size w W ∧ Mds W ∧ Bk9 W (w.heap.size + 1 + 1)) ⟨by repeat (first | with_reducible exact Below.refl _ _ | with_reducible refine Below.alloc ?_ (by first | omega | (simp; done) | (simp; omega)) _), ((hm.alloc _).alloc _).alloc _, Bk9.new (by simp)⟩ ?_
  rintro W ⟨B, hD, hR⟩
  have o3 : w.heap.size ≤ w.heap.size + 1 + 1 := by omega
  generalize w.heap.size + 1 + 1 = br at *
  with_reducible refine (C1.out _ hD).mono ?_
  rintro e w1 ⟨rfl, hb⟩
  replace B := B.trans (hb.mono B.size)
  replace hD := hD.keep hb; replace hR := hR.keep hb
  clear hb W
  go_wp2_with fail
  have nbs : br ≠ w1.heap.size := by have := hR.lt; omega
  refine wp_world (fun W => Below w.heap.size w W ∧ Mds W ∧ Bk9 W br ∧ Pnt W w1.heap.size x' y' j) ⟨B.alloc B.size _, hD.alloc _, hR.alloc _, Pnt.new rfl⟩ ?_
  clear B hD hR 
  rintro W ⟨B, hD, hR, hS⟩
  generalize w1.heap.size = bs at *
  have nd : br ≠ 1 := by have := hm.lt; have := o3; omega
  refine late_tail (A := ?AA) 8 (fun V => Below W.heap.size W V) (fun V => ∃ V0, Below W.heap.size W V0 ∧ Below (put9 V0 br x' y' j).heap.size (put9 V0 br x' y' j) V) (by kernel_rfl) (by kernel_rfl) rfl ((Below.refl _ _).drew)
    (fun V V' h h' => h.trans (h'.mono h.size)) (fun V V' ⟨V0, h0, h⟩ h' => ⟨V0, h0, h.trans (h'.mono h.size)⟩) (fun V hV => ?HH) (fun V hV => ?EE) (fun w1 hP => ?TT)
  case HH =>
    have hSV : Pnt V bs x' y' j := by
      rcases hV with hV | ⟨V0, h0, h1⟩
      · exact hS.keep hV
      · exact ((hS.keep h0).put9 nbs).keep h1
    have hDV : Mds V := by
      rcases hV with hV | ⟨V0, h0, h1⟩
      · exact hD.keep hV
      · exact ((hD.keep h0).put9 nd).keep h1
    have gS := hSV.grown
    have hDg : ∀ d os, Mds (grow (redrawn V d) os) := fun d os => hDV.keep (below_regrown V d os)
    unfold Gr
    simp only [List.take_succ_cons, List.take_zero]
    repeat
      first
        | go_big_quiet_skip
        | (go_big_quiet_want; go_big_quiet_op; go_big_quiet_on)
        | (go_big_quiet_want
           go_big_quiet_op
           apply Exists.intro
           refine ⟨fun p => ?_, ?_⟩
           · (first | (go_at_call 16; with_reducible exact Calls.regrown_of (lwnum_any _ _)) | (go_at_call 10; with_reducible exact Calls.regrown_of (C2.out _ (hDg p.d p.os))))
           go_big_quiet_on)
    refine wpQuiet_nil ?_
    exact rfl
  case EE =>
    obtain ⟨c0, c1, c2, c3, c4, c5, c6, c7, c8⟩ := (hR.keep hV).cells
    obtain ⟨f0, f1, f2, f3, f4, f5, f6, f7, f8⟩ := (hR.keep hV).free
    refine ⟨put9 V br x' y' j, ?_, V, hV, Below.refl _ _⟩
    unfold put9
    simp [execOp, Act.eval, go_sem, c0, c1, c2, c3, c4, c5, c6, c7, c8, f0, f1, f2, f3, f4, f5, f6, f7, f8]
  case TT =>
    obtain ⟨V0, h0, h1⟩ := hP
    have gP := (((hR.keep h0).put9 x' y' j).keep h1).cells
    have B1 : Below w.heap.size w w1 := (below_put9 (B.trans (h0.mono B.size)) o3).trans (h1.mono (below_put9 (B.trans (h0.mono B.size)) o3).size)
    clear h0 h1 hD hR hS B
    simp only [List.drop_succ_cons, List.drop_zero]
    go_wp2
    simp [bodyPost, results, Tryd.results11, go_sem, gP]
    exact B1
theorem lplus_any {x y x2 y2 x' y' : Int} {i i2 j : Bool} (hp : Vd x y i) (hq : Vd x2 y2 i2) (hj : Vd x' y' j) (ej : ptOf x' y' j = (ptOf x y i).add (ptOf x2 y2 i2)) (w : World) (hm : Mds w) :
    Calls Tryd.prog 11 #[.agg #[.int .u64 (l0 x), .int .u64 (l1 x), .int .u64 (l2 x), .int .u64 (l3 x), .int .u64 (l0 y), .int .u64 (l1 y), .int .u64 (l2 y), .int .u64 (l3 y), .bool i], .agg #[.int .u64 (l0 x2), .int .u64 (l1 x2), .int .u64 (l2 x2), .int .u64 (l3 x2), .int .u64 (l0 y2), .int .u64 (l1 y2), .int .u64 (l2 y2), .int .u64 (l3 y2), .bool i2]] w fun e w' => e = .returned (.tuple #[.agg #[.int .u64 (l0 x'), .int .u64 (l1 x'), .int .u64 (l2 x'), .int .u64 (l3 x'), .int .u64 (l0 y'), .int .u64 (l1 y'), .int .u64 (l2 y'), .int .u64 (l3 y'), .bool j], .bool true]) ∧ Below w.heap.size w w' :=
  lplus_walk (fun w hm => cadd2_any hp hq hj ej w hm) (con_yes hj) w hm
end Go.Proofs.YtjppjieidjodfaaDoor
