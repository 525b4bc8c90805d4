import Derived.Test.YtohdeeidhgkgiaaDoorCOps
import Derived.Test.YtohdeeidhgkgiaaDoorQAlloc
namespace Go.Proofs.YtohdeeidhgkgiaaDoor
open Go.RowKit Go.Sort

theorem lwnum_any (v : Int) (w : World) : Calls Tryd.prog 8 #[.int .i64 v] w fun e w' => e = .returned (.int .i64 v) ∧ Below w.heap.size w w' := by
  go_enter Tryd.func8, Tryd.ntmps8
  go_wp2
  simp [bodyPost, results, Tryd.results8, go_sem]
  exact Below.refl _ _
theorem lzero_any (w : World) : Calls Tryd.prog 14 #[] w fun e w' => e = .returned (.agg #[.int .u64 (l0 0), .int .u64 (l1 0), .int .u64 (l2 0), .int .u64 (l3 0), .int .u64 (l0 0), .int .u64 (l1 0), .int .u64 (l2 0), .int .u64 (l3 0), .bool true]) ∧ Below w.heap.size w w' := by
  obtain ⟨z0, z1, z2, z3⟩ := zero_limbs
  rw [z0, z1, z2, z3]
  go_enter Tryd.func14, Tryd.ntmps14
  go_wp2
  simp [bodyPost, results, Tryd.results14, go_sem]
  repeat (first | with_reducible refine Below.setCell ?_ (by omega) _ | (first | with_reducible exact Below.refl _ _ | with_reducible refine Below.alloc ?_ (by first | omega | (simp; done) | (simp; omega)) _))

def dX : Int := 89565891926547004231252920425935692360644145829622209833684329913297188986597
def dY : Int := 12158399299693830322967808612713398636155367887041628176798871954788371653930
theorem g_pt : EC.gJ.pt = ptOf gX gY false := by
  rw [EC.gJ_pt]; show EC.Pt.a _ _ = EC.Pt.a (EC.fp gX) (EC.fp gY)
  rw [show EC.gJ.x = EC.fp gX by decide +kernel, show EC.gJ.y = EC.fp gY by decide +kernel]
theorem d_pt : ptOf dX dY false = (ptOf gX gY false).add (ptOf gX gY false) := by
  rw [← g_pt, ← EC.jd_pt EC.gJ_on]
  exact (EC.pt_of (u := EC.fp dX) (v := EC.fp dY) (by decide +kernel) (by decide +kernel) (by decide +kernel)).symm
theorem d_valid : Vd dX dY false := ⟨⟨by decide, by decide⟩, ⟨by decide, by decide⟩, by rw [d_pt]; exact EC.Pt.on g_valid.on g_valid.on⟩
theorem d_limbs : l0 dX = 12370272968204394213 ∧ l1 dX = 6662950628856118439 ∧ l2 dX = 3478257130916576472 ∧ l3 dX = 14268669794154544493 := by decide
theorem none_not : ¬ Vd 0 0 false := fun h => absurd h.2.2 (by show ¬ EC.fp 0 * EC.fp 0 = EC.fp 0 * EC.fp 0 * EC.fp 0 + 7; decide +kernel)

set_option maxRecDepth 100000 in
set_option maxHeartbeats 8000000 in
theorem lbase_any (w : World) (hm : Mds w) (hg : Gat w) :
    Calls Tryd.prog 4 #[] w fun e w' => e = .returned (.bool true) ∧ Below w.heap.size w w' := by
  have C1 : Hid (∀ w, Gat w → Calls Tryd.prog 12 #[] w fun e w' => e = .returned (.agg #[.int .u64 (l0 gX), .int .u64 (l1 gX), .int .u64 (l2 gX), .int .u64 (l3 gX), .int .u64 (l0 gY), .int .u64 (l1 gY), .int .u64 (l2 gY), .int .u64 (l3 gY), .bool false]) ∧ Below w.heap.size w w') := fun w h => cg_any w h
  have C2 : Hid (∀ w, Mds w → Calls Tryd.prog 13 #[.agg #[.int .u64 (l0 gX), .int .u64 (l1 gX), .int .u64 (l2 gX), .int .u64 (l3 gX), .int .u64 (l0 gY), .int .u64 (l1 gY), .int .u64 (l2 gY), .int .u64 (l3 gY), .bool false]] w fun e w' => e = .returned (.tuple #[.agg #[.int .u64 (l0 dX), .int .u64 (l1 dX), .int .u64 (l2 dX), .int .u64 (l3 dX), .int .u64 (l0 dY), .int .u64 (l1 dY), .int .u64 (l2 dY), .int .u64 (l3 dY), .bool false], .int .i64 0]) ∧ Below w.heap.size w w') := fun w hm => cdouble_any g_valid d_valid d_pt w hm
  have C3 : Hid (∀ w, Mds w → Calls Tryd.prog 5 #[.agg #[.int .u64 (l0 gX), .int .u64 (l1 gX), .int .u64 (l2 gX), .int .u64 (l3 gX), .int .u64 (l0 gY), .int .u64 (l1 gY), .int .u64 (l2 gY), .int .u64 (l3 gY), .bool false]] w fun e w' => e = .returned (.bool true) ∧ Below w.heap.size w w') := con_yes g_valid
  have C4 : Hid (∀ w, Mds w → Calls Tryd.prog 5 #[.agg #[.int .u64 (l0 dX), .int .u64 (l1 dX), .int .u64 (l2 dX), .int .u64 (l3 dX), .int .u64 (l0 dY), .int .u64 (l1 dY), .int .u64 (l2 dY), .int .u64 (l3 dY), .bool false]] w fun e w' => e = .returned (.bool true) ∧ Below w.heap.size w w') := con_yes d_valid
  have C5 : Hid (∀ w, Mds w → Calls Tryd.prog 5 #[.agg #[.int .u64 0, .int .u64 0, .int .u64 0, .int .u64 0, .int .u64 0, .int .u64 0, .int .u64 0, .int .u64 0, .bool false]] w fun e w' => e = .returned (.bool false) ∧ Below w.heap.size w w') := fun w hm => by
    have := con_any (x := 0) (y := 0) (i := false) ⟨by decide, by decide⟩ ⟨by decide, by decide⟩ w hm
    obtain ⟨z0, z1, z2, z3⟩ := zero_limbs
    rw [z0, z1, z2, z3, decide_eq_false none_not] at this
    exact this
  have C6 : Hid (∀ w, Mds w → Calls Tryd.prog 5 #[.agg #[.int .u64 (l0 0), .int .u64 (l1 0), .int .u64 (l2 0), .int .u64 (l3 0), .int .u64 (l0 0), .int .u64 (l1 0), .int .u64 (l2 0), .int .u64 (l3 0), .bool true]] w fun e w' => e = .returned (.bool true) ∧ Below w.heap.size w w') := con_yes ⟨rfl, rfl⟩
  have e1 : ∀ w, (Op.equalIn 10000 24 (.agg #[.int .u64 (l0 dX), .int .u64 (l1 dX), .int .u64 (l2 dX), .int .u64 (l3 dX)]) (.agg #[.int .u64 (l0 dX), .int .u64 (l1 dX), .int .u64 (l2 dX), .int .u64 (l3 dX)])).run Tryd.prog w = .ok true w := fun w => eq_yes w
  have e2 : ∀ w, (Op.equalIn 10000 26 (.agg #[.int .u64 (l0 dX), .int .u64 (l1 dX), .int .u64 (l2 dX), .int .u64 (l3 dX), .int .u64 (l0 dY), .int .u64 (l1 dY), .int .u64 (l2 dY), .int .u64 (l3 dY), .bool false]) (.agg #[.int .u64 (l0 gX), .int .u64 (l1 gX), .int .u64 (l2 gX), .int .u64 (l3 gX), .int .u64 (l0 gY), .int .u64 (l1 gY), .int .u64 (l2 gY), .int .u64 (l3 gY), .bool false])).run Tryd.prog w = .ok false w := fun w => by
    rw [eq_pt_any d_valid.low.1.num d_valid.low.2.num g_valid.low.1.num g_valid.low.2.num]
    rw [decide_eq_false (show ¬ dX = gX by decide)]; rfl
  obtain ⟨r0, r1, r2, r3⟩ := d_limbs
  have hold : ∀ (W : World) (t : TypeId), Hold (W.alloc (.cells #[.int .u64 12370272968204394213, .int .u64 6662950628856118439, .int .u64 3478257130916576472, .int .u64 14268669794154544493] t)) W.heap.size dX := fun W t => by
    rw [← r0, ← r1, ← r2, ← r3]; exact Hold.new _ _ _
  clear r0 r1 r2 r3
  generalize dX = dX at *; generalize dY = dY at *; generalize gX = gX at *; generalize gY = gY at *
  go_enter Tryd.func4, Tryd.ntmps4
  go_wp2_with fail
  refine calls_world (fun W => Below w.heap.size w W ∧ Mds W ∧ Gat W ∧ Hold W w.heap.size dX) ⟨by repeat (first | with_reducible exact Below.refl _ _ | with_reducible refine Below.alloc ?_ (by first | omega | (simp; done) | (simp; omega)) _), hm.alloc _, hg.alloc _, hold _ _⟩ ?_
  rintro W ⟨B, hD, hG, hX⟩
  with_reducible refine (C1.out _ hG).mono ?_
  rintro e w1 ⟨rfl, hb⟩
  replace B := B.trans (hb.mono B.size)
  replace hD := hD.keep hb; replace hX := hX.keep hb
  clear hb hG W
  go_wp2_with fail
  refine calls_world (fun W => Below w.heap.size w W ∧ Mds W ∧ Hold W w.heap.size dX ∧ Pnt W w1.heap.size gX gY false) ⟨B.alloc B.size _, hD.alloc _, hX.alloc _, Pnt.new rfl⟩ ?_
  clear B hD hX 
  rintro W ⟨B, hD, hX, hA⟩
  generalize w1.heap.size = ba at *
  with_reducible refine (C2.out _ hD).mono ?_
  rintro e w2 ⟨rfl, hb⟩
  replace B := B.trans (hb.mono B.size)
  replace hD := hD.keep hb; replace hX := hX.keep hb; replace hA := hA.keep hb
  clear hb W
  have ghA := fun o => (hA.alloc o).cells
  go_wp2_with fail
  refine calls_world (fun W => Below w.heap.size w W ∧ Mds W ∧ Hold W w.heap.size dX ∧ Pnt W ba gX gY false ∧ Pnt W w2.heap.size dX dY false) ⟨B.alloc B.size _, hD.alloc _, hX.alloc _, hA.alloc _, Pnt.new rfl⟩ ?_
  clear B hD hX hA ghA
  rintro W ⟨B, hD, hX, hA, hE⟩
  generalize w2.heap.size = be at *
  with_reducible refine (C3.out _ hD).mono ?_
  rintro e w3 ⟨rfl, hb⟩
  replace B := B.trans (hb.mono B.size)
  replace hD := hD.keep hb; replace hX := hX.keep hb; replace hA := hA.keep hb; replace hE := hE.keep hb
  clear hb W
  have ghE := hE.cells
  go_wp2_with fail
  refine calls_world (fun W => Below w.heap.size w W ∧ Mds W ∧ Hold W w.heap.size dX ∧ Pnt W ba gX gY false ∧ Pnt W be dX dY false) ⟨B, hD, hX, hA, hE⟩ ?_
  clear B hD hX hA hE ghE
  rintro W ⟨B, hD, hX, hA, hE⟩
  with_reducible refine (C4.out _ hD).mono ?_
  rintro e w4 ⟨rfl, hb⟩
  replace B := B.trans (hb.mono B.size)
  replace hD := hD.keep hb; replace hX := hX.keep hb; replace hA := hA.keep hb; replace hE := hE.keep hb
  clear hb W
  go_wp2_with fail
  refine calls_world (fun W => Below w.heap.size w W ∧ Mds W ∧ Hold W w.heap.size dX ∧ Pnt W ba gX gY false ∧ Pnt W be dX dY false) ⟨B, hD, hX, hA, hE⟩ ?_
  clear B hD hX hA hE 
  rintro W ⟨B, hD, hX, hA, hE⟩
  with_reducible refine (lwnum_any _ _).mono ?_
  rintro e w5 ⟨rfl, hb⟩
  replace B := B.trans (hb.mono B.size)
  replace hD := hD.keep hb; replace hX := hX.keep hb; replace hA := hA.keep hb; replace hE := hE.keep hb
  clear hb W
  have ghE := hE.cells
  have ghX := hX.cells
  have ghA := hA.cells
  go_wp2_with fail
  refine calls_world (fun W => Below w.heap.size w W ∧ Mds W ∧ Hold W w.heap.size dX ∧ Pnt W ba gX gY false ∧ Pnt W be dX dY false) ⟨B, hD, hX, hA, hE⟩ ?_
  clear B hD hX hA hE ghE ghX ghA
  rintro W ⟨B, hD, hX, hA, hE⟩
  with_reducible refine (C5.out _ hD).mono ?_
  rintro e w6 ⟨rfl, hb⟩
  replace B := B.trans (hb.mono B.size)
  replace hD := hD.keep hb; replace hX := hX.keep hb; replace hA := hA.keep hb; replace hE := hE.keep hb
  clear hb W
  go_wp2_with fail
  refine calls_world (fun W => Below w.heap.size w W ∧ Mds W ∧ Hold W w.heap.size dX ∧ Pnt W ba gX gY false ∧ Pnt W be dX dY false) ⟨B, hD, hX, hA, hE⟩ ?_
  clear B hD hX hA hE 
  rintro W ⟨B, hD, hX, hA, hE⟩
  with_reducible refine (lzero_any _).mono ?_
  rintro e w7 ⟨rfl, hb⟩
  replace B := B.trans (hb.mono B.size)
  replace hD := hD.keep hb; replace hX := hX.keep hb; replace hA := hA.keep hb; replace hE := hE.keep hb
  clear hb W
  go_wp2_with fail
  refine calls_world (fun W => Below w.heap.size w W ∧ Mds W ∧ Hold W w.heap.size dX ∧ Pnt W ba gX gY false ∧ Pnt W be dX dY false) ⟨B, hD, hX, hA, hE⟩ ?_
  clear B hD hX hA hE 
  rintro W ⟨B, hD, hX, hA, hE⟩
  with_reducible refine (C6.out _ hD).mono ?_
  rintro e w9 ⟨rfl, hb⟩
  replace B := B.trans (hb.mono B.size)
  replace hD := hD.keep hb; replace hX := hX.keep hb; replace hA := hA.keep hb; replace hE := hE.keep hb
  clear hb W
  go_wp2
  simp [bodyPost, results, Tryd.results4, go_sem]
  exact B
end Go.Proofs.YtohdeeidhgkgiaaDoor

namespace Go.Proofs.YtohdeeidhgkgiaaDoor
open Go.RowKit Go.Sort

def put9 (W : World) (b : Nat) (x y : Int) (i : Bool) : World := (((((((((W.setCell ⟨b, 0, none⟩ (.int .u64 (l0 x))).setCell ⟨b, 1, none⟩ (.int .u64 (l1 x))).setCell ⟨b, 2, none⟩ (.int .u64 (l2 x))).setCell ⟨b, 3, none⟩ (.int .u64 (l3 x))).setCell ⟨b, 4, none⟩ (.int .u64 (l0 y))).setCell ⟨b, 5, none⟩ (.int .u64 (l1 y))).setCell ⟨b, 6, none⟩ (.int .u64 (l2 y))).setCell ⟨b, 7, none⟩ (.int .u64 (l3 y))).setCell ⟨b, 8, none⟩ (.bool i))
theorem Bk9.put9 {W : World} {b : Nat} (h : Bk9 W b) (x y : Int) (i : Bool) : Pnt (Go.Proofs.YtohdeeidhgkgiaaDoor.put9 W b x y i) b x y i := by
  obtain ⟨a0, a1, a2, a3, a4, a5, a6, a7, a8⟩ := h.cells
  intro k hk
  have hk' : k < 9 := by simpa using hk
  have hc : k = 0 ∨ k = 1 ∨ k = 2 ∨ k = 3 ∨ k = 4 ∨ k = 5 ∨ k = 6 ∨ k = 7 ∨ k = 8 := by omega
  unfold Go.Proofs.YtohdeeidhgkgiaaDoor.put9
  rcases hc with rfl | rfl | rfl | rfl | rfl | rfl | rfl | rfl | rfl <;> simp [go_sem, a0, a1, a2, a3, a4, a5, a6, a7, a8]
theorem Pnt.put9 {W : World} {b b' : Nat} {x y x' y' : Int} {i j : Bool} (h : Pnt W b x y i) (ne : b' ≠ b) : Pnt (Go.Proofs.YtohdeeidhgkgiaaDoor.put9 W b' x' y' j) b x y i := by
  unfold Go.Proofs.YtohdeeidhgkgiaaDoor.put9
  exact Cl.set (Cl.set (Cl.set (Cl.set (Cl.set (Cl.set (Cl.set (Cl.set (Cl.set (h) ne _) ne _) ne _) ne _) ne _) ne _) ne _) ne _) ne _
theorem Mds.put9 {W : World} {b' : Nat} {x' y' : Int} {j : Bool} (h : Mds W) (ne : b' ≠ 1) : Mds (Go.Proofs.YtohdeeidhgkgiaaDoor.put9 W b' x' y' j) := by
  unfold Go.Proofs.YtohdeeidhgkgiaaDoor.put9
  exact (((((((((h.set ne _).set ne _).set ne _).set ne _).set ne _).set ne _).set ne _).set ne _).set ne _)
end Go.Proofs.YtohdeeidhgkgiaaDoor
