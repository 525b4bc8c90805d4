import Derived.Test.YtjppjieidjodfaaDoorCLaw
import Derived.Test.YtjppjieidjodfaaDoorQAlloc
namespace Go.Proofs.YtjppjieidjodfaaDoor
open Go.RowKit Go.Sort

def put9 (W : World) (b : Nat) (x y : Int) (i : Bool) : World := (((((((((W.setCell ⟨b, 0, none⟩ (.int .u64 (l0 x))).setCell ⟨b, 1, none⟩ (.int .u64 (l1 x))).setCell ⟨b, 2, none⟩ (.int .u64 (l2 x))).setCell ⟨b, 3, none⟩ (.int .u64 (l3 x))).setCell ⟨b, 4, none⟩ (.int .u64 (l0 y))).setCell ⟨b, 5, none⟩ (.int .u64 (l1 y))).setCell ⟨b, 6, none⟩ (.int .u64 (l2 y))).setCell ⟨b, 7, none⟩ (.int .u64 (l3 y))).setCell ⟨b, 8, none⟩ (.bool i))
theorem Bk9.put9 {W : World} {b : Nat} (h : Bk9 W b) (x y : Int) (i : Bool) : Pnt (Go.Proofs.YtjppjieidjodfaaDoor.put9 W b x y i) b x y i := by
  obtain ⟨a0, a1, a2, a3, a4, a5, a6, a7, a8⟩ := h.cells
  intro k hk
  have hk' : k < 9 := by simpa using hk
  have hc : k = 0 ∨ k = 1 ∨ k = 2 ∨ k = 3 ∨ k = 4 ∨ k = 5 ∨ k = 6 ∨ k = 7 ∨ k = 8 := by omega
  unfold Go.Proofs.YtjppjieidjodfaaDoor.put9
  rcases hc with rfl | rfl | rfl | rfl | rfl | rfl | rfl | rfl | rfl <;> simp [go_sem, a0, a1, a2, a3, a4, a5, a6, a7, a8]
theorem Pnt.put9 {W : World} {b b' : Nat} {x y x' y' : Int} {i j : Bool} (h : Pnt W b x y i) (ne : b' ≠ b) : Pnt (Go.Proofs.YtjppjieidjodfaaDoor.put9 W b' x' y' j) b x y i := by
  unfold Go.Proofs.YtjppjieidjodfaaDoor.put9
  exact Cl.set (Cl.set (Cl.set (Cl.set (Cl.set (Cl.set (Cl.set (Cl.set (Cl.set (h) ne _) ne _) ne _) ne _) ne _) ne _) ne _) ne _) ne _
theorem Mds.put9 {W : World} {b' : Nat} {x' y' : Int} {j : Bool} (h : Mds W) (ne : b' ≠ 1) : Mds (Go.Proofs.YtjppjieidjodfaaDoor.put9 W b' x' y' j) := by
  unfold Go.Proofs.YtjppjieidjodfaaDoor.put9
  exact (((((((((h.set ne _).set ne _).set ne _).set ne _).set ne _).set ne _).set ne _).set ne _).set ne _)
theorem below_put9 {W w : World} {n b : Nat} {x' y' : Int} {j : Bool} (h : Below n w W) (hb : n ≤ b) : Below n w (put9 W b x' y' j) := by
  unfold put9
  exact (((((((((h.setCell hb _).setCell hb _).setCell hb _).setCell hb _).setCell hb _).setCell hb _).setCell hb _).setCell hb _).setCell hb _)

set_option maxRecDepth 100000 in
set_option maxHeartbeats 8000000 in
theorem lplus_walk {x y x2 y2 x' y' : Int} {i i2 j : Bool} (C1 : Hid (∀ w, Mds w → Calls Tryd.prog 39 #[.agg #[.int .u64 (l0 x), .int .u64 (l1 x), .int .u64 (l2 x), .int .u64 (l3 x), .int .u64 (l0 y), .int .u64 (l1 y), .int .u64 (l2 y), .int .u64 (l3 y), .bool i], .agg #[.int .u64 (l0 x2), .int .u64 (l1 x2), .int .u64 (l2 x2), .int .u64 (l3 x2), .int .u64 (l0 y2), .int .u64 (l1 y2), .int .u64 (l2 y2), .int .u64 (l3 y2), .bool i2]] w fun e w' => e = .returned (.tuple #[.agg #[.int .u64 (l0 x'), .int .u64 (l1 x'), .int .u64 (l2 x'), .int .u64 (l3 x'), .int .u64 (l0 y'), .int .u64 (l1 y'), .int .u64 (l2 y'), .int .u64 (l3 y'), .bool j], .int .i64 0]) ∧ Below w.heap.size w w')) (C2 : Hid (∀ w, Mds w → Calls Tryd.prog 10 #[.agg #[.int .u64 (l0 x'), .int .u64 (l1 x'), .int .u64 (l2 x'), .int .u64 (l3 x'), .int .u64 (l0 y'), .int .u64 (l1 y'), .int .u64 (l2 y'), .int .u64 (l3 y'), .bool j]] w fun e w' => e = .returned (.bool true) ∧ Below w.heap.size w w')) (w : World) (hm : Mds w) :
    Calls Tryd.prog 11 #[.agg #[.int .u64 (l0 x), .int .u64 (l1 x), .int .u64 (l2 x), .int .u64 (l3 x), .int .u64 (l0 y), .int .u64 (l1 y), .int .u64 (l2 y), .int .u64 (l3 y), .bool i], .agg #[.int .u64 (l0 x2), .int .u64 (l1 x2), .int .u64 (l2 x2), .int .u64 (l3 x2), .int .u64 (l0 y2), .int .u64 (l1 y2), .int .u64 (l2 y2), .int .u64 (l3 y2), .bool i2]] w fun e w' => e = .returned (.tuple #[.agg #[.int .u64 (l0 x'), .int .u64 (l1 x'), .int .u64 (l2 x'), .int .u64 (l3 x'), .int .u64 (l0 y'), .int .u64 (l1 y'), .int .u64 (l2 y'), .int .u64 (l3 y'), .bool j], .bool true]) ∧ Below w.heap.size w w' := by
  go_enter Tryd.func11, Tryd.ntmps11
  go_wp2_with fail
  refine calls_world (fun W => Below w.heap.size w W ∧ Mds W ∧ Bk9 W (w.heap.size + 1 + 1)) ⟨by repeat (first | with_reducible exact Below.refl _ _ | with_reducible refine Below.alloc ?_ (by first | omega | (simp; done) | (simp; omega)) _), ((hm.alloc _).alloc _).alloc _, Bk9.new (by simp)⟩ ?_
  rintro W ⟨B, hD, hR⟩
  have o3 : w.heap.size ≤ w.heap.size + 1 + 1 := by omega
  generalize w.heap.size + 1 + 1 = br at *
  with_reducible refine (C1.out _ hD).mono ?_
  rintro e w1 ⟨rfl, hb⟩
  replace B := B.trans (hb.mono B.size)
  replace hD := hD.keep hb; replace hR := hR.keep hb
  clear hb W
  go_wp2_with fail
  have nbs : br ≠ w1.heap.size := by have := hR.lt; omega
  refine wp_world (fun W => Below w.heap.size w W ∧ Mds W ∧ Bk9 W br ∧ Pnt W w1.heap.size x' y' j) ⟨B.alloc B.size _, hD.alloc _, hR.alloc _, Pnt.new rfl⟩ ?_
  clear B hD hR 
  rintro W ⟨B, hD, hR, hS⟩
  generalize w1.heap.size = bs at *
  have nd : br ≠ 1 := by have := hm.lt; have := o3; omega
  refine late_tail (A := ?AA) 8 (fun V => Below W.heap.size W V) (fun V => ∃ V0, Below W.heap.size W V0 ∧ Below (put9 V0 br x' y' j).heap.size (put9 V0 br x' y' j) V) (by kernel_rfl) (by kernel_rfl) rfl ((Below.refl _ _).drew)
    (fun V V' h h' => h.trans (h'.mono h.size)) (fun V V' ⟨V0, h0, h⟩ h' => ⟨V0, h0, h.trans (h'.mono h.size)⟩) (fun V hV => ?HH) (fun V hV => ?EE) (fun w1 hP => ?TT)
  case HH =>
    have hSV : Pnt V bs x' y' j := by
      rcases hV with hV | ⟨V0, h0, h1⟩
      · exact hS.keep hV
      · exact ((hS.keep h0).put9 nbs).keep h1
    have hDV : Mds V := by
      rcases hV with hV | ⟨V0, h0, h1⟩
      · exact hD.keep hV
      · exact ((hD.keep h0).put9 nd).keep h1
    have gS := hSV.grown
    have hDg : ∀ d os, Mds (grow (redrawn V d) os) := fun d os => hDV.keep (below_regrown V d os)
    unfold Gr
    simp only [List.take_succ_cons, List.take_zero]
    repeat
      first
        | go_big_quiet_skip
        | (go_big_quiet_want; go_big_quiet_op; go_big_quiet_on)
        | (go_big_quiet_want
           go_big_quiet_op
           apply Exists.intro
           refine ⟨fun p => ?_, ?_⟩
           · (first | (go_at_call 16; with_reducible exact Calls.regrown_of (lwnum_any _ _)) | (go_at_call 10; with_reducible exact Calls.regrown_of (C2.out _ (hDg p.d p.os))))
           go_big_quiet_on)
    refine wpQuiet_nil ?_
    exact rfl
  case EE =>
    obtain ⟨c0, c1, c2, c3, c4, c5, c6, c7, c8⟩ := (hR.keep hV).cells
    obtain ⟨f0, f1, f2, f3, f4, f5, f6, f7, f8⟩ := (hR.keep hV).free
    refine ⟨put9 V br x' y' j, ?_, V, hV, Below.refl _ _⟩
    unfold put9
    simp [execOp, Act.eval, go_sem, c0, c1, c2, c3, c4, c5, c6, c7, c8, f0, f1, f2, f3, f4, f5, f6, f7, f8]
  case TT =>
    obtain ⟨V0, h0, h1⟩ := hP
    have gP := (((hR.keep h0).put9 x' y' j).keep h1).cells
    have B1 : Below w.heap.size w w1 := (below_put9 (B.trans (h0.mono B.size)) o3).trans (h1.mono (below_put9 (B.trans (h0.mono B.size)) o3).size)
    clear h0 h1 hD hR hS B
    simp only [List.drop_succ_cons, List.drop_zero]
    go_wp2
    simp [bodyPost, results, Tryd.results11, go_sem, gP]
    exact B1
theorem lplus_any {x y x2 y2 x' y' : Int} {i i2 j : Bool} (hp : Vd x y i) (hq : Vd x2 y2 i2) (hj : Vd x' y' j) (ej : ptOf x' y' j = (ptOf x y i).add (ptOf x2 y2 i2)) (w : World) (hm : Mds w) :
    Calls Tryd.prog 11 #[.agg #[.int .u64 (l0 x), .int .u64 (l1 x), .int .u64 (l2 x), .int .u64 (l3 x), .int .u64 (l0 y), .int .u64 (l1 y), .int .u64 (l2 y), .int .u64 (l3 y), .bool i], .agg #[.int .u64 (l0 x2), .int .u64 (l1 x2), .int .u64 (l2 x2), .int .u64 (l3 x2), .int .u64 (l0 y2), .int .u64 (l1 y2), .int .u64 (l2 y2), .int .u64 (l3 y2), .bool i2]] w fun e w' => e = .returned (.tuple #[.agg #[.int .u64 (l0 x'), .int .u64 (l1 x'), .int .u64 (l2 x'), .int .u64 (l3 x'), .int .u64 (l0 y'), .int .u64 (l1 y'), .int .u64 (l2 y'), .int .u64 (l3 y'), .bool j], .bool true]) ∧ Below w.heap.size w w' :=
  lplus_walk (fun w hm => cadd2_any hp hq hj ej w hm) (con_yes hj) w hm
end Go.Proofs.YtjppjieidjodfaaDoor
