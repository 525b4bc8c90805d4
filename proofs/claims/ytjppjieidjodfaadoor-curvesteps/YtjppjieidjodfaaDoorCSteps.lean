import Derived.Test.YtjppjieidjodfaaDoorCCols
import Derived.Test.YtjppjieidjodfaaDoorAndOr
namespace Go.Proofs.YtjppjieidjodfaaDoor
open Go.RowKit Go.Sort

set_option maxRecDepth 100000 in
set_option maxHeartbeats 8000000 in
theorem csteps_bad0 {k x y : Int} {i : Bool} (CB : Hid (∀ w, Mds w → Cols w → Calls Tryd.prog 9 #[] w fun e w' => e = .returned (.bool true) ∧ Below w.heap.size w w')) (C0 : Hid (∀ w, Mds w → Calls Tryd.prog 10 #[.agg #[.int .u64 (l0 x), .int .u64 (l1 x), .int .u64 (l2 x), .int .u64 (l3 x), .int .u64 (l0 y), .int .u64 (l1 y), .int .u64 (l2 y), .int .u64 (l3 y), .bool i]] w fun e w' => e = .returned (.bool false) ∧ Below w.heap.size w w')) (w : World) (hm : Mds w) (hc : Cols w) :
    Calls Tryd.prog 6 #[.agg #[.int .u64 (l0 k), .int .u64 (l1 k), .int .u64 (l2 k), .int .u64 (l3 k)], .agg #[.int .u64 (l0 x), .int .u64 (l1 x), .int .u64 (l2 x), .int .u64 (l3 x), .int .u64 (l0 y), .int .u64 (l1 y), .int .u64 (l2 y), .int .u64 (l3 y), .bool i]] w fun e w' => e = .returned (.bool true) ∧ Below w.heap.size w w' := by
  go_enter Tryd.func6, Tryd.ntmps6
  go_wp2_with fail
  refine calls_world (fun W => Below w.heap.size w W ∧ Mds W ∧ Cols W ∧ Nm W w.heap.size k ∧ Pnt W (w.heap.size + 1) x y i) ⟨by repeat (first | with_reducible exact Below.refl _ _ | with_reducible refine Below.alloc ?_ (by first | omega | (simp; done) | (simp; omega)) _), (hm.alloc _).alloc _, (Cols.alloc hc _).alloc _, Nm.alloc (Cl.new _ rfl rfl) _, Pnt.new (by simp)⟩ ?_
  rintro W ⟨B, hD, hO, hK, hP⟩
  generalize w.heap.size + 1 = bp at *
  with_reducible refine (CB.out _ hD hO).mono ?_
  rintro e w1 ⟨rfl, hb⟩
  replace B := B.trans (hb.mono B.size)
  replace hD := hD.keep hb; replace hO := hO.keep hb; replace hK := hK.keep hb; replace hP := hP.keep hb
  clear hb W
  have ghP := hP.cells
  go_wp2_with fail
  refine calls_world (fun W => Below w.heap.size w W ∧ Mds W ∧ Cols W ∧ Nm W w.heap.size k ∧ Pnt W bp x y i) ⟨B, hD, hO, hK, hP⟩ ?_
  clear B hD hO hK hP ghP
  rintro W ⟨B, hD, hO, hK, hP⟩
  with_reducible refine (C0.out _ hD).mono ?_
  rintro e w9 ⟨rfl, hb⟩
  replace B := B.trans (hb.mono B.size)
  clear hb hD hO hP hK W
  go_wp2
  simp [bodyPost, results, Tryd.results6, go_sem]
  exact B

set_option maxRecDepth 100000 in
set_option maxHeartbeats 8000000 in
theorem csteps_bad1 {k x y n : Int} {i : Bool} (CB : Hid (∀ w, Mds w → Cols w → Calls Tryd.prog 9 #[] w fun e w' => e = .returned (.bool true) ∧ Below w.heap.size w w')) (C0 : Hid (∀ w, Mds w → Calls Tryd.prog 10 #[.agg #[.int .u64 (l0 x), .int .u64 (l1 x), .int .u64 (l2 x), .int .u64 (l3 x), .int .u64 (l0 y), .int .u64 (l1 y), .int .u64 (l2 y), .int .u64 (l3 y), .bool i]] w fun e w' => e = .returned (.bool true) ∧ Below w.heap.size w w')) (CL : Hid (∀ w, Calls Tryd.prog 25 #[.agg #[.int .u64 (l0 k), .int .u64 (l1 k), .int .u64 (l2 k), .int .u64 (l3 k)]] w fun e w' => e = .returned (.int .i64 n) ∧ Below w.heap.size w w')) (hn : 255 < n) (w : World) (hm : Mds w) (hc : Cols w) :
    Calls Tryd.prog 6 #[.agg #[.int .u64 (l0 k), .int .u64 (l1 k), .int .u64 (l2 k), .int .u64 (l3 k)], .agg #[.int .u64 (l0 x), .int .u64 (l1 x), .int .u64 (l2 x), .int .u64 (l3 x), .int .u64 (l0 y), .int .u64 (l1 y), .int .u64 (l2 y), .int .u64 (l3 y), .bool i]] w fun e w' => e = .returned (.bool true) ∧ Below w.heap.size w w' := by
  go_enter Tryd.func6, Tryd.ntmps6
  go_wp2_with fail
  refine calls_world (fun W => Below w.heap.size w W ∧ Mds W ∧ Cols W ∧ Nm W w.heap.size k ∧ Pnt W (w.heap.size + 1) x y i) ⟨by repeat (first | with_reducible exact Below.refl _ _ | with_reducible refine Below.alloc ?_ (by first | omega | (simp; done) | (simp; omega)) _), (hm.alloc _).alloc _, (Cols.alloc hc _).alloc _, Nm.alloc (Cl.new _ rfl rfl) _, Pnt.new (by simp)⟩ ?_
  rintro W ⟨B, hD, hO, hK, hP⟩
  generalize w.heap.size + 1 = bp at *
  with_reducible refine (CB.out _ hD hO).mono ?_
  rintro e w1 ⟨rfl, hb⟩
  replace B := B.trans (hb.mono B.size)
  replace hD := hD.keep hb; replace hO := hO.keep hb; replace hK := hK.keep hb; replace hP := hP.keep hb
  clear hb W
  have ghP := hP.cells
  go_wp2_with fail
  refine calls_world (fun W => Below w.heap.size w W ∧ Mds W ∧ Cols W ∧ Nm W w.heap.size k ∧ Pnt W bp x y i) ⟨B, hD, hO, hK, hP⟩ ?_
  clear B hD hO hK hP ghP
  rintro W ⟨B, hD, hO, hK, hP⟩
  with_reducible refine (C0.out _ hD).mono ?_
  rintro e w2 ⟨rfl, hb⟩
  replace B := B.trans (hb.mono B.size)
  replace hD := hD.keep hb; replace hO := hO.keep hb; replace hK := hK.keep hb; replace hP := hP.keep hb
  clear hb W
  have ghK := hK.cells
  go_wp2_with fail
  refine calls_world (fun W => Below w.heap.size w W ∧ Mds W ∧ Cols W ∧ Nm W w.heap.size k ∧ Pnt W bp x y i) ⟨B, hD, hO, hK, hP⟩ ?_
  clear B hD hO hK hP ghK
  rintro W ⟨B, hD, hO, hK, hP⟩
  with_reducible refine (CL.out _).mono ?_
  rintro e w9 ⟨rfl, hb⟩
  replace B := B.trans (hb.mono B.size)
  clear hb hD hO hP hK W
  go_wp2
  simp [bodyPost, results, Tryd.results6, go_sem]
  exact B

set_option maxRecDepth 100000 in
set_option maxHeartbeats 16000000 in
theorem csteps_walk {k k2 k3 x y xa ya xb yb xc yc ox oy n : Int} {i ia ib ic oi : Bool} (CB : Hid (∀ w, Mds w → Cols w → Calls Tryd.prog 9 #[] w fun e w' => e = .returned (.bool true) ∧ Below w.heap.size w w')) (C0 : Hid (∀ w, Mds w → Calls Tryd.prog 10 #[.agg #[.int .u64 (l0 x), .int .u64 (l1 x), .int .u64 (l2 x), .int .u64 (l3 x), .int .u64 (l0 y), .int .u64 (l1 y), .int .u64 (l2 y), .int .u64 (l3 y), .bool i]] w fun e w' => e = .returned (.bool true) ∧ Below w.heap.size w w')) (CL : Hid (∀ w, Calls Tryd.prog 25 #[.agg #[.int .u64 (l0 k), .int .u64 (l1 k), .int .u64 (l2 k), .int .u64 (l3 k)]] w fun e w' => e = .returned (.int .i64 n) ∧ Below w.heap.size w w')) (hn : ¬ 255 < n) (M0 : Hid (∀ w, Mds w → Cols w → Calls Tryd.prog 26 #[.agg #[.int .u64 0, .int .u64 0, .int .u64 0, .int .u64 0], .agg #[.int .u64 (l0 x), .int .u64 (l1 x), .int .u64 (l2 x), .int .u64 (l3 x), .int .u64 (l0 y), .int .u64 (l1 y), .int .u64 (l2 y), .int .u64 (l3 y), .bool i]] w fun e w' => e = .returned (.tuple #[.agg #[.int .u64 (l0 ox), .int .u64 (l1 ox), .int .u64 (l2 ox), .int .u64 (l3 ox), .int .u64 (l0 oy), .int .u64 (l1 oy), .int .u64 (l2 oy), .int .u64 (l3 oy), .bool oi], .int .i64 0]) ∧ Below w.heap.size w w')) (M1 : Hid (∀ w, Mds w → Cols w → Calls Tryd.prog 26 #[.agg #[.int .u64 (l0 k), .int .u64 (l1 k), .int .u64 (l2 k), .int .u64 (l3 k)], .agg #[.int .u64 (l0 x), .int .u64 (l1 x), .int .u64 (l2 x), .int .u64 (l3 x), .int .u64 (l0 y), .int .u64 (l1 y), .int .u64 (l2 y), .int .u64 (l3 y), .bool i]] w fun e w' => e = .returned (.tuple #[.agg #[.int .u64 (l0 xa), .int .u64 (l1 xa), .int .u64 (l2 xa), .int .u64 (l3 xa), .int .u64 (l0 ya), .int .u64 (l1 ya), .int .u64 (l2 ya), .int .u64 (l3 ya), .bool ia], .int .i64 0]) ∧ Below w.heap.size w w'))
    (S1 : Hid (∀ w, Calls Tryd.prog 27 #[.agg #[.int .u64 (l0 k), .int .u64 (l1 k), .int .u64 (l2 k), .int .u64 (l3 k)], .int .i64 1] w fun e w' => e = .returned (.agg #[.int .u64 (l0 k2), .int .u64 (l1 k2), .int .u64 (l2 k2), .int .u64 (l3 k2)]) ∧ Below w.heap.size w w')) (M2 : Hid (∀ w, Mds w → Cols w → Calls Tryd.prog 26 #[.agg #[.int .u64 (l0 k2), .int .u64 (l1 k2), .int .u64 (l2 k2), .int .u64 (l3 k2)], .agg #[.int .u64 (l0 x), .int .u64 (l1 x), .int .u64 (l2 x), .int .u64 (l3 x), .int .u64 (l0 y), .int .u64 (l1 y), .int .u64 (l2 y), .int .u64 (l3 y), .bool i]] w fun e w' => e = .returned (.tuple #[.agg #[.int .u64 (l0 xb), .int .u64 (l1 xb), .int .u64 (l2 xb), .int .u64 (l3 xb), .int .u64 (l0 yb), .int .u64 (l1 yb), .int .u64 (l2 yb), .int .u64 (l3 yb), .bool ib], .int .i64 0]) ∧ Below w.heap.size w w')) (S2 : Hid (∀ w, Calls Tryd.prog 29 #[.int .u64 1] w fun e w' => e = .returned (.agg #[.int .u64 (l0 1), .int .u64 (l1 1), .int .u64 (l2 1), .int .u64 (l3 1)]) ∧ Below w.heap.size w w')) (S3 : Hid (∀ w, Calls Tryd.prog 28 #[.agg #[.int .u64 (l0 k2), .int .u64 (l1 k2), .int .u64 (l2 k2), .int .u64 (l3 k2)], .agg #[.int .u64 (l0 1), .int .u64 (l1 1), .int .u64 (l2 1), .int .u64 (l3 1)]] w fun e w' => e = .returned (.agg #[.int .u64 (l0 k3), .int .u64 (l1 k3), .int .u64 (l2 k3), .int .u64 (l3 k3)]) ∧ Below w.heap.size w w')) (M3 : Hid (∀ w, Mds w → Cols w → Calls Tryd.prog 26 #[.agg #[.int .u64 (l0 k3), .int .u64 (l1 k3), .int .u64 (l2 k3), .int .u64 (l3 k3)], .agg #[.int .u64 (l0 x), .int .u64 (l1 x), .int .u64 (l2 x), .int .u64 (l3 x), .int .u64 (l0 y), .int .u64 (l1 y), .int .u64 (l2 y), .int .u64 (l3 y), .bool i]] w fun e w' => e = .returned (.tuple #[.agg #[.int .u64 (l0 xc), .int .u64 (l1 xc), .int .u64 (l2 xc), .int .u64 (l3 xc), .int .u64 (l0 yc), .int .u64 (l1 yc), .int .u64 (l2 yc), .int .u64 (l3 yc), .bool ic], .int .i64 0]) ∧ Below w.heap.size w w'))
    (CD : Hid (∀ w, Mds w → Calls Tryd.prog 15 #[.agg #[.int .u64 (l0 xa), .int .u64 (l1 xa), .int .u64 (l2 xa), .int .u64 (l3 xa), .int .u64 (l0 ya), .int .u64 (l1 ya), .int .u64 (l2 ya), .int .u64 (l3 ya), .bool ia]] w fun e w' => e = .returned (.tuple #[.agg #[.int .u64 (l0 xb), .int .u64 (l1 xb), .int .u64 (l2 xb), .int .u64 (l3 xb), .int .u64 (l0 yb), .int .u64 (l1 yb), .int .u64 (l2 yb), .int .u64 (l3 yb), .bool ib], .int .i64 0]) ∧ Below w.heap.size w w')) (L1 : Hid (∀ w, Mds w → Calls Tryd.prog 11 #[.agg #[.int .u64 (l0 xb), .int .u64 (l1 xb), .int .u64 (l2 xb), .int .u64 (l3 xb), .int .u64 (l0 yb), .int .u64 (l1 yb), .int .u64 (l2 yb), .int .u64 (l3 yb), .bool ib], .agg #[.int .u64 (l0 x), .int .u64 (l1 x), .int .u64 (l2 x), .int .u64 (l3 x), .int .u64 (l0 y), .int .u64 (l1 y), .int .u64 (l2 y), .int .u64 (l3 y), .bool i]] w fun e w' => e = .returned (.tuple #[.agg #[.int .u64 (l0 xc), .int .u64 (l1 xc), .int .u64 (l2 xc), .int .u64 (l3 xc), .int .u64 (l0 yc), .int .u64 (l1 yc), .int .u64 (l2 yc), .int .u64 (l3 yc), .bool ic], .bool true]) ∧ Below w.heap.size w w')) (CN : Hid (∀ w, Calls Tryd.prog 16 #[.int .i64 0] w fun e w' => e = .returned (.int .i64 0) ∧ Below w.heap.size w w')) (CZ : Hid (∀ w, Calls Tryd.prog 13 #[] w fun e w' => e = .returned (.agg #[.int .u64 (l0 ox), .int .u64 (l1 ox), .int .u64 (l2 ox), .int .u64 (l3 ox), .int .u64 (l0 oy), .int .u64 (l1 oy), .int .u64 (l2 oy), .int .u64 (l3 oy), .bool oi]) ∧ Below w.heap.size w w'))
    (Eo : ∀ w, (Op.equalIn 10000 26 (.agg #[.int .u64 (l0 ox), .int .u64 (l1 ox), .int .u64 (l2 ox), .int .u64 (l3 ox), .int .u64 (l0 oy), .int .u64 (l1 oy), .int .u64 (l2 oy), .int .u64 (l3 oy), .bool oi]) (.agg #[.int .u64 (l0 ox), .int .u64 (l1 ox), .int .u64 (l2 ox), .int .u64 (l3 ox), .int .u64 (l0 oy), .int .u64 (l1 oy), .int .u64 (l2 oy), .int .u64 (l3 oy), .bool oi])).run Tryd.prog w = .ok true w) (Eb : ∀ w, (Op.equalIn 10000 26 (.agg #[.int .u64 (l0 xb), .int .u64 (l1 xb), .int .u64 (l2 xb), .int .u64 (l3 xb), .int .u64 (l0 yb), .int .u64 (l1 yb), .int .u64 (l2 yb), .int .u64 (l3 yb), .bool ib]) (.agg #[.int .u64 (l0 xb), .int .u64 (l1 xb), .int .u64 (l2 xb), .int .u64 (l3 xb), .int .u64 (l0 yb), .int .u64 (l1 yb), .int .u64 (l2 yb), .int .u64 (l3 yb), .bool ib])).run Tryd.prog w = .ok true w) (Ec : ∀ w, (Op.equalIn 10000 26 (.agg #[.int .u64 (l0 xc), .int .u64 (l1 xc), .int .u64 (l2 xc), .int .u64 (l3 xc), .int .u64 (l0 yc), .int .u64 (l1 yc), .int .u64 (l2 yc), .int .u64 (l3 yc), .bool ic]) (.agg #[.int .u64 (l0 xc), .int .u64 (l1 xc), .int .u64 (l2 xc), .int .u64 (l3 xc), .int .u64 (l0 yc), .int .u64 (l1 yc), .int .u64 (l2 yc), .int .u64 (l3 yc), .bool ic])).run Tryd.prog w = .ok true w) (w : World) (hm : Mds w) (hc : Cols w) :
    Calls Tryd.prog 6 #[.agg #[.int .u64 (l0 k), .int .u64 (l1 k), .int .u64 (l2 k), .int .u64 (l3 k)], .agg #[.int .u64 (l0 x), .int .u64 (l1 x), .int .u64 (l2 x), .int .u64 (l3 x), .int .u64 (l0 y), .int .u64 (l1 y), .int .u64 (l2 y), .int .u64 (l3 y), .bool i]] w fun e w' => e = .returned (.bool true) ∧ Below w.heap.size w w' := by
  go_enter Tryd.func6, Tryd.ntmps6
  go_wp2_with fail
  refine calls_world (fun W => Below w.heap.size w W ∧ Mds W ∧ Cols W ∧ Nm W w.heap.size k ∧ Pnt W (w.heap.size + 1) x y i) ⟨by repeat (first | with_reducible exact Below.refl _ _ | with_reducible refine Below.alloc ?_ (by first | omega | (simp; done) | (simp; omega)) _), (hm.alloc _).alloc _, (Cols.alloc hc _).alloc _, Nm.alloc (Cl.new _ rfl rfl) _, Pnt.new (by simp)⟩ ?_
  rintro W ⟨B, hD, hO, hK, hP⟩
  generalize w.heap.size + 1 = bp at *
  with_reducible refine (CB.out _ hD hO).mono ?_
  rintro e w1 ⟨rfl, hb⟩
  replace B := B.trans (hb.mono B.size)
  replace hD := hD.keep hb; replace hO := hO.keep hb; replace hK := hK.keep hb; replace hP := hP.keep hb
  clear hb W
  have ghP := hP.cells
  go_wp2_with fail
  refine calls_world (fun W => Below w.heap.size w W ∧ Mds W ∧ Cols W ∧ Nm W w.heap.size k ∧ Pnt W bp x y i) ⟨B, hD, hO, hK, hP⟩ ?_
  clear B hD hO hK hP ghP
  rintro W ⟨B, hD, hO, hK, hP⟩
  with_reducible refine (C0.out _ hD).mono ?_
  rintro e w2 ⟨rfl, hb⟩
  replace B := B.trans (hb.mono B.size)
  replace hD := hD.keep hb; replace hO := hO.keep hb; replace hK := hK.keep hb; replace hP := hP.keep hb
  clear hb W
  have ghK := hK.cells
  go_wp2_with fail
  refine calls_world (fun W => Below w.heap.size w W ∧ Mds W ∧ Cols W ∧ Nm W w.heap.size k ∧ Pnt W bp x y i) ⟨B, hD, hO, hK, hP⟩ ?_
  clear B hD hO hK hP ghK
  rintro W ⟨B, hD, hO, hK, hP⟩
  with_reducible refine (CL.out _).mono ?_
  rintro e w3 ⟨rfl, hb⟩
  replace B := B.trans (hb.mono B.size)
  replace hD := hD.keep hb; replace hO := hO.keep hb; replace hK := hK.keep hb; replace hP := hP.keep hb
  clear hb W
  have ghP := hP.cells
  go_wp2_with fail
  refine calls_world (fun W => Below w.heap.size w W ∧ Mds W ∧ Cols W ∧ Nm W w.heap.size k ∧ Pnt W bp x y i) ⟨B, hD, hO, hK, hP⟩ ?_
  clear B hD hO hK hP ghP
  rintro W ⟨B, hD, hO, hK, hP⟩
  with_reducible refine (M0.out _ hD hO).mono ?_
  rintro e w4 ⟨rfl, hb⟩
  replace B := B.trans (hb.mono B.size)
  replace hD := hD.keep hb; replace hO := hO.keep hb; replace hK := hK.keep hb; replace hP := hP.keep hb
  clear hb W
  have ghK := fun o => (hK.alloc o).cells
  have ghP := fun o => (hP.alloc o).cells
  go_wp2_with fail
  refine calls_world (fun W => Below w.heap.size w W ∧ Mds W ∧ Cols W ∧ Nm W w.heap.size k ∧ Pnt W bp x y i ∧ Pnt W w4.heap.size ox oy oi) ⟨B.alloc B.size _, hD.alloc _, hO.alloc _, hK.alloc _, hP.alloc _, Pnt.new rfl⟩ ?_
  clear B hD hO hK hP ghK ghP
  rintro W ⟨B, hD, hO, hK, hP, hZ⟩
  generalize w4.heap.size = bz at *
  with_reducible refine (M1.out _ hD hO).mono ?_
  rintro e w5 ⟨rfl, hb⟩
  replace B := B.trans (hb.mono B.size)
  replace hD := hD.keep hb; replace hO := hO.keep hb; replace hK := hK.keep hb; replace hP := hP.keep hb; replace hZ := hZ.keep hb
  clear hb W
  go_wp2_with fail
  refine wp_world (fun W => Below w.heap.size w W ∧ Mds W ∧ Cols W ∧ Nm W w.heap.size k ∧ Pnt W bp x y i ∧ Pnt W bz ox oy oi ∧ Pnt W w5.heap.size xa ya ia) ⟨B.alloc B.size _, hD.alloc _, hO.alloc _, hK.alloc _, hP.alloc _, hZ.alloc _, Pnt.new rfl⟩ ?_
  clear B hD hO hK hP hZ 
  rintro W ⟨B, hD, hO, hK, hP, hZ, hA⟩
  generalize w5.heap.size = ba at *
  refine put_tail (A := ?AA1) 7 (fun V k => put9 V k xb yb ib) (by kernel_rfl) (by kernel_rfl) rfl rfl rfl (alloc_pt _ _ _) (fun V V0 h0 h1 => below_put9 (alloc_below h0 h1) h0.size) (fun V hV => ?HH1) (fun V V0 h0 h1 => ?EE1) (fun V0 V w1 h0 h1 h2 => ?TT1)
  case HH1 =>
    have hDg : ∀ d os, Mds (grow (redrawn V d) os) := fun d os => (hD.keep hV).keep (below_regrown V d os)
    have hOg : ∀ d os, Cols (grow (redrawn V d) os) := fun d os => (hO.keep hV).keep (below_regrown V d os)
    have ghK := (hK.keep hV).grown
    have ghP := (hP.keep hV).grown
    unfold Gr
    simp only [List.take_succ_cons, List.take_zero]
    repeat
      first
        | go_big_quiet_skip
        | (go_big_quiet_want; go_big_quiet_op; go_big_quiet_on)
        | (go_big_quiet_want
           go_big_quiet_op
           apply Exists.intro
           refine ⟨fun p => ?_, ?_⟩
           · (first | (go_at_call 27; with_reducible exact Calls.regrown_of (S1.out _)) | (go_at_call 26; with_reducible exact Calls.regrown_of (M2.out _ (hDg p.d p.os) (hOg p.d p.os))))
           go_big_quiet_on)
    refine wpQuiet_nil ?_
    exact rfl
  case EE1 =>
    obtain ⟨c0, c1, c2, c3, c4, c5, c6, c7, c8⟩ := ((Bk9.new rfl).keep h1).cells
    obtain ⟨f0, f1, f2, f3, f4, f5, f6, f7, f8⟩ := ((Bk9.new rfl).keep h1).free
    unfold put9
    simp [execOp, Act.put, Act.eval, go_sem, c0, c1, c2, c3, c4, c5, c6, c7, c8, f0, f1, f2, f3, f4, f5, f6, f7, f8]
  case TT1 =>
    have hN := (((Bk9.new rfl).keep h1).put9 xb yb ib).keep h2
    have hb := alloc_below h0 h1
    have nhD : V0.heap.size ≠ 1 := Nat.ne_of_gt (Nat.lt_of_lt_of_le hD.lt h0.size)
    have nhO : V0.heap.size ≠ 0 := Nat.ne_of_gt (Nat.lt_of_lt_of_le hO.lt h0.size)
    have nhK : V0.heap.size ≠ w.heap.size := Nat.ne_of_gt (Nat.lt_of_lt_of_le hK.lt h0.size)
    have nhP : V0.heap.size ≠ bp := Nat.ne_of_gt (Nat.lt_of_lt_of_le hP.lt h0.size)
    have nhZ : V0.heap.size ≠ bz := Nat.ne_of_gt (Nat.lt_of_lt_of_le hZ.lt h0.size)
    have nhA : V0.heap.size ≠ ba := Nat.ne_of_gt (Nat.lt_of_lt_of_le hA.lt h0.size)
    have gn : w.heap.size ≤ V0.heap.size := Nat.le_trans B.size h0.size
    have B1 := below_put9 (x' := xb) (y' := yb) (j := ib) (B.trans (hb.mono B.size)) gn
    replace B := B1.trans (h2.mono B1.size)
    replace hD := ((hD.keep hb).put9 nhD).keep h2
    replace hO := ((hO.keep hb).put9 nhO).keep h2
    replace hK := ((hK.keep hb).put9 nhK).keep h2
    replace hP := ((hP.keep hb).put9 nhP).keep h2
    replace hZ := ((hZ.keep hb).put9 nhZ).keep h2
    replace hA := ((hA.keep hb).put9 nhA).keep h2
    clear hb h0 h1 h2 B1 W gn nhD nhO nhK nhP nhZ nhA
    generalize V0.heap.size = bb at *
    clear V V0
    simp only [List.drop_succ_cons, List.drop_zero, Act.put, List.setIfInBounds_toArray, List.set_cons_zero, List.set_cons_succ]
    go_wp2_with fail
    refine wp_world (fun W => Below w.heap.size w W ∧ Mds W ∧ Cols W ∧ Nm W w.heap.size k ∧ Pnt W bp x y i ∧ Pnt W bz ox oy oi ∧ Pnt W ba xa ya ia ∧ Pnt W bb xb yb ib) ⟨B, hD, hO, hK, hP, hZ, hA, hN⟩ ?_
    clear B hN hD hO hK hP hZ hA 
    rintro W ⟨B, hD, hO, hK, hP, hZ, hA, hB⟩
    clear w1
    refine put_tail (A := ?AA2) 9 (fun V k => put9 V k xc yc ic) (by kernel_rfl) (by kernel_rfl) rfl rfl rfl (alloc_pt _ _ _) (fun V V0 h0 h1 => below_put9 (alloc_below h0 h1) h0.size) (fun V hV => ?HH2) (fun V V0 h0 h1 => ?EE2) (fun V0 V w1 h0 h1 h2 => ?TT2)
    case HH2 =>
      have hDg : ∀ d os, Mds (grow (redrawn V d) os) := fun d os => (hD.keep hV).keep (below_regrown V d os)
      have hOg : ∀ d os, Cols (grow (redrawn V d) os) := fun d os => (hO.keep hV).keep (below_regrown V d os)
      have ghK := (hK.keep hV).grown
      have ghP := (hP.keep hV).grown
      unfold Gr
      simp only [List.take_succ_cons, List.take_zero]
      repeat
        first
          | go_big_quiet_skip
          | (go_big_quiet_want; go_big_quiet_op; go_big_quiet_on)
          | (go_big_quiet_want
             go_big_quiet_op
             apply Exists.intro
             refine ⟨fun p => ?_, ?_⟩
             · (first | (go_at_call 27; with_reducible exact Calls.regrown_of (S1.out _)) | (go_at_call 29; with_reducible exact Calls.regrown_of (S2.out _)) | (go_at_call 28; with_reducible exact Calls.regrown_of (S3.out _)) | (go_at_call 26; with_reducible exact Calls.regrown_of (M3.out _ (hDg p.d p.os) (hOg p.d p.os))))
             go_big_quiet_on)
      refine wpQuiet_nil ?_
      exact rfl
    case EE2 =>
      obtain ⟨c0, c1, c2, c3, c4, c5, c6, c7, c8⟩ := ((Bk9.new rfl).keep h1).cells
      obtain ⟨f0, f1, f2, f3, f4, f5, f6, f7, f8⟩ := ((Bk9.new rfl).keep h1).free
      unfold put9
      simp [execOp, Act.put, Act.eval, go_sem, c0, c1, c2, c3, c4, c5, c6, c7, c8, f0, f1, f2, f3, f4, f5, f6, f7, f8]
    case TT2 =>
      have hN := (((Bk9.new rfl).keep h1).put9 xc yc ic).keep h2
      have hb := alloc_below h0 h1
      have nhD : V0.heap.size ≠ 1 := Nat.ne_of_gt (Nat.lt_of_lt_of_le hD.lt h0.size)
      have nhO : V0.heap.size ≠ 0 := Nat.ne_of_gt (Nat.lt_of_lt_of_le hO.lt h0.size)
      have nhK : V0.heap.size ≠ w.heap.size := Nat.ne_of_gt (Nat.lt_of_lt_of_le hK.lt h0.size)
      have nhP : V0.heap.size ≠ bp := Nat.ne_of_gt (Nat.lt_of_lt_of_le hP.lt h0.size)
      have nhZ : V0.heap.size ≠ bz := Nat.ne_of_gt (Nat.lt_of_lt_of_le hZ.lt h0.size)
      have nhA : V0.heap.size ≠ ba := Nat.ne_of_gt (Nat.lt_of_lt_of_le hA.lt h0.size)
      have nhB : V0.heap.size ≠ bb := Nat.ne_of_gt (Nat.lt_of_lt_of_le hB.lt h0.size)
      have gn : w.heap.size ≤ V0.heap.size := Nat.le_trans B.size h0.size
      have B1 := below_put9 (x' := xc) (y' := yc) (j := ic) (B.trans (hb.mono B.size)) gn
      replace B := B1.trans (h2.mono B1.size)
      replace hD := ((hD.keep hb).put9 nhD).keep h2
      replace hO := ((hO.keep hb).put9 nhO).keep h2
      replace hK := ((hK.keep hb).put9 nhK).keep h2
      replace hP := ((hP.keep hb).put9 nhP).keep h2
      replace hZ := ((hZ.keep hb).put9 nhZ).keep h2
      replace hA := ((hA.keep hb).put9 nhA).keep h2
      replace hB := ((hB.keep hb).put9 nhB).keep h2
      clear hb h0 h1 h2 B1 W gn nhD nhO nhK nhP nhZ nhA nhB
      generalize V0.heap.size = bt at *
      clear V V0
      have ghA := hA.cells
      simp only [List.drop_succ_cons, List.drop_zero, Act.put, List.setIfInBounds_toArray, List.set_cons_zero, List.set_cons_succ]
      go_wp2_with fail
      refine calls_world (fun W => Below w.heap.size w W ∧ Mds W ∧ Cols W ∧ Nm W w.heap.size k ∧ Pnt W bp x y i ∧ Pnt W bz ox oy oi ∧ Pnt W ba xa ya ia ∧ Pnt W bb xb yb ib ∧ Pnt W bt xc yc ic) ⟨B, hD, hO, hK, hP, hZ, hA, hB, hN⟩ ?_
      clear B hN hD hO hK hP hZ hA hB ghA
      rintro W ⟨B, hD, hO, hK, hP, hZ, hA, hB, hT⟩
      clear w1
      clear hA hK
      with_reducible refine (CD.out _ hD).mono ?_
      rintro e w31 ⟨rfl, hb⟩
      replace B := B.trans (hb.mono B.size)
      replace hD := hD.keep hb; replace hO := hO.keep hb; replace hP := hP.keep hb; replace hZ := hZ.keep hb; replace hB := hB.keep hb; replace hT := hT.keep hb
      clear hb W
      have ghP := fun o => (hP.alloc o).cells
      go_wp2_with fail
      refine calls_world (fun W => Below w.heap.size w W ∧ Mds W ∧ Cols W ∧ Pnt W bp x y i ∧ Pnt W bz ox oy oi ∧ Pnt W bb xb yb ib ∧ Pnt W bt xc yc ic ∧ Pnt W w31.heap.size xb yb ib) ⟨B.alloc B.size _, hD.alloc _, hO.alloc _, hP.alloc _, hZ.alloc _, hB.alloc _, hT.alloc _, Pnt.new rfl⟩ ?_
      clear B hD hO hP hZ hB hT ghP
      rintro W ⟨B, hD, hO, hP, hZ, hB, hT, hd⟩
      generalize w31.heap.size = bd at *
      with_reducible refine (L1.out _ hD).mono ?_
      rintro e w32 ⟨rfl, hb⟩
      replace B := B.trans (hb.mono B.size)
      replace hD := hD.keep hb; replace hO := hO.keep hb; replace hP := hP.keep hb; replace hZ := hZ.keep hb; replace hB := hB.keep hb; replace hT := hT.keep hb; replace hd := hd.keep hb
      clear hb W
      go_wp2_with fail
      refine calls_world (fun W => Below w.heap.size w W ∧ Mds W ∧ Cols W ∧ Pnt W bp x y i ∧ Pnt W bz ox oy oi ∧ Pnt W bb xb yb ib ∧ Pnt W bt xc yc ic ∧ Pnt W bd xb yb ib ∧ Pnt W w32.heap.size xc yc ic) ⟨B.alloc B.size _, hD.alloc _, hO.alloc _, hP.alloc _, hZ.alloc _, hB.alloc _, hT.alloc _, hd.alloc _, Pnt.new rfl⟩ ?_
      clear B hD hO hP hZ hB hT hd 
      rintro W ⟨B, hD, hO, hP, hZ, hB, hT, hd, hF⟩
      generalize w32.heap.size = bf at *
      with_reducible refine (CN.out _).mono ?_
      rintro e w33 ⟨rfl, hb⟩
      replace B := B.trans (hb.mono B.size)
      replace hD := hD.keep hb; replace hO := hO.keep hb; replace hP := hP.keep hb; replace hZ := hZ.keep hb; replace hB := hB.keep hb; replace hT := hT.keep hb; replace hd := hd.keep hb; replace hF := hF.keep hb
      clear hb W
      go_wp2_with fail
      refine calls_world (fun W => Below w.heap.size w W ∧ Mds W ∧ Cols W ∧ Pnt W bp x y i ∧ Pnt W bz ox oy oi ∧ Pnt W bb xb yb ib ∧ Pnt W bt xc yc ic ∧ Pnt W bd xb yb ib ∧ Pnt W bf xc yc ic) ⟨B, hD, hO, hP, hZ, hB, hT, hd, hF⟩ ?_
      clear B hD hO hP hZ hB hT hd hF 
      rintro W ⟨B, hD, hO, hP, hZ, hB, hT, hd, hF⟩
      with_reducible refine (CN.out _).mono ?_
      rintro e w34 ⟨rfl, hb⟩
      replace B := B.trans (hb.mono B.size)
      replace hD := hD.keep hb; replace hO := hO.keep hb; replace hP := hP.keep hb; replace hZ := hZ.keep hb; replace hB := hB.keep hb; replace hT := hT.keep hb; replace hd := hd.keep hb; replace hF := hF.keep hb
      clear hb W
      go_wp2_with fail
      refine calls_world (fun W => Below w.heap.size w W ∧ Mds W ∧ Cols W ∧ Pnt W bp x y i ∧ Pnt W bz ox oy oi ∧ Pnt W bb xb yb ib ∧ Pnt W bt xc yc ic ∧ Pnt W bd xb yb ib ∧ Pnt W bf xc yc ic) ⟨B, hD, hO, hP, hZ, hB, hT, hd, hF⟩ ?_
      clear B hD hO hP hZ hB hT hd hF 
      rintro W ⟨B, hD, hO, hP, hZ, hB, hT, hd, hF⟩
      with_reducible refine (CN.out _).mono ?_
      rintro e w35 ⟨rfl, hb⟩
      replace B := B.trans (hb.mono B.size)
      replace hD := hD.keep hb; replace hO := hO.keep hb; replace hP := hP.keep hb; replace hZ := hZ.keep hb; replace hB := hB.keep hb; replace hT := hT.keep hb; replace hd := hd.keep hb; replace hF := hF.keep hb
      clear hb W
      go_wp2_with fail
      refine calls_world (fun W => Below w.heap.size w W ∧ Mds W ∧ Cols W ∧ Pnt W bp x y i ∧ Pnt W bz ox oy oi ∧ Pnt W bb xb yb ib ∧ Pnt W bt xc yc ic ∧ Pnt W bd xb yb ib ∧ Pnt W bf xc yc ic) ⟨B, hD, hO, hP, hZ, hB, hT, hd, hF⟩ ?_
      clear B hD hO hP hZ hB hT hd hF 
      rintro W ⟨B, hD, hO, hP, hZ, hB, hT, hd, hF⟩
      with_reducible refine (CN.out _).mono ?_
      rintro e w36 ⟨rfl, hb⟩
      replace B := B.trans (hb.mono B.size)
      replace hD := hD.keep hb; replace hO := hO.keep hb; replace hP := hP.keep hb; replace hZ := hZ.keep hb; replace hB := hB.keep hb; replace hT := hT.keep hb; replace hd := hd.keep hb; replace hF := hF.keep hb
      clear hb W
      go_wp2_with fail
      refine calls_world (fun W => Below w.heap.size w W ∧ Mds W ∧ Cols W ∧ Pnt W bp x y i ∧ Pnt W bz ox oy oi ∧ Pnt W bb xb yb ib ∧ Pnt W bt xc yc ic ∧ Pnt W bd xb yb ib ∧ Pnt W bf xc yc ic) ⟨B, hD, hO, hP, hZ, hB, hT, hd, hF⟩ ?_
      clear B hD hO hP hZ hB hT hd hF 
      rintro W ⟨B, hD, hO, hP, hZ, hB, hT, hd, hF⟩
      with_reducible refine (CN.out _).mono ?_
      rintro e w37 ⟨rfl, hb⟩
      replace B := B.trans (hb.mono B.size)
      replace hD := hD.keep hb; replace hO := hO.keep hb; replace hP := hP.keep hb; replace hZ := hZ.keep hb; replace hB := hB.keep hb; replace hT := hT.keep hb; replace hd := hd.keep hb; replace hF := hF.keep hb
      clear hb W
      go_wp2_with fail
      refine wp_world (fun W => Below w.heap.size w W ∧ Mds W ∧ Cols W ∧ Pnt W bp x y i ∧ Pnt W bz ox oy oi ∧ Pnt W bb xb yb ib ∧ Pnt W bt xc yc ic ∧ Pnt W bd xb yb ib ∧ Pnt W bf xc yc ic) ⟨B, hD, hO, hP, hZ, hB, hT, hd, hF⟩ ?_
      clear B hD hO hP hZ hB hT hd hF 
      rintro W ⟨B, hD, hO, hP, hZ, hB, hT, hd, hF⟩
      have ghZ := hZ.grown
      have ghB := hB.grown
      have ghd := hd.grown
      have ghT := hT.grown
      have ghF := hF.grown
      have hDg : ∀ d os, Mds (grow (redrawn W d) os) := fun d os => hD.keep (below_regrown W d os)
      have hOg : ∀ d os, Cols (grow (redrawn W d) os) := fun d os => hO.keep (below_regrown W d os)
      refine wp_region_quiet_below (by kernel_rfl) (by kernel_rfl) ?_
      repeat
        first
          | go_big_quiet_skip
          | (go_big_quiet_want; go_big_quiet_op; go_big_quiet_on)
          | (go_big_quiet_want
             go_big_quiet_op
             apply Exists.intro
             refine ⟨fun p => ?_, ?_⟩
             · (first | (go_at_call 13; with_reducible exact Calls.regrown_of (CZ.out _)))
             go_big_quiet_on)
      refine wpQuiet_nil ?_
      rintro w38 ⟨p, rfl⟩
      have hb := below_regrown W p.d p.os
      generalize grow (redrawn W p.d) p.os = w38 at *
      replace B := B.trans (hb.mono B.size)
      replace hD := hD.keep hb; replace hO := hO.keep hb; replace hP := hP.keep hb; replace hZ := hZ.keep hb; replace hB := hB.keep hb; replace hT := hT.keep hb; replace hd := hd.keep hb; replace hF := hF.keep hb
      clear hb W ghZ ghB ghd ghT ghF hDg hOg
      go_wp2
      simp [bodyPost, results, Tryd.results6, go_sem]
      exact B

theorem len_low {k : Int} (hk : Num k) (h : ¬ 255 < lenN k) : k < 57896044618658097711785492504343953926634992332820282019728792003956564819968 := by
  by_cases h1 : k < 57896044618658097711785492504343953926634992332820282019728792003956564819968
  · exact h1
  · have := lenN_eq (n := k) (k := 255) (by rw [show (2 : Int) ^ 255 = 57896044618658097711785492504343953926634992332820282019728792003956564819968 by decide]; omega) (by rw [show (2 : Int) ^ (255 + 1) = 115792089237316195423570985008687907853269984665640564039457584007913129639936 by decide]; exact hk.2)
    omega
theorem shl_one {k : Int} (hk : Num k) (h : k < 57896044618658097711785492504343953926634992332820282019728792003956564819968) : shlN k 1 = 2 * k := by
  unfold shlN
  rw [if_neg (by omega), if_neg (by omega)]
  unfold upN
  have := hk.1
  simp only [show (1 : Int).toNat = 1 by rfl, Int.pow_one]
  omega
theorem or_even {x : Int} (hx : Word x) (he : x % 2 = 0) : bits .or .u64 x 1 = x + 1 := by
  obtain ⟨n, rfl⟩ := Int.eq_ofNat_of_zero_le hx.1
  have hl : n < 18446744073709551616 := by have := hx.2; omega
  obtain ⟨m, rfl⟩ : ∃ m, n = 2 * m := ⟨n / 2, by omega⟩
  refine (bits_or_u64_nat _ 1 hl (by decide)).trans ?_
  have e := Nat.two_pow_add_eq_or_of_lt (i := 1) (b := 1) (by decide) m
  simp only [Nat.pow_one] at e
  rw [← e]; omega
theorem or_zero {x : Int} (hx : Word x) : bits .or .u64 x 0 = x := by
  obtain ⟨n, rfl⟩ := Int.eq_ofNat_of_zero_le hx.1
  have hl : n < 18446744073709551616 := by have := hx.2; omega
  refine (bits_or_u64_nat n 0 hl (by decide)).trans ?_
  rw [Nat.or_zero]
theorem or_one (k : Int) (w : World) : Calls Tryd.prog 28 #[.agg #[.int .u64 (l0 (2 * k)), .int .u64 (l1 (2 * k)), .int .u64 (l2 (2 * k)), .int .u64 (l3 (2 * k))], .agg #[.int .u64 (l0 1), .int .u64 (l1 1), .int .u64 (l2 1), .int .u64 (l3 1)]] w fun e w' => e = .returned (.agg #[.int .u64 (l0 (2 * k + 1)), .int .u64 (l1 (2 * k + 1)), .int .u64 (l2 (2 * k + 1)), .int .u64 (l3 (2 * k + 1))]) ∧ Below w.heap.size w w' := by
  have h := or_p (l0 (2 * k)) (l1 (2 * k)) (l2 (2 * k)) (l3 (2 * k)) (l0 1) (l1 1) (l2 1) (l3 1) w
  rw [show bits .or .u64 (l0 (2 * k)) (l0 1) = l0 (2 * k + 1) by rw [show l0 1 = 1 by rfl, or_even (l0_word _) (by unfold l0; omega)]; unfold l0; omega,
    show bits .or .u64 (l1 (2 * k)) (l1 1) = l1 (2 * k + 1) by rw [show l1 1 = 0 by rfl, or_zero (l1_word _)]; unfold l1; omega,
    show bits .or .u64 (l2 (2 * k)) (l2 1) = l2 (2 * k + 1) by rw [show l2 1 = 0 by rfl, or_zero (l2_word _)]; unfold l2; omega,
    show bits .or .u64 (l3 (2 * k)) (l3 1) = l3 (2 * k + 1) by rw [show l3 1 = 0 by rfl, or_zero (l3_word _)]; unfold l3; omega] at h
  exact h
theorem csteps_any {k x y : Int} {i : Bool} (hk : Num k) (hx : Num x) (hy : Num y) (w : World) (hm : Mds w) (hc : Cols w) :
    Calls Tryd.prog 6 #[.agg #[.int .u64 (l0 k), .int .u64 (l1 k), .int .u64 (l2 k), .int .u64 (l3 k)], .agg #[.int .u64 (l0 x), .int .u64 (l1 x), .int .u64 (l2 x), .int .u64 (l3 x), .int .u64 (l0 y), .int .u64 (l1 y), .int .u64 (l2 y), .int .u64 (l3 y), .bool i]] w fun e w' => e = .returned (.bool true) ∧ Below w.heap.size w w' := by
  have CB : Hid (∀ w, Mds w → Cols w → Calls Tryd.prog 9 #[] w fun e w' => e = .returned (.bool true) ∧ Below w.heap.size w w') := fun w hm hc => lbase_any w hm hc.gat
  by_cases hp : Vd x y i
  · have CL : Hid (∀ w, Calls Tryd.prog 25 #[.agg #[.int .u64 (l0 k), .int .u64 (l1 k), .int .u64 (l2 k), .int .u64 (l3 k)]] w fun e w' => e = .returned (.int .i64 (lenN k)) ∧ Below w.heap.size w w') := fun w => len_any hk w
    by_cases hn : 255 < lenN k
    · exact csteps_bad1 CB (con_yes hp) CL hn w hm hc
    · have hlow := len_low hk hn
      obtain ⟨xa, ya, ia, ha, ea⟩ := rep_pt (EC.smul_on hp.on k.toNat)
      obtain ⟨xb, yb, ib, hb, eb⟩ := rep_pt (EC.smul_on hp.on (2 * k).toNat)
      obtain ⟨xc, yc, ic, hcc, ec⟩ := rep_pt (EC.smul_on hp.on (2 * k + 1).toNat)
      have k0 := hk.1
      have n2 : Num (2 * k) := ⟨by omega, by omega⟩
      have n3 : Num (2 * k + 1) := ⟨by omega, by omega⟩
      have ho : Vd 0 0 true := ⟨rfl, rfl⟩
      obtain ⟨z0, z1, z2, z3⟩ := zero_limbs
      have M0 := fun w hm hc => cmul_any (k := 0) ⟨by decide, by decide⟩ hp ho rfl w hm hc
      rw [← shl_one hk hlow] at n2
      have S1 := fun w => shl_any (k := 1) hk w
      have e2 : ptOf xb yb ib = (ptOf xa ya ia).add (ptOf xa ya ia) := by rw [eb, ea, ← EC.smul_add hp.on, show (2 * k).toNat = k.toNat + k.toNat by omega]
      have e3 : ptOf xc yc ic = (ptOf xb yb ib).add (ptOf x y i) := by rw [ec, eb, show (2 * k + 1).toNat = (2 * k).toNat + 1 by omega]; rfl
      rw [shl_one hk hlow] at n2
      simp only [shl_one hk hlow] at S1
      refine csteps_walk (ox := 0) (oy := 0) (oi := true) CB (con_yes hp) CL hn ?_ (fun w hm hc => cmul_any hk hp ha ea w hm hc) S1 (fun w hm hc => cmul_any n2 hp hb eb w hm hc) (fun w => from_any ⟨by decide, by decide⟩ w) (fun w => or_one k w)
        (fun w hm hc => cmul_any n3 hp hcc ec w hm hc) (fun w hm => cdouble_any ha hb e2 w hm) (fun w hm => lplus_any hb hp hcc e3 w hm) (fun w => lwnum_any 0 w) (fun w => lzero_any w) (eq_pt_self ho) (eq_pt_self hb) (eq_pt_self hcc) w hm hc
      intro w hm hc
      have := M0 w hm hc
      rw [z0, z1, z2, z3] at this ⊢
      exact this
  · exact csteps_bad0 CB (con_no hx hy hp) w hm hc
end Go.Proofs.YtjppjieidjodfaaDoor
