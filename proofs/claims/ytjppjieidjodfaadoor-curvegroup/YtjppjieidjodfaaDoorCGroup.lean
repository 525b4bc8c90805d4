import Derived.Test.YtjppjieidjodfaaDoorCPlus
import Derived.Test.YtjppjieidjodfaaDoorCLaid
import Derived.Test.YtjppjieidjodfaaDoorCOps
import Derived.Test.YtjppjieidjodfaaDoorQAlloc
namespace Go.Proofs.YtjppjieidjodfaaDoor
open Go.RowKit Go.Sort
theorem alloc_pt (dst : Option Tmp) (pos : String) (ty : TypeId) (ρ : Operand → Value) (w : World) : (execOp ρ { dst := dst, op := Op.alloc 26, type := ty, pos := pos, after := #[], guard := none }).run Tryd.prog w = .ok (.value (.pointer (some ⟨w.heap.size, 0, none⟩))) (w.alloc (.cells #[.int .u64 0, .int .u64 0, .int .u64 0, .int .u64 0, .int .u64 0, .int .u64 0, .int .u64 0, .int .u64 0, .bool false] 26)) := by
  simp [execOp, go_sem]
theorem ptl {W : World} {b : Nat} {q : PP} {L : List PP} (h : Pts W b 0 (q :: L)) : b < W.heap.size := World.block_lt_of_cell? W ⟨b, 0 + 0 * 9, none⟩ (h 0 (by simp)).1
theorem pts3 {W : World} {b : Nat} {x y x2 y2 x3 y3 : Int} {i i2 i3 : Bool} (h : Cl W b [.int .u64 (l0 x), .int .u64 (l1 x), .int .u64 (l2 x), .int .u64 (l3 x), .int .u64 (l0 y), .int .u64 (l1 y), .int .u64 (l2 y), .int .u64 (l3 y), .bool i, .int .u64 (l0 x2), .int .u64 (l1 x2), .int .u64 (l2 x2), .int .u64 (l3 x2), .int .u64 (l0 y2), .int .u64 (l1 y2), .int .u64 (l2 y2), .int .u64 (l3 y2), .bool i2, .int .u64 (l0 x3), .int .u64 (l1 x3), .int .u64 (l2 x3), .int .u64 (l3 x3), .int .u64 (l0 y3), .int .u64 (l1 y3), .int .u64 (l2 y3), .int .u64 (l3 y3), .bool i3]) : Pts W b 0 [⟨x, y, i⟩, ⟨x2, y2, i2⟩, ⟨x3, y3, i3⟩] := by
  intro k hk
  have hc : k = 0 ∨ k = 1 ∨ k = 2 := by simp at hk; omega
  rcases hc with rfl | rfl | rfl
  · exact ⟨h 0 (by simp), h 1 (by simp), h 2 (by simp), h 3 (by simp), h 4 (by simp), h 5 (by simp), h 6 (by simp), h 7 (by simp), h 8 (by simp)⟩
  · exact ⟨h 9 (by simp), h 10 (by simp), h 11 (by simp), h 12 (by simp), h 13 (by simp), h 14 (by simp), h 15 (by simp), h 16 (by simp), h 17 (by simp)⟩
  · exact ⟨h 18 (by simp), h 19 (by simp), h 20 (by simp), h 21 (by simp), h 22 (by simp), h 23 (by simp), h 24 (by simp), h 25 (by simp), h 26 (by simp)⟩

set_option maxRecDepth 100000 in
set_option maxHeartbeats 8000000 in
theorem cgroup_bad0 {x y x2 y2 x3 y3 : Int} {i i2 i3 : Bool} (CB : Hid (∀ w, Mds w → Gat w → Calls Tryd.prog 9 #[] w fun e w' => e = .returned (.bool true) ∧ Below w.heap.size w w')) (C0 : Hid (∀ w, Mds w → Calls Tryd.prog 10 #[.agg #[.int .u64 (l0 x), .int .u64 (l1 x), .int .u64 (l2 x), .int .u64 (l3 x), .int .u64 (l0 y), .int .u64 (l1 y), .int .u64 (l2 y), .int .u64 (l3 y), .bool i]] w fun e w' => e = .returned (.bool false) ∧ Below w.heap.size w w')) (w : World) (hm : Mds w) (hg : Gat w) :
    Calls Tryd.prog 3 #[.agg #[.int .u64 (l0 x), .int .u64 (l1 x), .int .u64 (l2 x), .int .u64 (l3 x), .int .u64 (l0 y), .int .u64 (l1 y), .int .u64 (l2 y), .int .u64 (l3 y), .bool i], .agg #[.int .u64 (l0 x2), .int .u64 (l1 x2), .int .u64 (l2 x2), .int .u64 (l3 x2), .int .u64 (l0 y2), .int .u64 (l1 y2), .int .u64 (l2 y2), .int .u64 (l3 y2), .bool i2], .agg #[.int .u64 (l0 x3), .int .u64 (l1 x3), .int .u64 (l2 x3), .int .u64 (l3 x3), .int .u64 (l0 y3), .int .u64 (l1 y3), .int .u64 (l2 y3), .int .u64 (l3 y3), .bool i3]] w fun e w' => e = .returned (.bool true) ∧ Below w.heap.size w w' := by
  go_enter Tryd.func3, Tryd.ntmps3
  go_wp2_with fail
  refine calls_world (fun W => Below w.heap.size w W ∧ Mds W ∧ Gat W ∧ Pnt W w.heap.size x y i ∧ Pnt W (w.heap.size + 1) x2 y2 i2 ∧ Pnt W (w.heap.size + 1 + 1) x3 y3 i3) ⟨by repeat (first | with_reducible exact Below.refl _ _ | with_reducible refine Below.alloc ?_ (by first | omega | (simp; done) | (simp; omega)) _), ((hm.alloc _).alloc _).alloc _, ((hg.alloc _).alloc _).alloc _, ((Pnt.new rfl).alloc _).alloc _, (Pnt.new (by simp)).alloc _, Pnt.new (by simp)⟩ ?_
  rintro W ⟨B, hD, hG, hP, hQ, hR⟩
  generalize w.heap.size + 1 + 1 = br at *
  generalize w.heap.size + 1 = bq at *
  with_reducible refine (CB.out _ hD hG).mono ?_
  rintro e w1 ⟨rfl, hb⟩
  replace B := B.trans (hb.mono B.size)
  replace hD := hD.keep hb; replace hG := hG.keep hb; replace hP := hP.keep hb; replace hQ := hQ.keep hb; replace hR := hR.keep hb
  clear hb W
  have ghP := hP.cells
  go_wp2_with fail
  refine calls_world (fun W => Below w.heap.size w W ∧ Mds W ∧ Gat W ∧ Pnt W w.heap.size x y i ∧ Pnt W bq x2 y2 i2 ∧ Pnt W br x3 y3 i3) ⟨B, hD, hG, hP, hQ, hR⟩ ?_
  clear B hD hG hP hQ hR ghP
  rintro W ⟨B, hD, hG, hP, hQ, hR⟩
  with_reducible refine (C0.out _ hD).mono ?_
  rintro e w9 ⟨rfl, hb⟩
  replace B := B.trans (hb.mono B.size)
  clear hb hD hG hP hQ hR W
  go_wp2
  simp [bodyPost, results, Tryd.results3, go_sem]
  exact B

set_option maxRecDepth 100000 in
set_option maxHeartbeats 8000000 in
theorem cgroup_bad1 {x y x2 y2 x3 y3 : Int} {i i2 i3 : Bool} (CB : Hid (∀ w, Mds w → Gat w → Calls Tryd.prog 9 #[] w fun e w' => e = .returned (.bool true) ∧ Below w.heap.size w w')) (C0 : Hid (∀ w, Mds w → Calls Tryd.prog 10 #[.agg #[.int .u64 (l0 x), .int .u64 (l1 x), .int .u64 (l2 x), .int .u64 (l3 x), .int .u64 (l0 y), .int .u64 (l1 y), .int .u64 (l2 y), .int .u64 (l3 y), .bool i]] w fun e w' => e = .returned (.bool true) ∧ Below w.heap.size w w')) (C1 : Hid (∀ w, Mds w → Calls Tryd.prog 10 #[.agg #[.int .u64 (l0 x2), .int .u64 (l1 x2), .int .u64 (l2 x2), .int .u64 (l3 x2), .int .u64 (l0 y2), .int .u64 (l1 y2), .int .u64 (l2 y2), .int .u64 (l3 y2), .bool i2]] w fun e w' => e = .returned (.bool false) ∧ Below w.heap.size w w')) (w : World) (hm : Mds w) (hg : Gat w) :
    Calls Tryd.prog 3 #[.agg #[.int .u64 (l0 x), .int .u64 (l1 x), .int .u64 (l2 x), .int .u64 (l3 x), .int .u64 (l0 y), .int .u64 (l1 y), .int .u64 (l2 y), .int .u64 (l3 y), .bool i], .agg #[.int .u64 (l0 x2), .int .u64 (l1 x2), .int .u64 (l2 x2), .int .u64 (l3 x2), .int .u64 (l0 y2), .int .u64 (l1 y2), .int .u64 (l2 y2), .int .u64 (l3 y2), .bool i2], .agg #[.int .u64 (l0 x3), .int .u64 (l1 x3), .int .u64 (l2 x3), .int .u64 (l3 x3), .int .u64 (l0 y3), .int .u64 (l1 y3), .int .u64 (l2 y3), .int .u64 (l3 y3), .bool i3]] w fun e w' => e = .returned (.bool true) ∧ Below w.heap.size w w' := by
  go_enter Tryd.func3, Tryd.ntmps3
  go_wp2_with fail
  refine calls_world (fun W => Below w.heap.size w W ∧ Mds W ∧ Gat W ∧ Pnt W w.heap.size x y i ∧ Pnt W (w.heap.size + 1) x2 y2 i2 ∧ Pnt W (w.heap.size + 1 + 1) x3 y3 i3) ⟨by repeat (first | with_reducible exact Below.refl _ _ | with_reducible refine Below.alloc ?_ (by first | omega | (simp; done) | (simp; omega)) _), ((hm.alloc _).alloc _).alloc _, ((hg.alloc _).alloc _).alloc _, ((Pnt.new rfl).alloc _).alloc _, (Pnt.new (by simp)).alloc _, Pnt.new (by simp)⟩ ?_
  rintro W ⟨B, hD, hG, hP, hQ, hR⟩
  generalize w.heap.size + 1 + 1 = br at *
  generalize w.heap.size + 1 = bq at *
  with_reducible refine (CB.out _ hD hG).mono ?_
  rintro e w1 ⟨rfl, hb⟩
  replace B := B.trans (hb.mono B.size)
  replace hD := hD.keep hb; replace hG := hG.keep hb; replace hP := hP.keep hb; replace hQ := hQ.keep hb; replace hR := hR.keep hb
  clear hb W
  have ghP := hP.cells
  go_wp2_with fail
  refine calls_world (fun W => Below w.heap.size w W ∧ Mds W ∧ Gat W ∧ Pnt W w.heap.size x y i ∧ Pnt W bq x2 y2 i2 ∧ Pnt W br x3 y3 i3) ⟨B, hD, hG, hP, hQ, hR⟩ ?_
  clear B hD hG hP hQ hR ghP
  rintro W ⟨B, hD, hG, hP, hQ, hR⟩
  with_reducible refine (C0.out _ hD).mono ?_
  rintro e w2 ⟨rfl, hb⟩
  replace B := B.trans (hb.mono B.size)
  replace hD := hD.keep hb; replace hG := hG.keep hb; replace hP := hP.keep hb; replace hQ := hQ.keep hb; replace hR := hR.keep hb
  clear hb W
  have ghQ := hQ.cells
  go_wp2_with fail
  refine calls_world (fun W => Below w.heap.size w W ∧ Mds W ∧ Gat W ∧ Pnt W w.heap.size x y i ∧ Pnt W bq x2 y2 i2 ∧ Pnt W br x3 y3 i3) ⟨B, hD, hG, hP, hQ, hR⟩ ?_
  clear B hD hG hP hQ hR ghQ
  rintro W ⟨B, hD, hG, hP, hQ, hR⟩
  with_reducible refine (C1.out _ hD).mono ?_
  rintro e w9 ⟨rfl, hb⟩
  replace B := B.trans (hb.mono B.size)
  clear hb hD hG hP hQ hR W
  go_wp2
  simp [bodyPost, results, Tryd.results3, go_sem]
  exact B

set_option maxRecDepth 100000 in
set_option maxHeartbeats 8000000 in
theorem cgroup_bad2 {x y x2 y2 x3 y3 : Int} {i i2 i3 : Bool} (CB : Hid (∀ w, Mds w → Gat w → Calls Tryd.prog 9 #[] w fun e w' => e = .returned (.bool true) ∧ Below w.heap.size w w')) (C0 : Hid (∀ w, Mds w → Calls Tryd.prog 10 #[.agg #[.int .u64 (l0 x), .int .u64 (l1 x), .int .u64 (l2 x), .int .u64 (l3 x), .int .u64 (l0 y), .int .u64 (l1 y), .int .u64 (l2 y), .int .u64 (l3 y), .bool i]] w fun e w' => e = .returned (.bool true) ∧ Below w.heap.size w w')) (C1 : Hid (∀ w, Mds w → Calls Tryd.prog 10 #[.agg #[.int .u64 (l0 x2), .int .u64 (l1 x2), .int .u64 (l2 x2), .int .u64 (l3 x2), .int .u64 (l0 y2), .int .u64 (l1 y2), .int .u64 (l2 y2), .int .u64 (l3 y2), .bool i2]] w fun e w' => e = .returned (.bool true) ∧ Below w.heap.size w w')) (C2 : Hid (∀ w, Mds w → Calls Tryd.prog 10 #[.agg #[.int .u64 (l0 x3), .int .u64 (l1 x3), .int .u64 (l2 x3), .int .u64 (l3 x3), .int .u64 (l0 y3), .int .u64 (l1 y3), .int .u64 (l2 y3), .int .u64 (l3 y3), .bool i3]] w fun e w' => e = .returned (.bool false) ∧ Below w.heap.size w w')) (w : World) (hm : Mds w) (hg : Gat w) :
    Calls Tryd.prog 3 #[.agg #[.int .u64 (l0 x), .int .u64 (l1 x), .int .u64 (l2 x), .int .u64 (l3 x), .int .u64 (l0 y), .int .u64 (l1 y), .int .u64 (l2 y), .int .u64 (l3 y), .bool i], .agg #[.int .u64 (l0 x2), .int .u64 (l1 x2), .int .u64 (l2 x2), .int .u64 (l3 x2), .int .u64 (l0 y2), .int .u64 (l1 y2), .int .u64 (l2 y2), .int .u64 (l3 y2), .bool i2], .agg #[.int .u64 (l0 x3), .int .u64 (l1 x3), .int .u64 (l2 x3), .int .u64 (l3 x3), .int .u64 (l0 y3), .int .u64 (l1 y3), .int .u64 (l2 y3), .int .u64 (l3 y3), .bool i3]] w fun e w' => e = .returned (.bool true) ∧ Below w.heap.size w w' := by
  go_enter Tryd.func3, Tryd.ntmps3
  go_wp2_with fail
  refine calls_world (fun W => Below w.heap.size w W ∧ Mds W ∧ Gat W ∧ Pnt W w.heap.size x y i ∧ Pnt W (w.heap.size + 1) x2 y2 i2 ∧ Pnt W (w.heap.size + 1 + 1) x3 y3 i3) ⟨by repeat (first | with_reducible exact Below.refl _ _ | with_reducible refine Below.alloc ?_ (by first | omega | (simp; done) | (simp; omega)) _), ((hm.alloc _).alloc _).alloc _, ((hg.alloc _).alloc _).alloc _, ((Pnt.new rfl).alloc _).alloc _, (Pnt.new (by simp)).alloc _, Pnt.new (by simp)⟩ ?_
  rintro W ⟨B, hD, hG, hP, hQ, hR⟩
  generalize w.heap.size + 1 + 1 = br at *
  generalize w.heap.size + 1 = bq at *
  with_reducible refine (CB.out _ hD hG).mono ?_
  rintro e w1 ⟨rfl, hb⟩
  replace B := B.trans (hb.mono B.size)
  replace hD := hD.keep hb; replace hG := hG.keep hb; replace hP := hP.keep hb; replace hQ := hQ.keep hb; replace hR := hR.keep hb
  clear hb W
  have ghP := hP.cells
  go_wp2_with fail
  refine calls_world (fun W => Below w.heap.size w W ∧ Mds W ∧ Gat W ∧ Pnt W w.heap.size x y i ∧ Pnt W bq x2 y2 i2 ∧ Pnt W br x3 y3 i3) ⟨B, hD, hG, hP, hQ, hR⟩ ?_
  clear B hD hG hP hQ hR ghP
  rintro W ⟨B, hD, hG, hP, hQ, hR⟩
  with_reducible refine (C0.out _ hD).mono ?_
  rintro e w2 ⟨rfl, hb⟩
  replace B := B.trans (hb.mono B.size)
  replace hD := hD.keep hb; replace hG := hG.keep hb; replace hP := hP.keep hb; replace hQ := hQ.keep hb; replace hR := hR.keep hb
  clear hb W
  have ghQ := hQ.cells
  go_wp2_with fail
  refine calls_world (fun W => Below w.heap.size w W ∧ Mds W ∧ Gat W ∧ Pnt W w.heap.size x y i ∧ Pnt W bq x2 y2 i2 ∧ Pnt W br x3 y3 i3) ⟨B, hD, hG, hP, hQ, hR⟩ ?_
  clear B hD hG hP hQ hR ghQ
  rintro W ⟨B, hD, hG, hP, hQ, hR⟩
  with_reducible refine (C1.out _ hD).mono ?_
  rintro e w3 ⟨rfl, hb⟩
  replace B := B.trans (hb.mono B.size)
  replace hD := hD.keep hb; replace hG := hG.keep hb; replace hP := hP.keep hb; replace hQ := hQ.keep hb; replace hR := hR.keep hb
  clear hb W
  have ghR := hR.cells
  go_wp2_with fail
  refine calls_world (fun W => Below w.heap.size w W ∧ Mds W ∧ Gat W ∧ Pnt W w.heap.size x y i ∧ Pnt W bq x2 y2 i2 ∧ Pnt W br x3 y3 i3) ⟨B, hD, hG, hP, hQ, hR⟩ ?_
  clear B hD hG hP hQ hR ghR
  rintro W ⟨B, hD, hG, hP, hQ, hR⟩
  with_reducible refine (C2.out _ hD).mono ?_
  rintro e w9 ⟨rfl, hb⟩
  replace B := B.trans (hb.mono B.size)
  clear hb hD hG hP hQ hR W
  go_wp2
  simp [bodyPost, results, Tryd.results3, go_sem]
  exact B

set_option maxRecDepth 100000 in
set_option maxHeartbeats 16000000 in
theorem cgroup_walk {x y x2 y2 x3 y3 xa ya xc yc xd yd xn yn ox oy xu yu : Int} {i i2 i3 ia ic id ii oi iu : Bool} (CB : Hid (∀ w, Mds w → Gat w → Calls Tryd.prog 9 #[] w fun e w' => e = .returned (.bool true) ∧ Below w.heap.size w w')) (C0 : Hid (∀ w, Mds w → Calls Tryd.prog 10 #[.agg #[.int .u64 (l0 x), .int .u64 (l1 x), .int .u64 (l2 x), .int .u64 (l3 x), .int .u64 (l0 y), .int .u64 (l1 y), .int .u64 (l2 y), .int .u64 (l3 y), .bool i]] w fun e w' => e = .returned (.bool true) ∧ Below w.heap.size w w')) (C1 : Hid (∀ w, Mds w → Calls Tryd.prog 10 #[.agg #[.int .u64 (l0 x2), .int .u64 (l1 x2), .int .u64 (l2 x2), .int .u64 (l3 x2), .int .u64 (l0 y2), .int .u64 (l1 y2), .int .u64 (l2 y2), .int .u64 (l3 y2), .bool i2]] w fun e w' => e = .returned (.bool true) ∧ Below w.heap.size w w')) (C2 : Hid (∀ w, Mds w → Calls Tryd.prog 10 #[.agg #[.int .u64 (l0 x3), .int .u64 (l1 x3), .int .u64 (l2 x3), .int .u64 (l3 x3), .int .u64 (l0 y3), .int .u64 (l1 y3), .int .u64 (l2 y3), .int .u64 (l3 y3), .bool i3]] w fun e w' => e = .returned (.bool true) ∧ Below w.heap.size w w'))
    (L1 : Hid (∀ w, Mds w → Calls Tryd.prog 11 #[.agg #[.int .u64 (l0 x), .int .u64 (l1 x), .int .u64 (l2 x), .int .u64 (l3 x), .int .u64 (l0 y), .int .u64 (l1 y), .int .u64 (l2 y), .int .u64 (l3 y), .bool i], .agg #[.int .u64 (l0 x2), .int .u64 (l1 x2), .int .u64 (l2 x2), .int .u64 (l3 x2), .int .u64 (l0 y2), .int .u64 (l1 y2), .int .u64 (l2 y2), .int .u64 (l3 y2), .bool i2]] w fun e w' => e = .returned (.tuple #[.agg #[.int .u64 (l0 xa), .int .u64 (l1 xa), .int .u64 (l2 xa), .int .u64 (l3 xa), .int .u64 (l0 ya), .int .u64 (l1 ya), .int .u64 (l2 ya), .int .u64 (l3 ya), .bool ia], .bool true]) ∧ Below w.heap.size w w')) (L2 : Hid (∀ w, Mds w → Calls Tryd.prog 11 #[.agg #[.int .u64 (l0 x2), .int .u64 (l1 x2), .int .u64 (l2 x2), .int .u64 (l3 x2), .int .u64 (l0 y2), .int .u64 (l1 y2), .int .u64 (l2 y2), .int .u64 (l3 y2), .bool i2], .agg #[.int .u64 (l0 x), .int .u64 (l1 x), .int .u64 (l2 x), .int .u64 (l3 x), .int .u64 (l0 y), .int .u64 (l1 y), .int .u64 (l2 y), .int .u64 (l3 y), .bool i]] w fun e w' => e = .returned (.tuple #[.agg #[.int .u64 (l0 xa), .int .u64 (l1 xa), .int .u64 (l2 xa), .int .u64 (l3 xa), .int .u64 (l0 ya), .int .u64 (l1 ya), .int .u64 (l2 ya), .int .u64 (l3 ya), .bool ia], .bool true]) ∧ Below w.heap.size w w')) (L3 : Hid (∀ w, Mds w → Calls Tryd.prog 11 #[.agg #[.int .u64 (l0 xa), .int .u64 (l1 xa), .int .u64 (l2 xa), .int .u64 (l3 xa), .int .u64 (l0 ya), .int .u64 (l1 ya), .int .u64 (l2 ya), .int .u64 (l3 ya), .bool ia], .agg #[.int .u64 (l0 x3), .int .u64 (l1 x3), .int .u64 (l2 x3), .int .u64 (l3 x3), .int .u64 (l0 y3), .int .u64 (l1 y3), .int .u64 (l2 y3), .int .u64 (l3 y3), .bool i3]] w fun e w' => e = .returned (.tuple #[.agg #[.int .u64 (l0 xc), .int .u64 (l1 xc), .int .u64 (l2 xc), .int .u64 (l3 xc), .int .u64 (l0 yc), .int .u64 (l1 yc), .int .u64 (l2 yc), .int .u64 (l3 yc), .bool ic], .bool true]) ∧ Below w.heap.size w w')) (L4 : Hid (∀ w, Mds w → Calls Tryd.prog 11 #[.agg #[.int .u64 (l0 x2), .int .u64 (l1 x2), .int .u64 (l2 x2), .int .u64 (l3 x2), .int .u64 (l0 y2), .int .u64 (l1 y2), .int .u64 (l2 y2), .int .u64 (l3 y2), .bool i2], .agg #[.int .u64 (l0 x3), .int .u64 (l1 x3), .int .u64 (l2 x3), .int .u64 (l3 x3), .int .u64 (l0 y3), .int .u64 (l1 y3), .int .u64 (l2 y3), .int .u64 (l3 y3), .bool i3]] w fun e w' => e = .returned (.tuple #[.agg #[.int .u64 (l0 xd), .int .u64 (l1 xd), .int .u64 (l2 xd), .int .u64 (l3 xd), .int .u64 (l0 yd), .int .u64 (l1 yd), .int .u64 (l2 yd), .int .u64 (l3 yd), .bool id], .bool true]) ∧ Below w.heap.size w w')) (L5 : Hid (∀ w, Mds w → Calls Tryd.prog 11 #[.agg #[.int .u64 (l0 x), .int .u64 (l1 x), .int .u64 (l2 x), .int .u64 (l3 x), .int .u64 (l0 y), .int .u64 (l1 y), .int .u64 (l2 y), .int .u64 (l3 y), .bool i], .agg #[.int .u64 (l0 xd), .int .u64 (l1 xd), .int .u64 (l2 xd), .int .u64 (l3 xd), .int .u64 (l0 yd), .int .u64 (l1 yd), .int .u64 (l2 yd), .int .u64 (l3 yd), .bool id]] w fun e w' => e = .returned (.tuple #[.agg #[.int .u64 (l0 xc), .int .u64 (l1 xc), .int .u64 (l2 xc), .int .u64 (l3 xc), .int .u64 (l0 yc), .int .u64 (l1 yc), .int .u64 (l2 yc), .int .u64 (l3 yc), .bool ic], .bool true]) ∧ Below w.heap.size w w'))
    (N : Hid (∀ w, Mds w → Calls Tryd.prog 12 #[.agg #[.int .u64 (l0 x), .int .u64 (l1 x), .int .u64 (l2 x), .int .u64 (l3 x), .int .u64 (l0 y), .int .u64 (l1 y), .int .u64 (l2 y), .int .u64 (l3 y), .bool i]] w fun e w' => e = .returned (.tuple #[.agg #[.int .u64 (l0 xn), .int .u64 (l1 xn), .int .u64 (l2 xn), .int .u64 (l3 xn), .int .u64 (l0 yn), .int .u64 (l1 yn), .int .u64 (l2 yn), .int .u64 (l3 yn), .bool ii], .int .i64 0]) ∧ Below w.heap.size w w')) (L6 : Hid (∀ w, Mds w → Calls Tryd.prog 11 #[.agg #[.int .u64 (l0 x), .int .u64 (l1 x), .int .u64 (l2 x), .int .u64 (l3 x), .int .u64 (l0 y), .int .u64 (l1 y), .int .u64 (l2 y), .int .u64 (l3 y), .bool i], .agg #[.int .u64 (l0 xn), .int .u64 (l1 xn), .int .u64 (l2 xn), .int .u64 (l3 xn), .int .u64 (l0 yn), .int .u64 (l1 yn), .int .u64 (l2 yn), .int .u64 (l3 yn), .bool ii]] w fun e w' => e = .returned (.tuple #[.agg #[.int .u64 (l0 ox), .int .u64 (l1 ox), .int .u64 (l2 ox), .int .u64 (l3 ox), .int .u64 (l0 oy), .int .u64 (l1 oy), .int .u64 (l2 oy), .int .u64 (l3 oy), .bool oi], .bool true]) ∧ Below w.heap.size w w')) (CZ : Hid (∀ w, Calls Tryd.prog 13 #[] w fun e w' => e = .returned (.agg #[.int .u64 (l0 ox), .int .u64 (l1 ox), .int .u64 (l2 ox), .int .u64 (l3 ox), .int .u64 (l0 oy), .int .u64 (l1 oy), .int .u64 (l2 oy), .int .u64 (l3 oy), .bool oi]) ∧ Below w.heap.size w w')) (L7 : Hid (∀ w, Mds w → Calls Tryd.prog 11 #[.agg #[.int .u64 (l0 ox), .int .u64 (l1 ox), .int .u64 (l2 ox), .int .u64 (l3 ox), .int .u64 (l0 oy), .int .u64 (l1 oy), .int .u64 (l2 oy), .int .u64 (l3 oy), .bool oi], .agg #[.int .u64 (l0 x), .int .u64 (l1 x), .int .u64 (l2 x), .int .u64 (l3 x), .int .u64 (l0 y), .int .u64 (l1 y), .int .u64 (l2 y), .int .u64 (l3 y), .bool i]] w fun e w' => e = .returned (.tuple #[.agg #[.int .u64 (l0 x), .int .u64 (l1 x), .int .u64 (l2 x), .int .u64 (l3 x), .int .u64 (l0 y), .int .u64 (l1 y), .int .u64 (l2 y), .int .u64 (l3 y), .bool i], .bool true]) ∧ Below w.heap.size w w'))
    (CS : Hid (∀ w b, Mds w → Pts w b 0 [⟨x, y, i⟩, ⟨x2, y2, i2⟩, ⟨x3, y3, i3⟩] → b < w.heap.size → Calls Tryd.prog 14 #[.slice (some ⟨b, 0, none⟩) 3 3] w fun e w' => e = .returned (.tuple #[.agg #[.int .u64 (l0 xc), .int .u64 (l1 xc), .int .u64 (l2 xc), .int .u64 (l3 xc), .int .u64 (l0 yc), .int .u64 (l1 yc), .int .u64 (l2 yc), .int .u64 (l3 yc), .bool ic], .int .i64 0]) ∧ Below w.heap.size w w')) (CD : Hid (∀ w, Mds w → Calls Tryd.prog 15 #[.agg #[.int .u64 (l0 x), .int .u64 (l1 x), .int .u64 (l2 x), .int .u64 (l3 x), .int .u64 (l0 y), .int .u64 (l1 y), .int .u64 (l2 y), .int .u64 (l3 y), .bool i]] w fun e w' => e = .returned (.tuple #[.agg #[.int .u64 (l0 xu), .int .u64 (l1 xu), .int .u64 (l2 xu), .int .u64 (l3 xu), .int .u64 (l0 yu), .int .u64 (l1 yu), .int .u64 (l2 yu), .int .u64 (l3 yu), .bool iu], .int .i64 0]) ∧ Below w.heap.size w w')) (L8 : Hid (∀ w, Mds w → Calls Tryd.prog 11 #[.agg #[.int .u64 (l0 x), .int .u64 (l1 x), .int .u64 (l2 x), .int .u64 (l3 x), .int .u64 (l0 y), .int .u64 (l1 y), .int .u64 (l2 y), .int .u64 (l3 y), .bool i], .agg #[.int .u64 (l0 x), .int .u64 (l1 x), .int .u64 (l2 x), .int .u64 (l3 x), .int .u64 (l0 y), .int .u64 (l1 y), .int .u64 (l2 y), .int .u64 (l3 y), .bool i]] w fun e w' => e = .returned (.tuple #[.agg #[.int .u64 (l0 xu), .int .u64 (l1 xu), .int .u64 (l2 xu), .int .u64 (l3 xu), .int .u64 (l0 yu), .int .u64 (l1 yu), .int .u64 (l2 yu), .int .u64 (l3 yu), .bool iu], .bool true]) ∧ Below w.heap.size w w')) (CN : Hid (∀ w, Calls Tryd.prog 16 #[.int .i64 0] w fun e w' => e = .returned (.int .i64 0) ∧ Below w.heap.size w w'))
    (Ea : ∀ w, (Op.equalIn 10000 26 (.agg #[.int .u64 (l0 xa), .int .u64 (l1 xa), .int .u64 (l2 xa), .int .u64 (l3 xa), .int .u64 (l0 ya), .int .u64 (l1 ya), .int .u64 (l2 ya), .int .u64 (l3 ya), .bool ia]) (.agg #[.int .u64 (l0 xa), .int .u64 (l1 xa), .int .u64 (l2 xa), .int .u64 (l3 xa), .int .u64 (l0 ya), .int .u64 (l1 ya), .int .u64 (l2 ya), .int .u64 (l3 ya), .bool ia])).run Tryd.prog w = .ok true w) (Ec : ∀ w, (Op.equalIn 10000 26 (.agg #[.int .u64 (l0 xc), .int .u64 (l1 xc), .int .u64 (l2 xc), .int .u64 (l3 xc), .int .u64 (l0 yc), .int .u64 (l1 yc), .int .u64 (l2 yc), .int .u64 (l3 yc), .bool ic]) (.agg #[.int .u64 (l0 xc), .int .u64 (l1 xc), .int .u64 (l2 xc), .int .u64 (l3 xc), .int .u64 (l0 yc), .int .u64 (l1 yc), .int .u64 (l2 yc), .int .u64 (l3 yc), .bool ic])).run Tryd.prog w = .ok true w) (Eo : ∀ w, (Op.equalIn 10000 26 (.agg #[.int .u64 (l0 ox), .int .u64 (l1 ox), .int .u64 (l2 ox), .int .u64 (l3 ox), .int .u64 (l0 oy), .int .u64 (l1 oy), .int .u64 (l2 oy), .int .u64 (l3 oy), .bool oi]) (.agg #[.int .u64 (l0 ox), .int .u64 (l1 ox), .int .u64 (l2 ox), .int .u64 (l3 ox), .int .u64 (l0 oy), .int .u64 (l1 oy), .int .u64 (l2 oy), .int .u64 (l3 oy), .bool oi])).run Tryd.prog w = .ok true w) (Ep : ∀ w, (Op.equalIn 10000 26 (.agg #[.int .u64 (l0 x), .int .u64 (l1 x), .int .u64 (l2 x), .int .u64 (l3 x), .int .u64 (l0 y), .int .u64 (l1 y), .int .u64 (l2 y), .int .u64 (l3 y), .bool i]) (.agg #[.int .u64 (l0 x), .int .u64 (l1 x), .int .u64 (l2 x), .int .u64 (l3 x), .int .u64 (l0 y), .int .u64 (l1 y), .int .u64 (l2 y), .int .u64 (l3 y), .bool i])).run Tryd.prog w = .ok true w) (Eu : ∀ w, (Op.equalIn 10000 26 (.agg #[.int .u64 (l0 xu), .int .u64 (l1 xu), .int .u64 (l2 xu), .int .u64 (l3 xu), .int .u64 (l0 yu), .int .u64 (l1 yu), .int .u64 (l2 yu), .int .u64 (l3 yu), .bool iu]) (.agg #[.int .u64 (l0 xu), .int .u64 (l1 xu), .int .u64 (l2 xu), .int .u64 (l3 xu), .int .u64 (l0 yu), .int .u64 (l1 yu), .int .u64 (l2 yu), .int .u64 (l3 yu), .bool iu])).run Tryd.prog w = .ok true w) (w : World) (hm : Mds w) (hg : Gat w) :
    Calls Tryd.prog 3 #[.agg #[.int .u64 (l0 x), .int .u64 (l1 x), .int .u64 (l2 x), .int .u64 (l3 x), .int .u64 (l0 y), .int .u64 (l1 y), .int .u64 (l2 y), .int .u64 (l3 y), .bool i], .agg #[.int .u64 (l0 x2), .int .u64 (l1 x2), .int .u64 (l2 x2), .int .u64 (l3 x2), .int .u64 (l0 y2), .int .u64 (l1 y2), .int .u64 (l2 y2), .int .u64 (l3 y2), .bool i2], .agg #[.int .u64 (l0 x3), .int .u64 (l1 x3), .int .u64 (l2 x3), .int .u64 (l3 x3), .int .u64 (l0 y3), .int .u64 (l1 y3), .int .u64 (l2 y3), .int .u64 (l3 y3), .bool i3]] w fun e w' => e = .returned (.bool true) ∧ Below w.heap.size w w' := by
  go_enter Tryd.func3, Tryd.ntmps3
  go_wp2_with fail
  refine calls_world (fun W => Below w.heap.size w W ∧ Mds W ∧ Gat W ∧ Pnt W w.heap.size x y i ∧ Pnt W (w.heap.size + 1) x2 y2 i2 ∧ Pnt W (w.heap.size + 1 + 1) x3 y3 i3) ⟨by repeat (first | with_reducible exact Below.refl _ _ | with_reducible refine Below.alloc ?_ (by first | omega | (simp; done) | (simp; omega)) _), ((hm.alloc _).alloc _).alloc _, ((hg.alloc _).alloc _).alloc _, ((Pnt.new rfl).alloc _).alloc _, (Pnt.new (by simp)).alloc _, Pnt.new (by simp)⟩ ?_
  rintro W ⟨B, hD, hG, hP, hQ, hR⟩
  generalize w.heap.size + 1 + 1 = br at *
  generalize w.heap.size + 1 = bq at *
  with_reducible refine (CB.out _ hD hG).mono ?_
  rintro e w1 ⟨rfl, hb⟩
  replace B := B.trans (hb.mono B.size)
  replace hD := hD.keep hb; replace hG := hG.keep hb; replace hP := hP.keep hb; replace hQ := hQ.keep hb; replace hR := hR.keep hb
  clear hb W
  have ghP := hP.cells
  go_wp2_with fail
  refine calls_world (fun W => Below w.heap.size w W ∧ Mds W ∧ Gat W ∧ Pnt W w.heap.size x y i ∧ Pnt W bq x2 y2 i2 ∧ Pnt W br x3 y3 i3) ⟨B, hD, hG, hP, hQ, hR⟩ ?_
  clear B hD hG hP hQ hR ghP
  rintro W ⟨B, hD, hG, hP, hQ, hR⟩
  clear hG
  with_reducible refine (C0.out _ hD).mono ?_
  rintro e w2 ⟨rfl, hb⟩
  replace B := B.trans (hb.mono B.size)
  replace hD := hD.keep hb; replace hP := hP.keep hb; replace hQ := hQ.keep hb; replace hR := hR.keep hb
  clear hb W
  have ghQ := hQ.cells
  go_wp2_with fail
  refine calls_world (fun W => Below w.heap.size w W ∧ Mds W ∧ Pnt W w.heap.size x y i ∧ Pnt W bq x2 y2 i2 ∧ Pnt W br x3 y3 i3) ⟨B, hD, hP, hQ, hR⟩ ?_
  clear B hD hP hQ hR ghQ
  rintro W ⟨B, hD, hP, hQ, hR⟩
  with_reducible refine (C1.out _ hD).mono ?_
  rintro e w3 ⟨rfl, hb⟩
  replace B := B.trans (hb.mono B.size)
  replace hD := hD.keep hb; replace hP := hP.keep hb; replace hQ := hQ.keep hb; replace hR := hR.keep hb
  clear hb W
  have ghR := hR.cells
  go_wp2_with fail
  refine calls_world (fun W => Below w.heap.size w W ∧ Mds W ∧ Pnt W w.heap.size x y i ∧ Pnt W bq x2 y2 i2 ∧ Pnt W br x3 y3 i3) ⟨B, hD, hP, hQ, hR⟩ ?_
  clear B hD hP hQ hR ghR
  rintro W ⟨B, hD, hP, hQ, hR⟩
  with_reducible refine (C2.out _ hD).mono ?_
  rintro e w4 ⟨rfl, hb⟩
  replace B := B.trans (hb.mono B.size)
  replace hD := hD.keep hb; replace hP := hP.keep hb; replace hQ := hQ.keep hb; replace hR := hR.keep hb
  clear hb W
  have ghP := hP.cells
  have ghQ := hQ.cells
  go_wp2_with fail
  refine calls_world (fun W => Below w.heap.size w W ∧ Mds W ∧ Pnt W w.heap.size x y i ∧ Pnt W bq x2 y2 i2 ∧ Pnt W br x3 y3 i3) ⟨B, hD, hP, hQ, hR⟩ ?_
  clear B hD hP hQ hR ghP ghQ
  rintro W ⟨B, hD, hP, hQ, hR⟩
  with_reducible refine (L1.out _ hD).mono ?_
  rintro e w5 ⟨rfl, hb⟩
  replace B := B.trans (hb.mono B.size)
  replace hD := hD.keep hb; replace hP := hP.keep hb; replace hQ := hQ.keep hb; replace hR := hR.keep hb
  clear hb W
  have ghP := fun o => (hP.alloc o).cells
  have ghQ := fun o => (hQ.alloc o).cells
  go_wp2_with fail
  refine calls_world (fun W => Below w.heap.size w W ∧ Mds W ∧ Pnt W w.heap.size x y i ∧ Pnt W bq x2 y2 i2 ∧ Pnt W br x3 y3 i3 ∧ Pnt W w5.heap.size xa ya ia) ⟨B.alloc B.size _, hD.alloc _, hP.alloc _, hQ.alloc _, hR.alloc _, Pnt.new rfl⟩ ?_
  clear B hD hP hQ hR ghP ghQ
  rintro W ⟨B, hD, hP, hQ, hR, hA⟩
  generalize w5.heap.size = ba at *
  with_reducible refine (L2.out _ hD).mono ?_
  rintro e w6 ⟨rfl, hb⟩
  replace B := B.trans (hb.mono B.size)
  replace hD := hD.keep hb; replace hP := hP.keep hb; replace hQ := hQ.keep hb; replace hR := hR.keep hb; replace hA := hA.keep hb
  clear hb W
  have ghA := fun o => (hA.alloc o).cells
  have ghR := fun o => (hR.alloc o).cells
  go_wp2_with fail
  refine calls_world (fun W => Below w.heap.size w W ∧ Mds W ∧ Pnt W w.heap.size x y i ∧ Pnt W bq x2 y2 i2 ∧ Pnt W br x3 y3 i3 ∧ Pnt W ba xa ya ia ∧ Pnt W w6.heap.size xa ya ia) ⟨B.alloc B.size _, hD.alloc _, hP.alloc _, hQ.alloc _, hR.alloc _, hA.alloc _, Pnt.new rfl⟩ ?_
  clear B hD hP hQ hR hA ghA ghR
  rintro W ⟨B, hD, hP, hQ, hR, hA, hB⟩
  generalize w6.heap.size = bb at *
  with_reducible refine (L3.out _ hD).mono ?_
  rintro e w7 ⟨rfl, hb⟩
  replace B := B.trans (hb.mono B.size)
  replace hD := hD.keep hb; replace hP := hP.keep hb; replace hQ := hQ.keep hb; replace hR := hR.keep hb; replace hA := hA.keep hb; replace hB := hB.keep hb
  clear hb W
  have ghQ := fun o => (hQ.alloc o).cells
  have ghR := fun o => (hR.alloc o).cells
  go_wp2_with fail
  refine calls_world (fun W => Below w.heap.size w W ∧ Mds W ∧ Pnt W w.heap.size x y i ∧ Pnt W bq x2 y2 i2 ∧ Pnt W br x3 y3 i3 ∧ Pnt W ba xa ya ia ∧ Pnt W bb xa ya ia ∧ Pnt W w7.heap.size xc yc ic) ⟨B.alloc B.size _, hD.alloc _, hP.alloc _, hQ.alloc _, hR.alloc _, hA.alloc _, hB.alloc _, Pnt.new rfl⟩ ?_
  clear B hD hP hQ hR hA hB ghQ ghR
  rintro W ⟨B, hD, hP, hQ, hR, hA, hB, hC⟩
  generalize w7.heap.size = bc at *
  with_reducible refine (L4.out _ hD).mono ?_
  rintro e w8 ⟨rfl, hb⟩
  replace B := B.trans (hb.mono B.size)
  replace hD := hD.keep hb; replace hP := hP.keep hb; replace hQ := hQ.keep hb; replace hR := hR.keep hb; replace hA := hA.keep hb; replace hB := hB.keep hb; replace hC := hC.keep hb
  clear hb W
  have ghP := fun o => (hP.alloc o).cells
  go_wp2_with fail
  refine calls_world (fun W => Below w.heap.size w W ∧ Mds W ∧ Pnt W w.heap.size x y i ∧ Pnt W bq x2 y2 i2 ∧ Pnt W br x3 y3 i3 ∧ Pnt W ba xa ya ia ∧ Pnt W bb xa ya ia ∧ Pnt W bc xc yc ic ∧ Pnt W w8.heap.size xd yd id) ⟨B.alloc B.size _, hD.alloc _, hP.alloc _, hQ.alloc _, hR.alloc _, hA.alloc _, hB.alloc _, hC.alloc _, Pnt.new rfl⟩ ?_
  clear B hD hP hQ hR hA hB hC ghP
  rintro W ⟨B, hD, hP, hQ, hR, hA, hB, hC, hd⟩
  generalize w8.heap.size = bd at *
  with_reducible refine (L5.out _ hD).mono ?_
  rintro e w9 ⟨rfl, hb⟩
  replace B := B.trans (hb.mono B.size)
  replace hD := hD.keep hb; replace hP := hP.keep hb; replace hQ := hQ.keep hb; replace hR := hR.keep hb; replace hA := hA.keep hb; replace hB := hB.keep hb; replace hC := hC.keep hb; replace hd := hd.keep hb
  clear hb W
  have ghA := fun o => (hA.alloc o).cells
  have ghB := fun o => (hB.alloc o).cells
  have ghC := fun o => (hC.alloc o).cells
  have ghP := fun o => (hP.alloc o).cells
  go_wp2_with fail
  refine calls_world (fun W => Below w.heap.size w W ∧ Mds W ∧ Pnt W w.heap.size x y i ∧ Pnt W bq x2 y2 i2 ∧ Pnt W br x3 y3 i3 ∧ Pnt W ba xa ya ia ∧ Pnt W bb xa ya ia ∧ Pnt W bc xc yc ic ∧ Pnt W bd xd yd id ∧ Pnt W w9.heap.size xc yc ic) ⟨B.alloc B.size _, hD.alloc _, hP.alloc _, hQ.alloc _, hR.alloc _, hA.alloc _, hB.alloc _, hC.alloc _, hd.alloc _, Pnt.new rfl⟩ ?_
  clear B hD hP hQ hR hA hB hC hd ghA ghB ghC ghP
  rintro W ⟨B, hD, hP, hQ, hR, hA, hB, hC, hd, he⟩
  generalize w9.heap.size = be at *
  clear hA hB hd he
  with_reducible refine (N.out _ hD).mono ?_
  rintro e w10 ⟨rfl, hb⟩
  replace B := B.trans (hb.mono B.size)
  replace hD := hD.keep hb; replace hP := hP.keep hb; replace hQ := hQ.keep hb; replace hR := hR.keep hb; replace hC := hC.keep hb
  clear hb W
  have ghP := fun o => (hP.alloc o).cells
  go_wp2_with fail
  refine calls_world (fun W => Below w.heap.size w W ∧ Mds W ∧ Pnt W w.heap.size x y i ∧ Pnt W bq x2 y2 i2 ∧ Pnt W br x3 y3 i3 ∧ Pnt W bc xc yc ic ∧ Pnt W w10.heap.size xn yn ii) ⟨B.alloc B.size _, hD.alloc _, hP.alloc _, hQ.alloc _, hR.alloc _, hC.alloc _, Pnt.new rfl⟩ ?_
  clear B hD hP hQ hR hC ghP
  rintro W ⟨B, hD, hP, hQ, hR, hC, hN⟩
  generalize w10.heap.size = bn at *
  with_reducible refine (L6.out _ hD).mono ?_
  rintro e w11 ⟨rfl, hb⟩
  replace B := B.trans (hb.mono B.size)
  replace hD := hD.keep hb; replace hP := hP.keep hb; replace hQ := hQ.keep hb; replace hR := hR.keep hb; replace hC := hC.keep hb; replace hN := hN.keep hb
  clear hb W
  go_wp2_with fail
  refine wp_world (fun W => Below w.heap.size w W ∧ Mds W ∧ Pnt W w.heap.size x y i ∧ Pnt W bq x2 y2 i2 ∧ Pnt W br x3 y3 i3 ∧ Pnt W bc xc yc ic ∧ Pnt W bn xn yn ii ∧ Pnt W w11.heap.size ox oy oi) ⟨B.alloc B.size _, hD.alloc _, hP.alloc _, hQ.alloc _, hR.alloc _, hC.alloc _, hN.alloc _, Pnt.new rfl⟩ ?_
  clear B hD hP hQ hR hC hN 
  rintro W ⟨B, hD, hP, hQ, hR, hC, hN, hO⟩
  generalize w11.heap.size = bo at *
  clear hN
  refine put_tail (A := ?AA1) 6 (fun V k => put9 V k x y i) (by kernel_rfl) (by kernel_rfl) rfl rfl rfl (alloc_pt _ _ _) (fun V V0 h0 h1 => below_put9 (alloc_below h0 h1) h0.size) (fun V hV => ?HH1) (fun V V0 h0 h1 => ?EE1) (fun V0 V w1 h0 h1 h2 => ?TT1)
  case HH1 =>
    have hDg : ∀ d os, Mds (grow (redrawn V d) os) := fun d os => (hD.keep hV).keep (below_regrown V d os)
    have ghP := (hP.keep hV).grown
    unfold Gr
    simp only [List.take_succ_cons, List.take_zero]
    repeat
      first
        | go_big_quiet_skip
        | (go_big_quiet_want; go_big_quiet_op; go_big_quiet_on)
        | (go_big_quiet_want
           go_big_quiet_op
           apply Exists.intro
           refine ⟨fun p => ?_, ?_⟩
           · (first | (go_at_call 13; with_reducible exact Calls.regrown_of (CZ.out _)) | (go_at_call 11; with_reducible exact Calls.regrown_of (L7.out _ (hDg p.d p.os))))
           go_big_quiet_on)
    refine wpQuiet_nil ?_
    exact rfl
  case EE1 =>
    obtain ⟨c0, c1, c2, c3, c4, c5, c6, c7, c8⟩ := ((Bk9.new rfl).keep h1).cells
    obtain ⟨f0, f1, f2, f3, f4, f5, f6, f7, f8⟩ := ((Bk9.new rfl).keep h1).free
    unfold put9
    simp [execOp, Act.put, Act.eval, go_sem, c0, c1, c2, c3, c4, c5, c6, c7, c8, f0, f1, f2, f3, f4, f5, f6, f7, f8]
  case TT1 =>
    have hN := (((Bk9.new rfl).keep h1).put9 x y i).keep h2
    have hb := alloc_below h0 h1
    have nhD : V0.heap.size ≠ 1 := Nat.ne_of_gt (Nat.lt_of_lt_of_le hD.lt h0.size)
    have nhP : V0.heap.size ≠ w.heap.size := Nat.ne_of_gt (Nat.lt_of_lt_of_le hP.lt h0.size)
    have nhQ : V0.heap.size ≠ bq := Nat.ne_of_gt (Nat.lt_of_lt_of_le hQ.lt h0.size)
    have nhR : V0.heap.size ≠ br := Nat.ne_of_gt (Nat.lt_of_lt_of_le hR.lt h0.size)
    have nhC : V0.heap.size ≠ bc := Nat.ne_of_gt (Nat.lt_of_lt_of_le hC.lt h0.size)
    have nhO : V0.heap.size ≠ bo := Nat.ne_of_gt (Nat.lt_of_lt_of_le hO.lt h0.size)
    have gn : w.heap.size ≤ V0.heap.size := Nat.le_trans B.size h0.size
    have B1 := below_put9 (x' := x) (y' := y) (j := i) (B.trans (hb.mono B.size)) gn
    replace B := B1.trans (h2.mono B1.size)
    replace hD := ((hD.keep hb).put9 nhD).keep h2
    replace hP := ((hP.keep hb).put9 nhP).keep h2
    replace hQ := ((hQ.keep hb).put9 nhQ).keep h2
    replace hR := ((hR.keep hb).put9 nhR).keep h2
    replace hC := ((hC.keep hb).put9 nhC).keep h2
    replace hO := ((hO.keep hb).put9 nhO).keep h2
    clear hb h0 h1 h2 B1 W gn nhD nhP nhQ nhR nhC nhO
    generalize V0.heap.size = bz at *
    clear V V0
    have ghP := hP.cells
    have ghQ := hQ.cells
    have ghR := hR.cells
    simp only [List.drop_succ_cons, List.drop_zero, Act.put, List.setIfInBounds_toArray, List.set_cons_zero, List.set_cons_succ]
    go_wp2_with fail
    refine calls_world (fun W => Below w.heap.size w W ∧ Mds W ∧ Pnt W w.heap.size x y i ∧ Pnt W bq x2 y2 i2 ∧ Pnt W br x3 y3 i3 ∧ Pnt W bc xc yc ic ∧ Pnt W bo ox oy oi ∧ Pnt W bz x y i ∧ Pts W w1.heap.size 0 [⟨x, y, i⟩, ⟨x2, y2, i2⟩, ⟨x3, y3, i3⟩]) ⟨B.alloc B.size _, hD.alloc _, hP.alloc _, hQ.alloc _, hR.alloc _, hC.alloc _, hO.alloc _, hN.alloc _, pts3 (Cl.new _ (by simp) rfl)⟩ ?_
    clear B hN hD hP hQ hR hC hO ghP ghQ ghR
    rintro W ⟨B, hD, hP, hQ, hR, hC, hO, hZ, hI⟩
    generalize w1.heap.size = bl at *
    clear w1
    with_reducible refine (CS.out _ _ hD hI (ptl hI)).mono ?_
    rintro e w21 ⟨rfl, hb⟩
    replace B := B.trans (hb.mono B.size)
    replace hD := hD.keep hb; replace hP := hP.keep hb; replace hQ := hQ.keep hb; replace hR := hR.keep hb; replace hC := hC.keep hb; replace hO := hO.keep hb; replace hZ := hZ.keep hb; replace hI := hI.keep hb
    clear hb W
    have ghP := fun o => (hP.alloc o).cells
    go_wp2_with fail
    refine calls_world (fun W => Below w.heap.size w W ∧ Mds W ∧ Pnt W w.heap.size x y i ∧ Pnt W bq x2 y2 i2 ∧ Pnt W br x3 y3 i3 ∧ Pnt W bc xc yc ic ∧ Pnt W bo ox oy oi ∧ Pnt W bz x y i ∧ Pts W bl 0 [⟨x, y, i⟩, ⟨x2, y2, i2⟩, ⟨x3, y3, i3⟩] ∧ Pnt W w21.heap.size xc yc ic) ⟨B.alloc B.size _, hD.alloc _, hP.alloc _, hQ.alloc _, hR.alloc _, hC.alloc _, hO.alloc _, hZ.alloc _, hI.alloc _, Pnt.new rfl⟩ ?_
    clear B hD hP hQ hR hC hO hZ hI ghP
    rintro W ⟨B, hD, hP, hQ, hR, hC, hO, hZ, hI, hT⟩
    generalize w21.heap.size = bt at *
    clear hI
    with_reducible refine (CD.out _ hD).mono ?_
    rintro e w22 ⟨rfl, hb⟩
    replace B := B.trans (hb.mono B.size)
    replace hD := hD.keep hb; replace hP := hP.keep hb; replace hQ := hQ.keep hb; replace hR := hR.keep hb; replace hC := hC.keep hb; replace hO := hO.keep hb; replace hZ := hZ.keep hb; replace hT := hT.keep hb
    clear hb W
    have ghP := fun o => (hP.alloc o).cells
    go_wp2_with fail
    refine calls_world (fun W => Below w.heap.size w W ∧ Mds W ∧ Pnt W w.heap.size x y i ∧ Pnt W bq x2 y2 i2 ∧ Pnt W br x3 y3 i3 ∧ Pnt W bc xc yc ic ∧ Pnt W bo ox oy oi ∧ Pnt W bz x y i ∧ Pnt W bt xc yc ic ∧ Pnt W w22.heap.size xu yu iu) ⟨B.alloc B.size _, hD.alloc _, hP.alloc _, hQ.alloc _, hR.alloc _, hC.alloc _, hO.alloc _, hZ.alloc _, hT.alloc _, Pnt.new rfl⟩ ?_
    clear B hD hP hQ hR hC hO hZ hT ghP
    rintro W ⟨B, hD, hP, hQ, hR, hC, hO, hZ, hT, hU⟩
    generalize w22.heap.size = bu at *
    with_reducible refine (L8.out _ hD).mono ?_
    rintro e w23 ⟨rfl, hb⟩
    replace B := B.trans (hb.mono B.size)
    replace hD := hD.keep hb; replace hP := hP.keep hb; replace hQ := hQ.keep hb; replace hR := hR.keep hb; replace hC := hC.keep hb; replace hO := hO.keep hb; replace hZ := hZ.keep hb; replace hT := hT.keep hb; replace hU := hU.keep hb
    clear hb W
    go_wp2_with fail
    refine calls_world (fun W => Below w.heap.size w W ∧ Mds W ∧ Pnt W w.heap.size x y i ∧ Pnt W bq x2 y2 i2 ∧ Pnt W br x3 y3 i3 ∧ Pnt W bc xc yc ic ∧ Pnt W bo ox oy oi ∧ Pnt W bz x y i ∧ Pnt W bt xc yc ic ∧ Pnt W bu xu yu iu ∧ Pnt W w23.heap.size xu yu iu) ⟨B.alloc B.size _, hD.alloc _, hP.alloc _, hQ.alloc _, hR.alloc _, hC.alloc _, hO.alloc _, hZ.alloc _, hT.alloc _, hU.alloc _, Pnt.new rfl⟩ ?_
    clear B hD hP hQ hR hC hO hZ hT hU 
    rintro W ⟨B, hD, hP, hQ, hR, hC, hO, hZ, hT, hU, hV⟩
    generalize w23.heap.size = bv at *
    with_reducible refine (CN.out _).mono ?_
    rintro e w24 ⟨rfl, hb⟩
    replace B := B.trans (hb.mono B.size)
    replace hD := hD.keep hb; replace hP := hP.keep hb; replace hQ := hQ.keep hb; replace hR := hR.keep hb; replace hC := hC.keep hb; replace hO := hO.keep hb; replace hZ := hZ.keep hb; replace hT := hT.keep hb; replace hU := hU.keep hb; replace hV := hV.keep hb
    clear hb W
    go_wp2_with fail
    refine calls_world (fun W => Below w.heap.size w W ∧ Mds W ∧ Pnt W w.heap.size x y i ∧ Pnt W bq x2 y2 i2 ∧ Pnt W br x3 y3 i3 ∧ Pnt W bc xc yc ic ∧ Pnt W bo ox oy oi ∧ Pnt W bz x y i ∧ Pnt W bt xc yc ic ∧ Pnt W bu xu yu iu ∧ Pnt W bv xu yu iu) ⟨B, hD, hP, hQ, hR, hC, hO, hZ, hT, hU, hV⟩ ?_
    clear B hD hP hQ hR hC hO hZ hT hU hV 
    rintro W ⟨B, hD, hP, hQ, hR, hC, hO, hZ, hT, hU, hV⟩
    with_reducible refine (CN.out _).mono ?_
    rintro e w25 ⟨rfl, hb⟩
    replace B := B.trans (hb.mono B.size)
    replace hD := hD.keep hb; replace hP := hP.keep hb; replace hQ := hQ.keep hb; replace hR := hR.keep hb; replace hC := hC.keep hb; replace hO := hO.keep hb; replace hZ := hZ.keep hb; replace hT := hT.keep hb; replace hU := hU.keep hb; replace hV := hV.keep hb
    clear hb W
    go_wp2_with fail
    refine calls_world (fun W => Below w.heap.size w W ∧ Mds W ∧ Pnt W w.heap.size x y i ∧ Pnt W bq x2 y2 i2 ∧ Pnt W br x3 y3 i3 ∧ Pnt W bc xc yc ic ∧ Pnt W bo ox oy oi ∧ Pnt W bz x y i ∧ Pnt W bt xc yc ic ∧ Pnt W bu xu yu iu ∧ Pnt W bv xu yu iu) ⟨B, hD, hP, hQ, hR, hC, hO, hZ, hT, hU, hV⟩ ?_
    clear B hD hP hQ hR hC hO hZ hT hU hV 
    rintro W ⟨B, hD, hP, hQ, hR, hC, hO, hZ, hT, hU, hV⟩
    with_reducible refine (CN.out _).mono ?_
    rintro e w26 ⟨rfl, hb⟩
    replace B := B.trans (hb.mono B.size)
    replace hD := hD.keep hb; replace hP := hP.keep hb; replace hQ := hQ.keep hb; replace hR := hR.keep hb; replace hC := hC.keep hb; replace hO := hO.keep hb; replace hZ := hZ.keep hb; replace hT := hT.keep hb; replace hU := hU.keep hb; replace hV := hV.keep hb
    clear hb W
    go_wp2_with fail
    refine wp_world (fun W => Below w.heap.size w W ∧ Mds W ∧ Pnt W w.heap.size x y i ∧ Pnt W bq x2 y2 i2 ∧ Pnt W br x3 y3 i3 ∧ Pnt W bc xc yc ic ∧ Pnt W bo ox oy oi ∧ Pnt W bz x y i ∧ Pnt W bt xc yc ic ∧ Pnt W bu xu yu iu ∧ Pnt W bv xu yu iu) ⟨B, hD, hP, hQ, hR, hC, hO, hZ, hT, hU, hV⟩ ?_
    clear B hD hP hQ hR hC hO hZ hT hU hV 
    rintro W ⟨B, hD, hP, hQ, hR, hC, hO, hZ, hT, hU, hV⟩
    have ghO := hO.grown
    have ghZ := hZ.grown
    have ghP := hP.grown
    have ghT := hT.grown
    have ghC := hC.grown
    have ghU := hU.grown
    have ghV := hV.grown
    have hDg : ∀ d os, Mds (grow (redrawn W d) os) := fun d os => hD.keep (below_regrown W d os)
    refine wp_region_quiet_below (by kernel_rfl) (by kernel_rfl) ?_
    repeat
      first
        | go_big_quiet_skip
        | (go_big_quiet_want; go_big_quiet_op; go_big_quiet_on)
        | (go_big_quiet_want
           go_big_quiet_op
           apply Exists.intro
           refine ⟨fun p => ?_, ?_⟩
           · (first | (go_at_call 13; with_reducible exact Calls.regrown_of (CZ.out _)))
           go_big_quiet_on)
    refine wpQuiet_nil ?_
    rintro w27 ⟨p, rfl⟩
    have hb := below_regrown W p.d p.os
    generalize grow (redrawn W p.d) p.os = w27 at *
    replace B := B.trans (hb.mono B.size)
    replace hD := hD.keep hb; replace hP := hP.keep hb; replace hQ := hQ.keep hb; replace hR := hR.keep hb; replace hC := hC.keep hb; replace hO := hO.keep hb; replace hZ := hZ.keep hb; replace hT := hT.keep hb; replace hU := hU.keep hb; replace hV := hV.keep hb
    clear hb W ghO ghZ ghP ghT ghC ghU ghV hDg
    go_wp2
    simp [bodyPost, results, Tryd.results3, go_sem]
    exact B

theorem cgroup_any {x y x2 y2 x3 y3 : Int} {i i2 i3 : Bool} (hx : Num x) (hy : Num y) (hx2 : Num x2) (hy2 : Num y2) (hx3 : Num x3) (hy3 : Num y3) (w : World) (hm : Mds w) (hc : Cols w) :
    Calls Tryd.prog 3 #[.agg #[.int .u64 (l0 x), .int .u64 (l1 x), .int .u64 (l2 x), .int .u64 (l3 x), .int .u64 (l0 y), .int .u64 (l1 y), .int .u64 (l2 y), .int .u64 (l3 y), .bool i], .agg #[.int .u64 (l0 x2), .int .u64 (l1 x2), .int .u64 (l2 x2), .int .u64 (l3 x2), .int .u64 (l0 y2), .int .u64 (l1 y2), .int .u64 (l2 y2), .int .u64 (l3 y2), .bool i2], .agg #[.int .u64 (l0 x3), .int .u64 (l1 x3), .int .u64 (l2 x3), .int .u64 (l3 x3), .int .u64 (l0 y3), .int .u64 (l1 y3), .int .u64 (l2 y3), .int .u64 (l3 y3), .bool i3]] w fun e w' => e = .returned (.bool true) ∧ Below w.heap.size w w' := by
  have hg := hc.gat
  have CB : Hid (∀ w, Mds w → Gat w → Calls Tryd.prog 9 #[] w fun e w' => e = .returned (.bool true) ∧ Below w.heap.size w w') := fun w hm hg => lbase_any w hm hg
  by_cases hp : Vd x y i
  · by_cases hq : Vd x2 y2 i2
    · by_cases hr : Vd x3 y3 i3
      · obtain ⟨xa, ya, ia, ha, ea⟩ := rep_pt (EC.Pt.on hp.on hq.on)
        obtain ⟨xc, yc, ic, hcc, ec⟩ := rep_pt (EC.Pt.on ha.on hr.on)
        obtain ⟨xd, yd, id, hd, ed⟩ := rep_pt (EC.Pt.on hq.on hr.on)
        obtain ⟨xu, yu, iu, hu, eu⟩ := rep_pt (EC.Pt.on hp.on hp.on)
        obtain ⟨hn, en, CN⟩ := cneg_any hp
        have ho : Vd 0 0 true := ⟨rfl, rfl⟩
        have e2 : ptOf xa ya ia = (ptOf x2 y2 i2).add (ptOf x y i) := by rw [ea, EC.Pt.comm hp.on hq.on]
        have e5 : ptOf xc yc ic = (ptOf x y i).add (ptOf xd yd id) := by rw [ec, ea, ed, EC.Pt.assoc hp.on hq.on hr.on]
        have e6 : ptOf 0 0 true = (ptOf x y i).add (ptOf x (modN pN (0 - y)) i) := by rw [en]; exact (EC.add_neg _).symm
        have e9 : ptOf xc yc ic = sumP [⟨x, y, i⟩, ⟨x2, y2, i2⟩, ⟨x3, y3, i3⟩] 3 := by rw [ec, ea]; rfl
        exact cgroup_walk CB (con_yes hp) (con_yes hq) (con_yes hr) (fun w hm => lplus_any hp hq ha ea w hm) (fun w hm => lplus_any hq hp ha e2 w hm) (fun w hm => lplus_any ha hr hcc ec w hm)
          (fun w hm => lplus_any hq hr hd ed w hm) (fun w hm => lplus_any hp hd hcc e5 w hm) CN (fun w hm => lplus_any hp hn ho e6 w hm) (fun w => lzero_any w) (fun w hm => lplus_any ho hp hp rfl w hm)
          (fun w b hm hI hb => csum_any (L := [⟨x, y, i⟩, ⟨x2, y2, i2⟩, ⟨x3, y3, i3⟩]) (by simp) (fun k hk => by
            have hk' : k = 0 ∨ k = 1 ∨ k = 2 := by simp at hk; omega
            rcases hk' with rfl | rfl | rfl
            · exact hp
            · exact hq
            · exact hr) hcc e9 (.inr rfl) w hm hI hb)
          (fun w hm => cdouble_any hp hu eu w hm) (fun w hm => lplus_any hp hp hu eu w hm) (fun w => lwnum_any 0 w) (eq_pt_self ha) (eq_pt_self hcc) (eq_pt_self ho) (eq_pt_self hp) (eq_pt_self hu) w hm hg
      · exact cgroup_bad2 CB (con_yes hp) (con_yes hq) (con_no hx3 hy3 hr) w hm hg
    · exact cgroup_bad1 CB (con_yes hp) (con_no hx2 hy2 hq) w hm hg
  · exact cgroup_bad0 CB (con_no hx hy hp) w hm hg
end Go.Proofs.YtjppjieidjodfaaDoor
