import Derived.Test.YtohdeeidhgkgiaaDoorCBkC
import Derived.Test.YtohdeeidhgkgiaaDoorCLaw
namespace Go.Proofs.YtohdeeidhgkgiaaDoor
open Go.RowKit Go.Sort

set_option maxRecDepth 100000 in
set_option maxHeartbeats 16000000 in
theorem cback_off {x y : Int} {i : Bool} (BS : Hid (∀ w, Mds w → Cols w → Calls Tryd.prog 4 #[] w fun e w' => e = .returned (.bool true) ∧ Below w.heap.size w w')) (ON : Hid (∀ w, Mds w → Calls Tryd.prog 5 #[.agg #[.int .u64 (l0 x), .int .u64 (l1 x), .int .u64 (l2 x), .int .u64 (l3 x), .int .u64 (l0 y), .int .u64 (l1 y), .int .u64 (l2 y), .int .u64 (l3 y), .bool i]] w fun e w' => e = .returned (.bool false) ∧ Below w.heap.size w w')) (w : World) (hm : Mds w) (hc : Cols w) :
    Calls Tryd.prog 3 #[.agg #[.int .u64 (l0 x), .int .u64 (l1 x), .int .u64 (l2 x), .int .u64 (l3 x), .int .u64 (l0 y), .int .u64 (l1 y), .int .u64 (l2 y), .int .u64 (l3 y), .bool i]] w fun e w' => e = .returned (.bool true) ∧ Below w.heap.size w w' := by
  go_enter Tryd.func3, Tryd.ntmps3
  go_wp2_with fail
  refine calls_world (fun W => Below w.heap.size w W ∧ Mds W ∧ Cols W ∧ Pnt W w.heap.size x y i) ⟨by repeat (first | with_reducible exact Below.refl _ _ | with_reducible refine Below.alloc ?_ (by first | omega | (simp; done) | (simp; omega)) _), hm.alloc _, Cols.alloc hc _, Pnt.new rfl⟩ ?_
  rintro W ⟨B, hD, hO, hP⟩
  with_reducible refine (BS.out _ hD hO).mono ?_
  rintro e w1 ⟨rfl, hb⟩
  replace B := B.trans (hb.mono B.size)
  replace hD := hD.keep hb; replace hO := hO.keep hb; replace hP := hP.keep hb
  clear hb W
  have ghP := hP.cells
  go_wp2_with fail
  refine calls_world (fun W => Below w.heap.size w W ∧ Mds W ∧ Cols W ∧ Pnt W w.heap.size x y i) ⟨B, hD, hO, hP⟩ ?_
  clear B hD hO hP ghP
  rintro W ⟨B, hD, hO, hP⟩
  with_reducible refine (ON.out _ hD).mono ?_
  rintro e w9 ⟨rfl, hb⟩
  replace B := B.trans (hb.mono B.size)
  replace hD := hD.keep hb; replace hO := hO.keep hb; replace hP := hP.keep hb
  clear hb W
  have gP := hP.cells
  go_wp2
  simp [bodyPost, results, Tryd.results3, go_sem]
  exact B

set_option maxRecDepth 100000 in
set_option maxHeartbeats 16000000 in
theorem cback_id {x y : Int} (BS : Hid (∀ w, Mds w → Cols w → Calls Tryd.prog 4 #[] w fun e w' => e = .returned (.bool true) ∧ Below w.heap.size w w')) (ON : Hid (∀ w, Mds w → Calls Tryd.prog 5 #[.agg #[.int .u64 (l0 x), .int .u64 (l1 x), .int .u64 (l2 x), .int .u64 (l3 x), .int .u64 (l0 y), .int .u64 (l1 y), .int .u64 (l2 y), .int .u64 (l3 y), .bool true]] w fun e w' => e = .returned (.bool true) ∧ Below w.heap.size w w')) (w : World) (hm : Mds w) (hc : Cols w) :
    Calls Tryd.prog 3 #[.agg #[.int .u64 (l0 x), .int .u64 (l1 x), .int .u64 (l2 x), .int .u64 (l3 x), .int .u64 (l0 y), .int .u64 (l1 y), .int .u64 (l2 y), .int .u64 (l3 y), .bool true]] w fun e w' => e = .returned (.bool true) ∧ Below w.heap.size w w' := by
  go_enter Tryd.func3, Tryd.ntmps3
  go_wp2_with fail
  refine calls_world (fun W => Below w.heap.size w W ∧ Mds W ∧ Cols W ∧ Pnt W w.heap.size x y true) ⟨by repeat (first | with_reducible exact Below.refl _ _ | with_reducible refine Below.alloc ?_ (by first | omega | (simp; done) | (simp; omega)) _), hm.alloc _, Cols.alloc hc _, Pnt.new rfl⟩ ?_
  rintro W ⟨B, hD, hO, hP⟩
  with_reducible refine (BS.out _ hD hO).mono ?_
  rintro e w1 ⟨rfl, hb⟩
  replace B := B.trans (hb.mono B.size)
  replace hD := hD.keep hb; replace hO := hO.keep hb; replace hP := hP.keep hb
  clear hb W
  have ghP := hP.cells
  go_wp2_with fail
  refine calls_world (fun W => Below w.heap.size w W ∧ Mds W ∧ Cols W ∧ Pnt W w.heap.size x y true) ⟨B, hD, hO, hP⟩ ?_
  clear B hD hO hP ghP
  rintro W ⟨B, hD, hO, hP⟩
  with_reducible refine (ON.out _ hD).mono ?_
  rintro e w9 ⟨rfl, hb⟩
  replace B := B.trans (hb.mono B.size)
  replace hD := hD.keep hb; replace hO := hO.keep hb; replace hP := hP.keep hb
  clear hb W
  have gP := hP.cells
  go_wp2
  simp [bodyPost, results, Tryd.results3, go_sem]
  exact B

set_option maxRecDepth 100000 in
set_option maxHeartbeats 16000000 in
theorem cback_2 {x y z : Int} {L1 L2 : List Int} (BS : Hid (∀ w, Mds w → Cols w → Calls Tryd.prog 4 #[] w fun e w' => e = .returned (.bool true) ∧ Below w.heap.size w w')) (ON : Hid (∀ w, Mds w → Calls Tryd.prog 5 #[.agg #[.int .u64 (l0 x), .int .u64 (l1 x), .int .u64 (l2 x), .int .u64 (l3 x), .int .u64 (l0 y), .int .u64 (l1 y), .int .u64 (l2 y), .int .u64 (l3 y), .bool false]] w fun e w' => e = .returned (.bool true) ∧ Below w.heap.size w w')) (CM : Hid (∀ w, Mds w → Calls Tryd.prog 6 #[.agg #[.int .u64 (l0 x), .int .u64 (l1 x), .int .u64 (l2 x), .int .u64 (l3 x), .int .u64 (l0 y), .int .u64 (l1 y), .int .u64 (l2 y), .int .u64 (l3 y), .bool false]] w fun e w' => ∃ g cap, e = .returned (.tuple #[.slice (some ⟨g, 0, none⟩) 33 cap, .int .i64 0]) ∧ (Cb w' g 1 L1 ∧ Fb w' g 2) ∧ 33 ≤ cap ∧ Below w.heap.size w w')) (EX : Hid (∀ w, Mds w → Calls Tryd.prog 7 #[.agg #[.int .u64 (l0 x), .int .u64 (l1 x), .int .u64 (l2 x), .int .u64 (l3 x), .int .u64 (l0 y), .int .u64 (l1 y), .int .u64 (l2 y), .int .u64 (l3 y), .bool false]] w fun e w' => ∃ g cap, e = .returned (.tuple #[.slice (some ⟨g, 0, none⟩) 65 cap, .int .i64 0]) ∧ (Cb w' g 1 L1 ∧ Cb w' g 33 L2 ∧ Fb w' g 4) ∧ 65 ≤ cap ∧ Below w.heap.size w w')) (N0 : Hid (∀ w, Calls Tryd.prog 8 #[.int .i64 0] w fun e w' => e = .returned (.int .i64 0) ∧ Below w.heap.size w w')) (PA : Hid (∀ g cap w, 33 ≤ cap → Mds w → Cb w g 1 L1 → Fb w g 2 → Calls Tryd.prog 9 #[.slice (some ⟨g, 0, none⟩) 33 cap] w fun e w' => e = .returned (.tuple #[.agg #[.int .u64 (l0 x), .int .u64 (l1 x), .int .u64 (l2 x), .int .u64 (l3 x), .int .u64 (l0 y), .int .u64 (l1 y), .int .u64 (l2 y), .int .u64 (l3 y), .bool false], .int .i64 0]) ∧ Below w.heap.size w w')) (PB : Hid (∀ g cap w, 65 ≤ cap → Mds w → Cb w g 1 L1 → Cb w g 33 L2 → Fb w g 4 → Calls Tryd.prog 9 #[.slice (some ⟨g, 0, none⟩) 65 cap] w fun e w' => e = .returned (.tuple #[.agg #[.int .u64 (l0 x), .int .u64 (l1 x), .int .u64 (l2 x), .int .u64 (l3 x), .int .u64 (l0 y), .int .u64 (l1 y), .int .u64 (l2 y), .int .u64 (l3 y), .bool false], .int .i64 0]) ∧ Below w.heap.size w w')) (L1c : Hid (∀ w, Mds w → Calls Tryd.prog 10 #[.agg #[.int .u64 (l0 x), .int .u64 (l1 x), .int .u64 (l2 x), .int .u64 (l3 x)], .bool ((l0 y).tmod 2 == 1)] w fun e w' => e = .returned (.tuple #[.agg #[.int .u64 (l0 x), .int .u64 (l1 x), .int .u64 (l2 x), .int .u64 (l3 x), .int .u64 (l0 y), .int .u64 (l1 y), .int .u64 (l2 y), .int .u64 (l3 y), .bool false], .int .i64 0]) ∧ Below w.heap.size w w')) (L2c : Hid (∀ w, Mds w → Calls Tryd.prog 10 #[.agg #[.int .u64 (l0 x), .int .u64 (l1 x), .int .u64 (l2 x), .int .u64 (l3 x)], .bool (!((l0 y).tmod 2 == 1))] w fun e w' => e = .returned (.tuple #[.agg #[.int .u64 (l0 x), .int .u64 (l1 x), .int .u64 (l2 x), .int .u64 (l3 x), .int .u64 (l0 z), .int .u64 (l1 z), .int .u64 (l2 z), .int .u64 (l3 z), .bool false], .int .i64 0]) ∧ Below w.heap.size w w')) (NG : Hid (∀ w, Mds w → Calls Tryd.prog 11 #[.agg #[.int .u64 (l0 x), .int .u64 (l1 x), .int .u64 (l2 x), .int .u64 (l3 x), .int .u64 (l0 y), .int .u64 (l1 y), .int .u64 (l2 y), .int .u64 (l3 y), .bool false]] w fun e w' => e = .returned (.tuple #[.agg #[.int .u64 (l0 x), .int .u64 (l1 x), .int .u64 (l2 x), .int .u64 (l3 x), .int .u64 (l0 z), .int .u64 (l1 z), .int .u64 (l2 z), .int .u64 (l3 z), .bool false], .int .i64 0]) ∧ Below w.heap.size w w')) (E1 : ∀ w, (Op.equalIn 10000 26 (.agg #[.int .u64 (l0 x), .int .u64 (l1 x), .int .u64 (l2 x), .int .u64 (l3 x), .int .u64 (l0 y), .int .u64 (l1 y), .int .u64 (l2 y), .int .u64 (l3 y), .bool false]) (.agg #[.int .u64 (l0 x), .int .u64 (l1 x), .int .u64 (l2 x), .int .u64 (l3 x), .int .u64 (l0 y), .int .u64 (l1 y), .int .u64 (l2 y), .int .u64 (l3 y), .bool false])).run Tryd.prog w = .ok true w) (E2 : ∀ w, (Op.equalIn 10000 26 (.agg #[.int .u64 (l0 x), .int .u64 (l1 x), .int .u64 (l2 x), .int .u64 (l3 x), .int .u64 (l0 z), .int .u64 (l1 z), .int .u64 (l2 z), .int .u64 (l3 z), .bool false]) (.agg #[.int .u64 (l0 x), .int .u64 (l1 x), .int .u64 (l2 x), .int .u64 (l3 x), .int .u64 (l0 z), .int .u64 (l1 z), .int .u64 (l2 z), .int .u64 (l3 z), .bool false])).run Tryd.prog w = .ok true w) (E3 : ∀ w, (Op.equalIn 10000 26 (.agg #[.int .u64 (l0 x), .int .u64 (l1 x), .int .u64 (l2 x), .int .u64 (l3 x), .int .u64 (l0 z), .int .u64 (l1 z), .int .u64 (l2 z), .int .u64 (l3 z), .bool false]) (.agg #[.int .u64 (l0 x), .int .u64 (l1 x), .int .u64 (l2 x), .int .u64 (l3 x), .int .u64 (l0 y), .int .u64 (l1 y), .int .u64 (l2 y), .int .u64 (l3 y), .bool false])).run Tryd.prog w = .ok false w) (w : World) (hm : Mds w) (hc : Cols w) :
    Calls Tryd.prog 3 #[.agg #[.int .u64 (l0 x), .int .u64 (l1 x), .int .u64 (l2 x), .int .u64 (l3 x), .int .u64 (l0 y), .int .u64 (l1 y), .int .u64 (l2 y), .int .u64 (l3 y), .bool false]] w fun e w' => e = .returned (.bool true) ∧ Below w.heap.size w w' := by
  go_enter Tryd.func3, Tryd.ntmps3
  go_wp2_with fail
  refine calls_world (fun W => Below w.heap.size w W ∧ Mds W ∧ Cols W ∧ Pnt W w.heap.size x y false) ⟨by repeat (first | with_reducible exact Below.refl _ _ | with_reducible refine Below.alloc ?_ (by first | omega | (simp; done) | (simp; omega)) _), hm.alloc _, Cols.alloc hc _, Pnt.new rfl⟩ ?_
  rintro W ⟨B, hD, hO, hP⟩
  with_reducible refine (BS.out _ hD hO).mono ?_
  rintro e w1 ⟨rfl, hb⟩
  replace B := B.trans (hb.mono B.size)
  replace hD := hD.keep hb; replace hO := hO.keep hb; replace hP := hP.keep hb
  clear hb W
  have ghP := hP.cells
  go_wp2_with fail
  refine calls_world (fun W => Below w.heap.size w W ∧ Mds W ∧ Cols W ∧ Pnt W w.heap.size x y false) ⟨B, hD, hO, hP⟩ ?_
  clear B hD hO hP ghP
  rintro W ⟨B, hD, hO, hP⟩
  with_reducible refine (ON.out _ hD).mono ?_
  rintro e w2 ⟨rfl, hb⟩
  replace B := B.trans (hb.mono B.size)
  replace hD := hD.keep hb; replace hO := hO.keep hb; replace hP := hP.keep hb
  clear hb W
  have ghP := hP.cells
  go_wp2_with fail
  refine calls_world (fun W => Below w.heap.size w W ∧ Mds W ∧ Cols W ∧ Pnt W w.heap.size x y false) ⟨B, hD, hO, hP⟩ ?_
  clear B hD hO hP ghP
  rintro W ⟨B, hD, hO, hP⟩
  clear hO
  with_reducible refine (CM.out _ hD).mono ?_
  rintro e v1 ⟨ga, ca, rfl, ⟨hCa, hFa⟩, hca, hb⟩
  replace B := B.trans (hb.mono B.size)
  replace hD := hD.keep hb; replace hP := hP.keep hb
  clear hb W
  have ghP := hP.cells
  go_wp2_with fail
  refine calls_world (fun W => Below w.heap.size w W ∧ Mds W ∧ Pnt W w.heap.size x y false ∧ Cb W ga 1 L1 ∧ Fb W ga 2) ⟨B, hD, hP, hCa, hFa⟩ ?_
  clear B hD hP hCa hFa ghP
  rintro W ⟨B, hD, hP, hCa, hFa⟩
  clear v1
  with_reducible refine (EX.out _ hD).mono ?_
  rintro e v2 ⟨gb, cb, rfl, ⟨hCb, hEb, hFb⟩, hcb, hb⟩
  replace B := B.trans (hb.mono B.size)
  replace hD := hD.keep hb; replace hP := hP.keep hb; replace hCa := hCa.keep hb; replace hFa := hFa.keep hb
  clear hb W
  go_wp2_with fail
  refine calls_world (fun W => Below w.heap.size w W ∧ Mds W ∧ Pnt W w.heap.size x y false ∧ Cb W ga 1 L1 ∧ Fb W ga 2 ∧ Cb W gb 1 L1 ∧ Cb W gb 33 L2 ∧ Fb W gb 4) ⟨B, hD, hP, hCa, hFa, hCb, hEb, hFb⟩ ?_
  clear B hD hP hCa hFa hCb hEb hFb 
  rintro W ⟨B, hD, hP, hCa, hFa, hCb, hEb, hFb⟩
  clear v2
  with_reducible refine (N0.out _).mono ?_
  rintro e w3 ⟨rfl, hb⟩
  replace B := B.trans (hb.mono B.size)
  replace hD := hD.keep hb; replace hP := hP.keep hb; replace hCa := hCa.keep hb; replace hFa := hFa.keep hb; replace hCb := hCb.keep hb; replace hEb := hEb.keep hb; replace hFb := hFb.keep hb
  clear hb W
  go_wp2_with fail
  refine calls_world (fun W => Below w.heap.size w W ∧ Mds W ∧ Pnt W w.heap.size x y false ∧ Cb W ga 1 L1 ∧ Fb W ga 2 ∧ Cb W gb 1 L1 ∧ Cb W gb 33 L2 ∧ Fb W gb 4) ⟨B, hD, hP, hCa, hFa, hCb, hEb, hFb⟩ ?_
  clear B hD hP hCa hFa hCb hEb hFb 
  rintro W ⟨B, hD, hP, hCa, hFa, hCb, hEb, hFb⟩
  with_reducible refine (N0.out _).mono ?_
  rintro e w4 ⟨rfl, hb⟩
  replace B := B.trans (hb.mono B.size)
  replace hD := hD.keep hb; replace hP := hP.keep hb; replace hCa := hCa.keep hb; replace hFa := hFa.keep hb; replace hCb := hCb.keep hb; replace hEb := hEb.keep hb; replace hFb := hFb.keep hb
  clear hb W
  go_wp2_with fail
  refine calls_world (fun W => Below w.heap.size w W ∧ Mds W ∧ Pnt W w.heap.size x y false ∧ Cb W ga 1 L1 ∧ Fb W ga 2 ∧ Cb W gb 1 L1 ∧ Cb W gb 33 L2 ∧ Fb W gb 4) ⟨B, hD, hP, hCa, hFa, hCb, hEb, hFb⟩ ?_
  clear B hD hP hCa hFa hCb hEb hFb 
  rintro W ⟨B, hD, hP, hCa, hFa, hCb, hEb, hFb⟩
  with_reducible refine (PA.out _ _ _ hca hD hCa hFa).mono ?_
  rintro e w5 ⟨rfl, hb⟩
  replace B := B.trans (hb.mono B.size)
  replace hD := hD.keep hb; replace hP := hP.keep hb; replace hCa := hCa.keep hb; replace hFa := hFa.keep hb; replace hCb := hCb.keep hb; replace hEb := hEb.keep hb; replace hFb := hFb.keep hb
  clear hb W
  go_wp2_with fail
  refine calls_world (fun W => Below w.heap.size w W ∧ Mds W ∧ Pnt W w.heap.size x y false ∧ Cb W ga 1 L1 ∧ Fb W ga 2 ∧ Cb W gb 1 L1 ∧ Cb W gb 33 L2 ∧ Fb W gb 4 ∧ Pnt W w5.heap.size x y false) ⟨B.alloc B.size _, hD.alloc _, hP.alloc _, hCa.alloc _, hFa.alloc _, hCb.alloc _, hEb.alloc _, hFb.alloc _, Pnt.new rfl⟩ ?_
  clear B hD hP hCa hFa hCb hEb hFb 
  rintro W ⟨B, hD, hP, hCa, hFa, hCb, hEb, hFb, hq⟩
  generalize w5.heap.size = bq at *
  clear hCa hFa
  with_reducible refine (PB.out _ _ _ hcb hD hCb hEb hFb).mono ?_
  rintro e w6 ⟨rfl, hb⟩
  replace B := B.trans (hb.mono B.size)
  replace hD := hD.keep hb; replace hP := hP.keep hb; replace hCb := hCb.keep hb; replace hEb := hEb.keep hb; replace hFb := hFb.keep hb; replace hq := hq.keep hb
  clear hb W
  have ghP := fun o => (hP.alloc o).cells
  go_wp2_with fail
  refine calls_world (fun W => Below w.heap.size w W ∧ Mds W ∧ Pnt W w.heap.size x y false ∧ Cb W gb 1 L1 ∧ Cb W gb 33 L2 ∧ Fb W gb 4 ∧ Pnt W bq x y false ∧ Pnt W w6.heap.size x y false) ⟨B.alloc B.size _, hD.alloc _, hP.alloc _, hCb.alloc _, hEb.alloc _, hFb.alloc _, hq.alloc _, Pnt.new rfl⟩ ?_
  clear B hD hP hCb hEb hFb hq ghP
  rintro W ⟨B, hD, hP, hCb, hEb, hFb, hq, hr⟩
  generalize w6.heap.size = br at *
  clear hCb hEb hFb
  with_reducible refine (L1c.out _ hD).mono ?_
  rintro e w7 ⟨rfl, hb⟩
  replace B := B.trans (hb.mono B.size)
  replace hD := hD.keep hb; replace hP := hP.keep hb; replace hq := hq.keep hb; replace hr := hr.keep hb
  clear hb W
  have ghP := fun o => (hP.alloc o).cells
  go_wp2_with fail
  refine calls_world (fun W => Below w.heap.size w W ∧ Mds W ∧ Pnt W w.heap.size x y false ∧ Pnt W bq x y false ∧ Pnt W br x y false ∧ Pnt W w7.heap.size x y false) ⟨B.alloc B.size _, hD.alloc _, hP.alloc _, hq.alloc _, hr.alloc _, Pnt.new rfl⟩ ?_
  clear B hD hP hq hr ghP
  rintro W ⟨B, hD, hP, hq, hr, hs⟩
  generalize w7.heap.size = bs at *
  with_reducible refine (L2c.out _ hD).mono ?_
  rintro e w8 ⟨rfl, hb⟩
  replace B := B.trans (hb.mono B.size)
  replace hD := hD.keep hb; replace hP := hP.keep hb; replace hq := hq.keep hb; replace hr := hr.keep hb; replace hs := hs.keep hb
  clear hb W
  have ghP := fun o => (hP.alloc o).cells
  go_wp2_with fail
  refine calls_world (fun W => Below w.heap.size w W ∧ Mds W ∧ Pnt W w.heap.size x y false ∧ Pnt W bq x y false ∧ Pnt W br x y false ∧ Pnt W bs x y false ∧ Pnt W w8.heap.size x z false) ⟨B.alloc B.size _, hD.alloc _, hP.alloc _, hq.alloc _, hr.alloc _, hs.alloc _, Pnt.new rfl⟩ ?_
  clear B hD hP hq hr hs ghP
  rintro W ⟨B, hD, hP, hq, hr, hs, ht⟩
  generalize w8.heap.size = bt at *
  with_reducible refine (NG.out _ hD).mono ?_
  rintro e w9 ⟨rfl, hb⟩
  replace B := B.trans (hb.mono B.size)
  replace hD := hD.keep hb; replace hP := hP.keep hb; replace hq := hq.keep hb; replace hr := hr.keep hb; replace hs := hs.keep hb; replace ht := ht.keep hb
  clear hb W
  go_wp2_with fail
  refine calls_world (fun W => Below w.heap.size w W ∧ Mds W ∧ Pnt W w.heap.size x y false ∧ Pnt W bq x y false ∧ Pnt W br x y false ∧ Pnt W bs x y false ∧ Pnt W bt x z false ∧ Pnt W w9.heap.size x z false) ⟨B.alloc B.size _, hD.alloc _, hP.alloc _, hq.alloc _, hr.alloc _, hs.alloc _, ht.alloc _, Pnt.new rfl⟩ ?_
  clear B hD hP hq hr hs ht 
  rintro W ⟨B, hD, hP, hq, hr, hs, ht, hn⟩
  generalize w9.heap.size = bn at *
  with_reducible refine (N0.out _).mono ?_
  rintro e w10 ⟨rfl, hb⟩
  replace B := B.trans (hb.mono B.size)
  replace hD := hD.keep hb; replace hP := hP.keep hb; replace hq := hq.keep hb; replace hr := hr.keep hb; replace hs := hs.keep hb; replace ht := ht.keep hb; replace hn := hn.keep hb
  clear hb W
  go_wp2_with fail
  refine calls_world (fun W => Below w.heap.size w W ∧ Mds W ∧ Pnt W w.heap.size x y false ∧ Pnt W bq x y false ∧ Pnt W br x y false ∧ Pnt W bs x y false ∧ Pnt W bt x z false ∧ Pnt W bn x z false) ⟨B, hD, hP, hq, hr, hs, ht, hn⟩ ?_
  clear B hD hP hq hr hs ht hn 
  rintro W ⟨B, hD, hP, hq, hr, hs, ht, hn⟩
  with_reducible refine (N0.out _).mono ?_
  rintro e w11 ⟨rfl, hb⟩
  replace B := B.trans (hb.mono B.size)
  replace hD := hD.keep hb; replace hP := hP.keep hb; replace hq := hq.keep hb; replace hr := hr.keep hb; replace hs := hs.keep hb; replace ht := ht.keep hb; replace hn := hn.keep hb
  clear hb W
  go_wp2_with fail
  refine calls_world (fun W => Below w.heap.size w W ∧ Mds W ∧ Pnt W w.heap.size x y false ∧ Pnt W bq x y false ∧ Pnt W br x y false ∧ Pnt W bs x y false ∧ Pnt W bt x z false ∧ Pnt W bn x z false) ⟨B, hD, hP, hq, hr, hs, ht, hn⟩ ?_
  clear B hD hP hq hr hs ht hn 
  rintro W ⟨B, hD, hP, hq, hr, hs, ht, hn⟩
  with_reducible refine (N0.out _).mono ?_
  rintro e w12 ⟨rfl, hb⟩
  replace B := B.trans (hb.mono B.size)
  replace hD := hD.keep hb; replace hP := hP.keep hb; replace hq := hq.keep hb; replace hr := hr.keep hb; replace hs := hs.keep hb; replace ht := ht.keep hb; replace hn := hn.keep hb
  clear hb W
  go_wp2_with fail
  refine calls_world (fun W => Below w.heap.size w W ∧ Mds W ∧ Pnt W w.heap.size x y false ∧ Pnt W bq x y false ∧ Pnt W br x y false ∧ Pnt W bs x y false ∧ Pnt W bt x z false ∧ Pnt W bn x z false) ⟨B, hD, hP, hq, hr, hs, ht, hn⟩ ?_
  clear B hD hP hq hr hs ht hn 
  rintro W ⟨B, hD, hP, hq, hr, hs, ht, hn⟩
  with_reducible refine (N0.out _).mono ?_
  rintro e w13 ⟨rfl, hb⟩
  replace B := B.trans (hb.mono B.size)
  replace hD := hD.keep hb; replace hP := hP.keep hb; replace hq := hq.keep hb; replace hr := hr.keep hb; replace hs := hs.keep hb; replace ht := ht.keep hb; replace hn := hn.keep hb
  clear hb W
  go_wp2_with fail
  refine calls_world (fun W => Below w.heap.size w W ∧ Mds W ∧ Pnt W w.heap.size x y false ∧ Pnt W bq x y false ∧ Pnt W br x y false ∧ Pnt W bs x y false ∧ Pnt W bt x z false ∧ Pnt W bn x z false) ⟨B, hD, hP, hq, hr, hs, ht, hn⟩ ?_
  clear B hD hP hq hr hs ht hn 
  rintro W ⟨B, hD, hP, hq, hr, hs, ht, hn⟩
  with_reducible refine (N0.out _).mono ?_
  rintro e w99 ⟨rfl, hb⟩
  replace B := B.trans (hb.mono B.size)
  replace hD := hD.keep hb; replace hP := hP.keep hb; replace hq := hq.keep hb; replace hr := hr.keep hb; replace hs := hs.keep hb; replace ht := ht.keep hb; replace hn := hn.keep hb
  clear hb W
  have gP := hP.cells; have gq := hq.cells; have gr := hr.cells; have gs := hs.cells; have gt := ht.cells; have gn := hn.cells
  go_wp2
  simp [bodyPost, results, Tryd.results3, go_sem]
  exact B

set_option maxRecDepth 100000 in
set_option maxHeartbeats 16000000 in
theorem cback_3 {x y z : Int} {L1 L2 : List Int} (BS : Hid (∀ w, Mds w → Cols w → Calls Tryd.prog 4 #[] w fun e w' => e = .returned (.bool true) ∧ Below w.heap.size w w')) (ON : Hid (∀ w, Mds w → Calls Tryd.prog 5 #[.agg #[.int .u64 (l0 x), .int .u64 (l1 x), .int .u64 (l2 x), .int .u64 (l3 x), .int .u64 (l0 y), .int .u64 (l1 y), .int .u64 (l2 y), .int .u64 (l3 y), .bool false]] w fun e w' => e = .returned (.bool true) ∧ Below w.heap.size w w')) (CM : Hid (∀ w, Mds w → Calls Tryd.prog 6 #[.agg #[.int .u64 (l0 x), .int .u64 (l1 x), .int .u64 (l2 x), .int .u64 (l3 x), .int .u64 (l0 y), .int .u64 (l1 y), .int .u64 (l2 y), .int .u64 (l3 y), .bool false]] w fun e w' => ∃ g cap, e = .returned (.tuple #[.slice (some ⟨g, 0, none⟩) 33 cap, .int .i64 0]) ∧ (Cb w' g 1 L1 ∧ Fb w' g 3) ∧ 33 ≤ cap ∧ Below w.heap.size w w')) (EX : Hid (∀ w, Mds w → Calls Tryd.prog 7 #[.agg #[.int .u64 (l0 x), .int .u64 (l1 x), .int .u64 (l2 x), .int .u64 (l3 x), .int .u64 (l0 y), .int .u64 (l1 y), .int .u64 (l2 y), .int .u64 (l3 y), .bool false]] w fun e w' => ∃ g cap, e = .returned (.tuple #[.slice (some ⟨g, 0, none⟩) 65 cap, .int .i64 0]) ∧ (Cb w' g 1 L1 ∧ Cb w' g 33 L2 ∧ Fb w' g 4) ∧ 65 ≤ cap ∧ Below w.heap.size w w')) (N0 : Hid (∀ w, Calls Tryd.prog 8 #[.int .i64 0] w fun e w' => e = .returned (.int .i64 0) ∧ Below w.heap.size w w')) (PA : Hid (∀ g cap w, 33 ≤ cap → Mds w → Cb w g 1 L1 → Fb w g 3 → Calls Tryd.prog 9 #[.slice (some ⟨g, 0, none⟩) 33 cap] w fun e w' => e = .returned (.tuple #[.agg #[.int .u64 (l0 x), .int .u64 (l1 x), .int .u64 (l2 x), .int .u64 (l3 x), .int .u64 (l0 y), .int .u64 (l1 y), .int .u64 (l2 y), .int .u64 (l3 y), .bool false], .int .i64 0]) ∧ Below w.heap.size w w')) (PB : Hid (∀ g cap w, 65 ≤ cap → Mds w → Cb w g 1 L1 → Cb w g 33 L2 → Fb w g 4 → Calls Tryd.prog 9 #[.slice (some ⟨g, 0, none⟩) 65 cap] w fun e w' => e = .returned (.tuple #[.agg #[.int .u64 (l0 x), .int .u64 (l1 x), .int .u64 (l2 x), .int .u64 (l3 x), .int .u64 (l0 y), .int .u64 (l1 y), .int .u64 (l2 y), .int .u64 (l3 y), .bool false], .int .i64 0]) ∧ Below w.heap.size w w')) (L1c : Hid (∀ w, Mds w → Calls Tryd.prog 10 #[.agg #[.int .u64 (l0 x), .int .u64 (l1 x), .int .u64 (l2 x), .int .u64 (l3 x)], .bool ((l0 y).tmod 2 == 1)] w fun e w' => e = .returned (.tuple #[.agg #[.int .u64 (l0 x), .int .u64 (l1 x), .int .u64 (l2 x), .int .u64 (l3 x), .int .u64 (l0 y), .int .u64 (l1 y), .int .u64 (l2 y), .int .u64 (l3 y), .bool false], .int .i64 0]) ∧ Below w.heap.size w w')) (L2c : Hid (∀ w, Mds w → Calls Tryd.prog 10 #[.agg #[.int .u64 (l0 x), .int .u64 (l1 x), .int .u64 (l2 x), .int .u64 (l3 x)], .bool (!((l0 y).tmod 2 == 1))] w fun e w' => e = .returned (.tuple #[.agg #[.int .u64 (l0 x), .int .u64 (l1 x), .int .u64 (l2 x), .int .u64 (l3 x), .int .u64 (l0 z), .int .u64 (l1 z), .int .u64 (l2 z), .int .u64 (l3 z), .bool false], .int .i64 0]) ∧ Below w.heap.size w w')) (NG : Hid (∀ w, Mds w → Calls Tryd.prog 11 #[.agg #[.int .u64 (l0 x), .int .u64 (l1 x), .int .u64 (l2 x), .int .u64 (l3 x), .int .u64 (l0 y), .int .u64 (l1 y), .int .u64 (l2 y), .int .u64 (l3 y), .bool false]] w fun e w' => e = .returned (.tuple #[.agg #[.int .u64 (l0 x), .int .u64 (l1 x), .int .u64 (l2 x), .int .u64 (l3 x), .int .u64 (l0 z), .int .u64 (l1 z), .int .u64 (l2 z), .int .u64 (l3 z), .bool false], .int .i64 0]) ∧ Below w.heap.size w w')) (E1 : ∀ w, (Op.equalIn 10000 26 (.agg #[.int .u64 (l0 x), .int .u64 (l1 x), .int .u64 (l2 x), .int .u64 (l3 x), .int .u64 (l0 y), .int .u64 (l1 y), .int .u64 (l2 y), .int .u64 (l3 y), .bool false]) (.agg #[.int .u64 (l0 x), .int .u64 (l1 x), .int .u64 (l2 x), .int .u64 (l3 x), .int .u64 (l0 y), .int .u64 (l1 y), .int .u64 (l2 y), .int .u64 (l3 y), .bool false])).run Tryd.prog w = .ok true w) (E2 : ∀ w, (Op.equalIn 10000 26 (.agg #[.int .u64 (l0 x), .int .u64 (l1 x), .int .u64 (l2 x), .int .u64 (l3 x), .int .u64 (l0 z), .int .u64 (l1 z), .int .u64 (l2 z), .int .u64 (l3 z), .bool false]) (.agg #[.int .u64 (l0 x), .int .u64 (l1 x), .int .u64 (l2 x), .int .u64 (l3 x), .int .u64 (l0 z), .int .u64 (l1 z), .int .u64 (l2 z), .int .u64 (l3 z), .bool false])).run Tryd.prog w = .ok true w) (E3 : ∀ w, (Op.equalIn 10000 26 (.agg #[.int .u64 (l0 x), .int .u64 (l1 x), .int .u64 (l2 x), .int .u64 (l3 x), .int .u64 (l0 z), .int .u64 (l1 z), .int .u64 (l2 z), .int .u64 (l3 z), .bool false]) (.agg #[.int .u64 (l0 x), .int .u64 (l1 x), .int .u64 (l2 x), .int .u64 (l3 x), .int .u64 (l0 y), .int .u64 (l1 y), .int .u64 (l2 y), .int .u64 (l3 y), .bool false])).run Tryd.prog w = .ok false w) (w : World) (hm : Mds w) (hc : Cols w) :
    Calls Tryd.prog 3 #[.agg #[.int .u64 (l0 x), .int .u64 (l1 x), .int .u64 (l2 x), .int .u64 (l3 x), .int .u64 (l0 y), .int .u64 (l1 y), .int .u64 (l2 y), .int .u64 (l3 y), .bool false]] w fun e w' => e = .returned (.bool true) ∧ Below w.heap.size w w' := by
  go_enter Tryd.func3, Tryd.ntmps3
  go_wp2_with fail
  refine calls_world (fun W => Below w.heap.size w W ∧ Mds W ∧ Cols W ∧ Pnt W w.heap.size x y false) ⟨by repeat (first | with_reducible exact Below.refl _ _ | with_reducible refine Below.alloc ?_ (by first | omega | (simp; done) | (simp; omega)) _), hm.alloc _, Cols.alloc hc _, Pnt.new rfl⟩ ?_
  rintro W ⟨B, hD, hO, hP⟩
  with_reducible refine (BS.out _ hD hO).mono ?_
  rintro e w1 ⟨rfl, hb⟩
  replace B := B.trans (hb.mono B.size)
  replace hD := hD.keep hb; replace hO := hO.keep hb; replace hP := hP.keep hb
  clear hb W
  have ghP := hP.cells
  go_wp2_with fail
  refine calls_world (fun W => Below w.heap.size w W ∧ Mds W ∧ Cols W ∧ Pnt W w.heap.size x y false) ⟨B, hD, hO, hP⟩ ?_
  clear B hD hO hP ghP
  rintro W ⟨B, hD, hO, hP⟩
  with_reducible refine (ON.out _ hD).mono ?_
  rintro e w2 ⟨rfl, hb⟩
  replace B := B.trans (hb.mono B.size)
  replace hD := hD.keep hb; replace hO := hO.keep hb; replace hP := hP.keep hb
  clear hb W
  have ghP := hP.cells
  go_wp2_with fail
  refine calls_world (fun W => Below w.heap.size w W ∧ Mds W ∧ Cols W ∧ Pnt W w.heap.size x y false) ⟨B, hD, hO, hP⟩ ?_
  clear B hD hO hP ghP
  rintro W ⟨B, hD, hO, hP⟩
  clear hO
  with_reducible refine (CM.out _ hD).mono ?_
  rintro e v1 ⟨ga, ca, rfl, ⟨hCa, hFa⟩, hca, hb⟩
  replace B := B.trans (hb.mono B.size)
  replace hD := hD.keep hb; replace hP := hP.keep hb
  clear hb W
  have ghP := hP.cells
  go_wp2_with fail
  refine calls_world (fun W => Below w.heap.size w W ∧ Mds W ∧ Pnt W w.heap.size x y false ∧ Cb W ga 1 L1 ∧ Fb W ga 3) ⟨B, hD, hP, hCa, hFa⟩ ?_
  clear B hD hP hCa hFa ghP
  rintro W ⟨B, hD, hP, hCa, hFa⟩
  clear v1
  with_reducible refine (EX.out _ hD).mono ?_
  rintro e v2 ⟨gb, cb, rfl, ⟨hCb, hEb, hFb⟩, hcb, hb⟩
  replace B := B.trans (hb.mono B.size)
  replace hD := hD.keep hb; replace hP := hP.keep hb; replace hCa := hCa.keep hb; replace hFa := hFa.keep hb
  clear hb W
  go_wp2_with fail
  refine calls_world (fun W => Below w.heap.size w W ∧ Mds W ∧ Pnt W w.heap.size x y false ∧ Cb W ga 1 L1 ∧ Fb W ga 3 ∧ Cb W gb 1 L1 ∧ Cb W gb 33 L2 ∧ Fb W gb 4) ⟨B, hD, hP, hCa, hFa, hCb, hEb, hFb⟩ ?_
  clear B hD hP hCa hFa hCb hEb hFb 
  rintro W ⟨B, hD, hP, hCa, hFa, hCb, hEb, hFb⟩
  clear v2
  with_reducible refine (N0.out _).mono ?_
  rintro e w3 ⟨rfl, hb⟩
  replace B := B.trans (hb.mono B.size)
  replace hD := hD.keep hb; replace hP := hP.keep hb; replace hCa := hCa.keep hb; replace hFa := hFa.keep hb; replace hCb := hCb.keep hb; replace hEb := hEb.keep hb; replace hFb := hFb.keep hb
  clear hb W
  go_wp2_with fail
  refine calls_world (fun W => Below w.heap.size w W ∧ Mds W ∧ Pnt W w.heap.size x y false ∧ Cb W ga 1 L1 ∧ Fb W ga 3 ∧ Cb W gb 1 L1 ∧ Cb W gb 33 L2 ∧ Fb W gb 4) ⟨B, hD, hP, hCa, hFa, hCb, hEb, hFb⟩ ?_
  clear B hD hP hCa hFa hCb hEb hFb 
  rintro W ⟨B, hD, hP, hCa, hFa, hCb, hEb, hFb⟩
  with_reducible refine (N0.out _).mono ?_
  rintro e w4 ⟨rfl, hb⟩
  replace B := B.trans (hb.mono B.size)
  replace hD := hD.keep hb; replace hP := hP.keep hb; replace hCa := hCa.keep hb; replace hFa := hFa.keep hb; replace hCb := hCb.keep hb; replace hEb := hEb.keep hb; replace hFb := hFb.keep hb
  clear hb W
  go_wp2_with fail
  refine calls_world (fun W => Below w.heap.size w W ∧ Mds W ∧ Pnt W w.heap.size x y false ∧ Cb W ga 1 L1 ∧ Fb W ga 3 ∧ Cb W gb 1 L1 ∧ Cb W gb 33 L2 ∧ Fb W gb 4) ⟨B, hD, hP, hCa, hFa, hCb, hEb, hFb⟩ ?_
  clear B hD hP hCa hFa hCb hEb hFb 
  rintro W ⟨B, hD, hP, hCa, hFa, hCb, hEb, hFb⟩
  with_reducible refine (PA.out _ _ _ hca hD hCa hFa).mono ?_
  rintro e w5 ⟨rfl, hb⟩
  replace B := B.trans (hb.mono B.size)
  replace hD := hD.keep hb; replace hP := hP.keep hb; replace hCa := hCa.keep hb; replace hFa := hFa.keep hb; replace hCb := hCb.keep hb; replace hEb := hEb.keep hb; replace hFb := hFb.keep hb
  clear hb W
  go_wp2_with fail
  refine calls_world (fun W => Below w.heap.size w W ∧ Mds W ∧ Pnt W w.heap.size x y false ∧ Cb W ga 1 L1 ∧ Fb W ga 3 ∧ Cb W gb 1 L1 ∧ Cb W gb 33 L2 ∧ Fb W gb 4 ∧ Pnt W w5.heap.size x y false) ⟨B.alloc B.size _, hD.alloc _, hP.alloc _, hCa.alloc _, hFa.alloc _, hCb.alloc _, hEb.alloc _, hFb.alloc _, Pnt.new rfl⟩ ?_
  clear B hD hP hCa hFa hCb hEb hFb 
  rintro W ⟨B, hD, hP, hCa, hFa, hCb, hEb, hFb, hq⟩
  generalize w5.heap.size = bq at *
  clear hCa hFa
  with_reducible refine (PB.out _ _ _ hcb hD hCb hEb hFb).mono ?_
  rintro e w6 ⟨rfl, hb⟩
  replace B := B.trans (hb.mono B.size)
  replace hD := hD.keep hb; replace hP := hP.keep hb; replace hCb := hCb.keep hb; replace hEb := hEb.keep hb; replace hFb := hFb.keep hb; replace hq := hq.keep hb
  clear hb W
  have ghP := fun o => (hP.alloc o).cells
  go_wp2_with fail
  refine calls_world (fun W => Below w.heap.size w W ∧ Mds W ∧ Pnt W w.heap.size x y false ∧ Cb W gb 1 L1 ∧ Cb W gb 33 L2 ∧ Fb W gb 4 ∧ Pnt W bq x y false ∧ Pnt W w6.heap.size x y false) ⟨B.alloc B.size _, hD.alloc _, hP.alloc _, hCb.alloc _, hEb.alloc _, hFb.alloc _, hq.alloc _, Pnt.new rfl⟩ ?_
  clear B hD hP hCb hEb hFb hq ghP
  rintro W ⟨B, hD, hP, hCb, hEb, hFb, hq, hr⟩
  generalize w6.heap.size = br at *
  clear hCb hEb hFb
  with_reducible refine (L1c.out _ hD).mono ?_
  rintro e w7 ⟨rfl, hb⟩
  replace B := B.trans (hb.mono B.size)
  replace hD := hD.keep hb; replace hP := hP.keep hb; replace hq := hq.keep hb; replace hr := hr.keep hb
  clear hb W
  have ghP := fun o => (hP.alloc o).cells
  go_wp2_with fail
  refine calls_world (fun W => Below w.heap.size w W ∧ Mds W ∧ Pnt W w.heap.size x y false ∧ Pnt W bq x y false ∧ Pnt W br x y false ∧ Pnt W w7.heap.size x y false) ⟨B.alloc B.size _, hD.alloc _, hP.alloc _, hq.alloc _, hr.alloc _, Pnt.new rfl⟩ ?_
  clear B hD hP hq hr ghP
  rintro W ⟨B, hD, hP, hq, hr, hs⟩
  generalize w7.heap.size = bs at *
  with_reducible refine (L2c.out _ hD).mono ?_
  rintro e w8 ⟨rfl, hb⟩
  replace B := B.trans (hb.mono B.size)
  replace hD := hD.keep hb; replace hP := hP.keep hb; replace hq := hq.keep hb; replace hr := hr.keep hb; replace hs := hs.keep hb
  clear hb W
  have ghP := fun o => (hP.alloc o).cells
  go_wp2_with fail
  refine calls_world (fun W => Below w.heap.size w W ∧ Mds W ∧ Pnt W w.heap.size x y false ∧ Pnt W bq x y false ∧ Pnt W br x y false ∧ Pnt W bs x y false ∧ Pnt W w8.heap.size x z false) ⟨B.alloc B.size _, hD.alloc _, hP.alloc _, hq.alloc _, hr.alloc _, hs.alloc _, Pnt.new rfl⟩ ?_
  clear B hD hP hq hr hs ghP
  rintro W ⟨B, hD, hP, hq, hr, hs, ht⟩
  generalize w8.heap.size = bt at *
  with_reducible refine (NG.out _ hD).mono ?_
  rintro e w9 ⟨rfl, hb⟩
  replace B := B.trans (hb.mono B.size)
  replace hD := hD.keep hb; replace hP := hP.keep hb; replace hq := hq.keep hb; replace hr := hr.keep hb; replace hs := hs.keep hb; replace ht := ht.keep hb
  clear hb W
  go_wp2_with fail
  refine calls_world (fun W => Below w.heap.size w W ∧ Mds W ∧ Pnt W w.heap.size x y false ∧ Pnt W bq x y false ∧ Pnt W br x y false ∧ Pnt W bs x y false ∧ Pnt W bt x z false ∧ Pnt W w9.heap.size x z false) ⟨B.alloc B.size _, hD.alloc _, hP.alloc _, hq.alloc _, hr.alloc _, hs.alloc _, ht.alloc _, Pnt.new rfl⟩ ?_
  clear B hD hP hq hr hs ht 
  rintro W ⟨B, hD, hP, hq, hr, hs, ht, hn⟩
  generalize w9.heap.size = bn at *
  with_reducible refine (N0.out _).mono ?_
  rintro e w10 ⟨rfl, hb⟩
  replace B := B.trans (hb.mono B.size)
  replace hD := hD.keep hb; replace hP := hP.keep hb; replace hq := hq.keep hb; replace hr := hr.keep hb; replace hs := hs.keep hb; replace ht := ht.keep hb; replace hn := hn.keep hb
  clear hb W
  go_wp2_with fail
  refine calls_world (fun W => Below w.heap.size w W ∧ Mds W ∧ Pnt W w.heap.size x y false ∧ Pnt W bq x y false ∧ Pnt W br x y false ∧ Pnt W bs x y false ∧ Pnt W bt x z false ∧ Pnt W bn x z false) ⟨B, hD, hP, hq, hr, hs, ht, hn⟩ ?_
  clear B hD hP hq hr hs ht hn 
  rintro W ⟨B, hD, hP, hq, hr, hs, ht, hn⟩
  with_reducible refine (N0.out _).mono ?_
  rintro e w11 ⟨rfl, hb⟩
  replace B := B.trans (hb.mono B.size)
  replace hD := hD.keep hb; replace hP := hP.keep hb; replace hq := hq.keep hb; replace hr := hr.keep hb; replace hs := hs.keep hb; replace ht := ht.keep hb; replace hn := hn.keep hb
  clear hb W
  go_wp2_with fail
  refine calls_world (fun W => Below w.heap.size w W ∧ Mds W ∧ Pnt W w.heap.size x y false ∧ Pnt W bq x y false ∧ Pnt W br x y false ∧ Pnt W bs x y false ∧ Pnt W bt x z false ∧ Pnt W bn x z false) ⟨B, hD, hP, hq, hr, hs, ht, hn⟩ ?_
  clear B hD hP hq hr hs ht hn 
  rintro W ⟨B, hD, hP, hq, hr, hs, ht, hn⟩
  with_reducible refine (N0.out _).mono ?_
  rintro e w12 ⟨rfl, hb⟩
  replace B := B.trans (hb.mono B.size)
  replace hD := hD.keep hb; replace hP := hP.keep hb; replace hq := hq.keep hb; replace hr := hr.keep hb; replace hs := hs.keep hb; replace ht := ht.keep hb; replace hn := hn.keep hb
  clear hb W
  go_wp2_with fail
  refine calls_world (fun W => Below w.heap.size w W ∧ Mds W ∧ Pnt W w.heap.size x y false ∧ Pnt W bq x y false ∧ Pnt W br x y false ∧ Pnt W bs x y false ∧ Pnt W bt x z false ∧ Pnt W bn x z false) ⟨B, hD, hP, hq, hr, hs, ht, hn⟩ ?_
  clear B hD hP hq hr hs ht hn 
  rintro W ⟨B, hD, hP, hq, hr, hs, ht, hn⟩
  with_reducible refine (N0.out _).mono ?_
  rintro e w13 ⟨rfl, hb⟩
  replace B := B.trans (hb.mono B.size)
  replace hD := hD.keep hb; replace hP := hP.keep hb; replace hq := hq.keep hb; replace hr := hr.keep hb; replace hs := hs.keep hb; replace ht := ht.keep hb; replace hn := hn.keep hb
  clear hb W
  go_wp2_with fail
  refine calls_world (fun W => Below w.heap.size w W ∧ Mds W ∧ Pnt W w.heap.size x y false ∧ Pnt W bq x y false ∧ Pnt W br x y false ∧ Pnt W bs x y false ∧ Pnt W bt x z false ∧ Pnt W bn x z false) ⟨B, hD, hP, hq, hr, hs, ht, hn⟩ ?_
  clear B hD hP hq hr hs ht hn 
  rintro W ⟨B, hD, hP, hq, hr, hs, ht, hn⟩
  with_reducible refine (N0.out _).mono ?_
  rintro e w99 ⟨rfl, hb⟩
  replace B := B.trans (hb.mono B.size)
  replace hD := hD.keep hb; replace hP := hP.keep hb; replace hq := hq.keep hb; replace hr := hr.keep hb; replace hs := hs.keep hb; replace ht := ht.keep hb; replace hn := hn.keep hb
  clear hb W
  have gP := hP.cells; have gq := hq.cells; have gr := hr.cells; have gs := hs.cells; have gt := ht.cells; have gn := hn.cells
  go_wp2
  simp [bodyPost, results, Tryd.results3, go_sem]
  exact B
end Go.Proofs.YtohdeeidhgkgiaaDoor
