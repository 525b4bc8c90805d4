import Derived.Test.YtmcodflbngkdcaaGreatDoorAdPt
import Derived.Test.YtmcodflbngkdcaaGreatDoorCBlend
import Derived.Test.YtmcodflbngkdcaaGreatDoorAdLast
import Derived.Test.YtmcodflbngkdcaaGreatDoorCBkC
import Derived.Test.YtmcodflbngkdcaaGreatDoorGet
import Derived.Test.YtmcodflbngkdcaaGreatDoorCDbl
namespace Go.Proofs.YtmcodflbngkdcaaGreatDoor
open Go.RowKit Go.Sort

theorem rsumI {l1 l2 : List Int} {g1 g2 c1 c2 b : Nat} (hy1 : BysI l1) (hy2 : BysI l2) (hl : l1.length + l2.length < 1073741824) (hc1 : l1.length ≤ c1) (hc2 : l2.length ≤ c2) (w : World) (hb1 : w.cell? ⟨b, 0, none⟩ = some (.slice (some ⟨g1, 0, none⟩) l1.length c1)) (hb2 : w.cell? ⟨b, 1, none⟩ = some (.slice (some ⟨g2, 0, none⟩) l2.length c2)) (hx1 : ∀ i, i < l1.length → w.cell? ⟨g1, i, none⟩ = some (.int .u8 (l1.getD i 0))) (hx2 : ∀ i, i < l2.length → w.cell? ⟨g2, i, none⟩ = some (.int .u8 (l2.getD i 0))) (hk : RtA w) :
    Calls Tryz.prog 52 #[.slice (some ⟨b, 0, none⟩) 2 2] w fun e w' => e = .returned (.agg ((kecI (l1 ++ l2)).map (Value.int .u8)).toArray) ∧ Below w.heap.size w w' := by
  have e1 : (bvI l1).length = l1.length := bvI_len l1
  have e2 : (bvI l2).length = l2.length := bvI_len l2
  have h := K.rsum_any (PS := [⟨some ⟨g1, 0, none⟩, g1, 0, c1, bvI l1⟩, ⟨some ⟨g2, 0, none⟩, g2, 0, c2, bvI l2⟩]) (a := some ⟨b, 0, none⟩) (bp := b) (op := 0) (cp := 2) (by simp [K.catX, e1, e2]; exact hl) (by show 2 ≤ _; omega) (.inr rfl) (fun p hp hn => by
    simp only [List.mem_cons, List.not_mem_nil, or_false] at hp
    rcases hp with rfl | rfl <;> cases hn) w (fun i hi => by
    have : i = 0 ∨ i = 1 := by have : i < 2 := hi; omega
    rcases this with rfl | rfl
    · refine ⟨?_, .inr rfl, by show (bvI l1).length ≤ c1; omega, fun i hi => ?_⟩
      · show w.cell? ⟨b, 0 + 0, none⟩ = some (.slice (some ⟨g1, 0, none⟩) (bvI l1).length c1)
        rw [e1]; exact hb1
      · have hi' : i < l1.length := by rw [← e1]; exact hi
        show w.cell? ⟨g1, 0 + i, none⟩ = some (.int .u8 (K.Y ((bvI l1).getD i 0)))
        rw [bvI_Y hy1 hi', Nat.zero_add]; exact hx1 i hi'
    · refine ⟨?_, .inr rfl, by show (bvI l2).length ≤ c2; omega, fun i hi => ?_⟩
      · show w.cell? ⟨b, 0 + 1, none⟩ = some (.slice (some ⟨g2, 0, none⟩) (bvI l2).length c2)
        rw [e2]; exact hb2
      · have hi' : i < l2.length := by rw [← e2]; exact hi
        show w.cell? ⟨g2, 0 + i, none⟩ = some (.int .u8 (K.Y ((bvI l2).getD i 0)))
        rw [bvI_Y hy2 hi', Nat.zero_add]; exact hx2 i hi') hk.1 hk.2
  refine h.mono fun e w' ⟨h1, h2⟩ => ⟨?_, h2⟩
  rw [h1, ← digI, bvI_app]
  simp [K.catX]

set_option maxRecDepth 100000 in
set_option maxHeartbeats 4000000 in
theorem rofp_no {x y : Int} {i : Bool} {D : List Value} (eD : Hid (D = (List.replicate 20 (0 : Int)).map (Value.int .u8))) (ON : Hid (∀ w, Calls Tryz.prog 24 #[.agg #[.int .u64 (l0 x), .int .u64 (l1 x), .int .u64 (l2 x), .int .u64 (l3 x), .int .u64 (l0 y), .int .u64 (l1 y), .int .u64 (l2 y), .int .u64 (l3 y), .bool i]] w fun e w' => e = .returned (.bool false) ∧ Below w.heap.size w w')) (w : World) :
    Calls Tryz.prog 12 #[.agg #[.int .u64 (l0 x), .int .u64 (l1 x), .int .u64 (l2 x), .int .u64 (l3 x), .int .u64 (l0 y), .int .u64 (l1 y), .int .u64 (l2 y), .int .u64 (l3 y), .bool i]] w fun e w' => e = .returned (.tuple #[.agg D.toArray, .int .i64 50]) ∧ Below w.heap.size w w' := by
  go_enter Tryz.func12, Tryz.ntmps12
  go_wp2_with fail
  refine calls_world (fun W => Below w.heap.size w W ∧ Pnt W w.heap.size x y i ∧ Bts W (w.heap.size + 1) (List.replicate 20 0)) ⟨by repeat (first | with_reducible exact Below.refl _ _ | with_reducible refine Below.alloc ?_ (by first | omega | (simp; done) | (simp; omega)) _), (Pnt.new rfl).alloc _, Bts.new (List.replicate 20 0) _ (by simp)⟩ ?_
  rintro W ⟨B, hP, hR⟩
  with_reducible refine (ON.out _).mono ?_
  rintro e w9 ⟨rfl, hb⟩
  replace B := B.trans (hb.mono B.size)
  replace hR := hR.keep (by simp) hb
  replace hP := hP.keep hb
  clear hb W
  have gP := hP.cells
  have tr := hR.there (k := ((List.replicate 20 (0 : Int)).map (Value.int .u8)).toArray.size) (by simp)
  have o1 : w.heap.size ≤ w.heap.size + 1 := by omega
  have RR : Hid (Bts w9 (w.heap.size + 1) (List.replicate 20 0)) := hR
  clear hR
  generalize w.heap.size + 1 = br at *
  go_wp2_with ((refine wpList_store_mid rfl 26 _ _ rfl br 0 ((List.replicate 20 (0 : Int)).map (Value.int .u8)).toArray rfl rfl tr (by kernel_rfl) (one_cells _) ?_); (refine wpList_worldA (fun W => Below w.heap.size w W ∧ W.rangeAt br 0 D) (by rw [eD.out]; exact laid_in B o1 (RR.out.there (by simp))) ?_); (rintro W ⟨B', hD⟩))
  have ld := run_loadVar_mid (P := Tryz.prog) W br 0 26 D _ hD Tryz.underlying26 rfl (by rw [eD.out]; kernel_rfl)
  refine bodyPost_ret (v := .tuple #[.agg D.toArray, .int .i64 50]) ?_ rfl ⟨rfl, B'⟩
  simp [results, Tryz.results12, asAddr, ld]
set_option maxRecDepth 100000 in
set_option maxHeartbeats 4000000 in
theorem rofp_id {x y : Int} {D : List Value} (eD : Hid (D = (List.replicate 20 (0 : Int)).map (Value.int .u8))) (ON : Hid (∀ w, Calls Tryz.prog 24 #[.agg #[.int .u64 (l0 x), .int .u64 (l1 x), .int .u64 (l2 x), .int .u64 (l3 x), .int .u64 (l0 y), .int .u64 (l1 y), .int .u64 (l2 y), .int .u64 (l3 y), .bool true]] w fun e w' => e = .returned (.bool true) ∧ Below w.heap.size w w')) (w : World) :
    Calls Tryz.prog 12 #[.agg #[.int .u64 (l0 x), .int .u64 (l1 x), .int .u64 (l2 x), .int .u64 (l3 x), .int .u64 (l0 y), .int .u64 (l1 y), .int .u64 (l2 y), .int .u64 (l3 y), .bool true]] w fun e w' => e = .returned (.tuple #[.agg D.toArray, .int .i64 50]) ∧ Below w.heap.size w w' := by
  go_enter Tryz.func12, Tryz.ntmps12
  go_wp2_with fail
  refine calls_world (fun W => Below w.heap.size w W ∧ Pnt W w.heap.size x y true ∧ Bts W (w.heap.size + 1) (List.replicate 20 0)) ⟨by repeat (first | with_reducible exact Below.refl _ _ | with_reducible refine Below.alloc ?_ (by first | omega | (simp; done) | (simp; omega)) _), (Pnt.new rfl).alloc _, Bts.new (List.replicate 20 0) _ (by simp)⟩ ?_
  rintro W ⟨B, hP, hR⟩
  with_reducible refine (ON.out _).mono ?_
  rintro e w9 ⟨rfl, hb⟩
  replace B := B.trans (hb.mono B.size)
  replace hR := hR.keep (by simp) hb
  replace hP := hP.keep hb
  clear hb W
  have gP := hP.cells
  have tr := hR.there (k := ((List.replicate 20 (0 : Int)).map (Value.int .u8)).toArray.size) (by simp)
  have o1 : w.heap.size ≤ w.heap.size + 1 := by omega
  have RR : Hid (Bts w9 (w.heap.size + 1) (List.replicate 20 0)) := hR
  clear hR
  generalize w.heap.size + 1 = br at *
  go_wp2_with ((refine wpList_store_mid rfl 26 _ _ rfl br 0 ((List.replicate 20 (0 : Int)).map (Value.int .u8)).toArray rfl rfl tr (by kernel_rfl) (one_cells _) ?_); (refine wpList_worldA (fun W => Below w.heap.size w W ∧ W.rangeAt br 0 D) (by rw [eD.out]; exact laid_in B o1 (RR.out.there (by simp))) ?_); (rintro W ⟨B', hD⟩))
  have ld := run_loadVar_mid (P := Tryz.prog) W br 0 26 D _ hD Tryz.underlying26 rfl (by rw [eD.out]; kernel_rfl)
  refine bodyPost_ret (v := .tuple #[.agg D.toArray, .int .i64 50]) ?_ rfl ⟨rfl, B'⟩
  simp [results, Tryz.results12, asAddr, ld]
set_option maxRecDepth 100000 in
set_option maxHeartbeats 8000000 in
theorem rofp_ok {x y : Int} {L1 L2 : List Int} {M1 M2 D : List Value} (r1 : L1.length = 32) (r2 : L2.length = 32) (y1 : BysI L1) (y2 : BysI L2) (e1 : Hid (M1 = L1.map (Value.int .u8))) (e2 : Hid (M2 = L2.map (Value.int .u8))) (eD : Hid (D = ((kecI (L1 ++ L2)).drop 12).map (Value.int .u8)))
    (C1 : Hid (∀ w, Calls Tryz.prog 25 #[.agg #[.int .u64 (l0 x), .int .u64 (l1 x), .int .u64 (l2 x), .int .u64 (l3 x)]] w fun e w' => e = .returned (.agg M1.toArray) ∧ Below w.heap.size w w')) (C2 : Hid (∀ w, Calls Tryz.prog 25 #[.agg #[.int .u64 (l0 y), .int .u64 (l1 y), .int .u64 (l2 y), .int .u64 (l3 y)]] w fun e w' => e = .returned (.agg M2.toArray) ∧ Below w.heap.size w w'))
    (ON : Hid (∀ w, Calls Tryz.prog 24 #[.agg #[.int .u64 (l0 x), .int .u64 (l1 x), .int .u64 (l2 x), .int .u64 (l3 x), .int .u64 (l0 y), .int .u64 (l1 y), .int .u64 (l2 y), .int .u64 (l3 y), .bool false]] w fun e w' => e = .returned (.bool true) ∧ Below w.heap.size w w')) (w : World) (hr : RtA w) :
    Calls Tryz.prog 12 #[.agg #[.int .u64 (l0 x), .int .u64 (l1 x), .int .u64 (l2 x), .int .u64 (l3 x), .int .u64 (l0 y), .int .u64 (l1 y), .int .u64 (l2 y), .int .u64 (l3 y), .bool false]] w fun e w' => e = .returned (.tuple #[.agg D.toArray, .int .i64 0]) ∧ Below w.heap.size w w' := by
  have YY : Hid (BysI L1 ∧ BysI L2) := ⟨y1, y2⟩
  clear y1 y2
  have k1 : M1.toArray.size = 32 := by rw [e1.out]; simp [r1]
  have k2 : M2.toArray.size = 32 := by rw [e2.out]; simp [r2]
  have oc1 : M1.toArray.all (·.oneCell') = true := by rw [e1.out]; exact one_cells L1
  have oc2 : M2.toArray.all (·.oneCell') = true := by rw [e2.out]; exact one_cells L2
  go_enter Tryz.func12, Tryz.ntmps12
  go_wp2_with fail
  refine calls_world (fun W => Below w.heap.size w W ∧ RtA W ∧ Pnt W w.heap.size x y false ∧ Bts W (w.heap.size + 1) (List.replicate 20 0)) ⟨by repeat (first | with_reducible exact Below.refl _ _ | with_reducible refine Below.alloc ?_ (by first | omega | (simp; done) | (simp; omega)) _), (hr.alloc _).alloc _, (Pnt.new rfl).alloc _, Bts.new (List.replicate 20 0) _ (by simp)⟩ ?_
  rintro W ⟨B, hT, hP, hR⟩
  with_reducible refine (ON.out _).mono ?_
  rintro e w1 ⟨rfl, hb⟩
  replace B := B.trans (hb.mono B.size)
  replace hR := hR.keep (by simp) hb
  replace hP := hP.keep hb
  replace hT := hT.keep hb
  clear hb W hr ON
  have gP := hP.cells
  have o1 : w.heap.size ≤ w.heap.size + 1 := by omega
  have lr : w.heap.size + 1 < w1.heap.size := hR.1.lt (by simp)
  generalize w.heap.size + 1 = br at *
  go_wp2_with fail
  refine calls_world (fun W => Below w.heap.size w W ∧ RtA W ∧ Pnt W w.heap.size x y false ∧ Bts W br (List.replicate 20 0)) ⟨B, hT, hP, hR⟩ ?_
  clear B hT hP hR gP lr
  rintro W ⟨B, hT, hP, hR⟩
  with_reducible refine (C1.out _).mono ?_
  rintro e w2 ⟨rfl, hb⟩
  replace B := B.trans (hb.mono B.size)
  replace hR := hR.keep (by simp) hb
  replace hP := hP.keep hb
  replace hT := hT.keep hb
  clear hb W w1
  have F1 : ∀ t, Hid (Below w.heap.size w ((w2.alloc (.cells ((List.replicate 32 (0 : Int)).map (Value.int .u8)).toArray t)).setCells w2.heap.size 0 M1) ∧ RtA ((w2.alloc (.cells ((List.replicate 32 (0 : Int)).map (Value.int .u8)).toArray t)).setCells w2.heap.size 0 M1) ∧ Pnt ((w2.alloc (.cells ((List.replicate 32 (0 : Int)).map (Value.int .u8)).toArray t)).setCells w2.heap.size 0 M1) w.heap.size x y false ∧ Bts ((w2.alloc (.cells ((List.replicate 32 (0 : Int)).map (Value.int .u8)).toArray t)).setCells w2.heap.size 0 M1) br (List.replicate 20 0) ∧ Bts ((w2.alloc (.cells ((List.replicate 32 (0 : Int)).map (Value.int .u8)).toArray t)).setCells w2.heap.size 0 M1) w2.heap.size L1) := fun t =>
    have hb : Below w2.heap.size w2 ((w2.alloc (.cells ((List.replicate 32 (0 : Int)).map (Value.int .u8)).toArray t)).setCells w2.heap.size 0 M1) := below_setCells (Nat.le_refl _) M1 0 _ ((Below.refl _ _).alloc (Nat.le_refl _) _)
    ⟨B.trans (hb.mono B.size), hT.keep hb, hP.keep hb, hR.keep (by simp) hb, by rw [e1.out]; exact (Bts.new (List.replicate 32 0) t rfl).storedA (by simp [r1])⟩
  have lr : w2.heap.size ≠ br := Nat.ne_of_gt (hR.1.lt (by simp))
  have lp : w2.heap.size ≠ w.heap.size := Nat.ne_of_gt hP.lt
  clear B hT hP hR
  go_wp2_with ((refine wpList_store_mid rfl 46 _ _ rfl w2.heap.size 0 M1.toArray rfl rfl (there_new rfl (by rw [k1]; rfl)) (by rw [k1]; kernel_rfl) oc1 ?_); (refine wpList_worldA (fun W => Below w.heap.size w W ∧ RtA W ∧ Pnt W w.heap.size x y false ∧ Bts W br (List.replicate 20 0) ∧ Bts W w2.heap.size L1) (F1 _).out ?_); (rintro W ⟨B, hT, hP, hR, hX⟩); (clear F1 oc1 k1); (have gP := hP.cells))
  refine calls_world (fun W => Below w.heap.size w W ∧ RtA W ∧ Bts W br (List.replicate 20 0) ∧ Bts W w2.heap.size L1) ⟨B, hT, hR, hX⟩ ?_
  clear B hT hP hR hX gP lp W
  rintro W ⟨B, hT, hR, hX⟩
  generalize w2.heap.size = bx at *
  clear w2
  with_reducible refine (C2.out _).mono ?_
  rintro e w3 ⟨rfl, hb⟩
  replace B := B.trans (hb.mono B.size)
  replace hR := hR.keep (by simp) hb
  replace hT := hT.keep hb
  replace hX := hX.keep (by rw [r1]; decide) hb
  clear hb W
  have F2 : ∀ t, Hid (Below w.heap.size w ((w3.alloc (.cells ((List.replicate 32 (0 : Int)).map (Value.int .u8)).toArray t)).setCells w3.heap.size 0 M2) ∧ RtA ((w3.alloc (.cells ((List.replicate 32 (0 : Int)).map (Value.int .u8)).toArray t)).setCells w3.heap.size 0 M2) ∧ Bts ((w3.alloc (.cells ((List.replicate 32 (0 : Int)).map (Value.int .u8)).toArray t)).setCells w3.heap.size 0 M2) br (List.replicate 20 0) ∧ Bts ((w3.alloc (.cells ((List.replicate 32 (0 : Int)).map (Value.int .u8)).toArray t)).setCells w3.heap.size 0 M2) bx L1 ∧ Bts ((w3.alloc (.cells ((List.replicate 32 (0 : Int)).map (Value.int .u8)).toArray t)).setCells w3.heap.size 0 M2) w3.heap.size L2) := fun t =>
    have hb : Below w3.heap.size w3 ((w3.alloc (.cells ((List.replicate 32 (0 : Int)).map (Value.int .u8)).toArray t)).setCells w3.heap.size 0 M2) := below_setCells (Nat.le_refl _) M2 0 _ ((Below.refl _ _).alloc (Nat.le_refl _) _)
    ⟨B.trans (hb.mono B.size), hT.keep hb, hR.keep (by simp) hb, hX.keep (by rw [r1]; decide) hb, by rw [e2.out]; exact (Bts.new (List.replicate 32 0) t rfl).storedA (by simp [r2])⟩
  clear B hT hR hX
  go_wp2_with ((refine wpList_store_mid rfl 46 _ _ rfl w3.heap.size 0 M2.toArray rfl rfl (there_new rfl (by rw [k2]; rfl)) (by rw [k2]; kernel_rfl) oc2 ?_); (refine wpList_worldA (fun W => Below w.heap.size w W ∧ RtA W ∧ Bts W br (List.replicate 20 0) ∧ Bts W bx L1 ∧ Bts W w3.heap.size L2) (F2 _).out ?_); (rintro W ⟨B, hT, hR, hX, hY⟩); (clear F2 oc2 k2))
  have lY : w3.heap.size < W.heap.size := hY.1.lt (by rw [r2]; decide)
  have n1 : W.heap.size ≠ br := Nat.ne_of_gt (hR.1.lt (by simp))
  have n2 : W.heap.size ≠ bx := Nat.ne_of_gt (hX.1.lt (by rw [r1]; decide))
  generalize w3.heap.size = b6 at *
  clear w3
  simp only [Act.put]
  refine region_tail 2 (by kernel_rfl) (by kernel_rfl) ?_
  simp only [List.take_succ_cons, List.take_zero, List.drop_succ_cons, List.drop_zero]
  repeat (first | go_big_quiet_skip | (go_big_quiet_want; go_big_quiet_op; go_big_quiet_on))
  refine wpQuiet_nil ?_
  have HH : Hid (Below w.heap.size w W ∧ RtA W ∧ Bts W br (List.replicate 20 0) ∧ Bts W bx L1 ∧ Bts W b6 L2) := ⟨B, hT, hR, hX, hY⟩
  clear B hT hR hX hY
  go_wp2_with fail
  have B3 : ∀ o, Below W.heap.size W (W.alloc o).drew := fun o => ((Below.refl _ _).alloc (Nat.le_refl _) _).drew
  refine calls_world (fun V => Below w.heap.size w V ∧ RtA V ∧ Bts V br (List.replicate 20 0) ∧ (∀ i, i < 32 → V.cell? ⟨bx, i, none⟩ = some (.int .u8 (L1.getD i 0))) ∧ (∀ i, i < 32 → V.cell? ⟨b6, i, none⟩ = some (.int .u8 (L2.getD i 0))) ∧ V.cell? ⟨W.heap.size, 0, none⟩ = some (.slice (some ⟨bx, 0, none⟩) 32 32) ∧ V.cell? ⟨W.heap.size, 1, none⟩ = some (.slice (some ⟨b6, 0, none⟩) 32 32)) ⟨HH.out.1.trans ((B3 _).mono HH.out.1.size), HH.out.2.1.keep (B3 _), HH.out.2.2.1.keep (by simp) (B3 _), fun i hi => cell_keep (B3 _) (HH.out.2.2.2.1.1 i (by omega)), fun i hi => cell_keep (B3 _) (HH.out.2.2.2.2.1 i (by omega)), by show (W.alloc _).cell? _ = _; rw [World.cell?_alloc_mark]; rfl, by show (W.alloc _).cell? _ = _; rw [World.cell?_alloc_mark]; rfl⟩ ?_
  clear HH B3
  rintro V ⟨B, hT, hR, hx, hz, hb1, hb2⟩
  generalize W.heap.size = bs at *
  clear W lY
  have SC : Hid (∀ U, Below V.heap.size V U → Calls Tryz.prog 52 #[.slice (some ⟨bs, 0, none⟩) 2 2] U fun e w' => e = .returned (.agg ((kecI (L1 ++ L2)).map (Value.int .u8)).toArray) ∧ Below U.heap.size U w') := fun U hU =>
    rsumI (c1 := 32) (c2 := 32) YY.out.1 YY.out.2 (by rw [r1, r2]; decide) (by omega) (by omega) U (by rw [r1]; exact cell_keep hU hb1) (by rw [r2]; exact cell_keep hU hb2) (by rw [r1]; exact fun i hi => cell_keep hU (hx i hi)) (by rw [r2]; exact fun i hi => cell_keep hU (hz i hi)) (hT.keep hU)
  refine (rlast_walk (kecI_len _) V SC).mono ?_
  rw [← eD.out]
  rintro e w4 ⟨rfl, hb⟩
  replace B := B.trans (hb.mono B.size)
  replace hR := hR.keep (by simp) hb
  clear hb SC hT hx hz hb1 hb2 V
  have kD : D.length = 20 := by rw [eD.out, List.length_map, List.length_drop, kecI_len]
  have oc : D.toArray.all (·.oneCell') = true := by rw [eD.out]; exact one_cells _
  have KD : Hid (D.length = 20) := kD
  have sz : D.toArray.size = 20 := by simp [kD]
  have tr := hR.there (k := D.toArray.size) (by rw [sz]; rfl)
  clear kD
  go_wp2_with ((refine wpList_store_mid rfl 26 _ _ rfl br 0 D.toArray rfl rfl tr (by rw [sz]; kernel_rfl) oc ?_); (refine wpList_worldA (fun W => Below w.heap.size w W ∧ W.rangeAt br 0 D) (laid_in B o1 (by simpa using tr)) ?_); (rintro W ⟨B', hD⟩))
  have ld := run_loadVar_mid (P := Tryz.prog) W br 0 26 D _ hD Tryz.underlying26 rfl (by rw [KD.out]; kernel_rfl)
  refine bodyPost_ret (v := .tuple #[.agg D.toArray, .int .i64 0]) ?_ rfl ⟨rfl, B'⟩
  simp [results, Tryz.results12, asAddr, ld]
end Go.Proofs.YtmcodflbngkdcaaGreatDoor

namespace Go.Proofs.YtmcodflbngkdcaaGreatDoor
open Go.RowKit Go.Sort

/-- OfPoint of any value: both sides answer the same. -/
theorem ofp_both {x y : Int} {i : Bool} (hx : Num x) (hy : Num y) : ∃ (D : List Value) (e0 : Int), D.length = 20 ∧ D.toArray.all (·.oneCell') = true ∧ (∀ w, (Op.equalIn 10000 26 (.agg D.toArray) (.agg D.toArray)).run Tryz.prog w = .ok true w) ∧
    Hid (∀ w, Mds w → KtA w → Calls Tryz.prog 8 #[.agg #[.int .u64 (l0 x), .int .u64 (l1 x), .int .u64 (l2 x), .int .u64 (l3 x), .int .u64 (l0 y), .int .u64 (l1 y), .int .u64 (l2 y), .int .u64 (l3 y), .bool i]] w fun e w' => e = .returned (.tuple #[.agg D.toArray, .int .i64 e0]) ∧ Below w.heap.size w w') ∧
    Hid (∀ w, RtA w → Calls Tryz.prog 12 #[.agg #[.int .u64 (l0 x), .int .u64 (l1 x), .int .u64 (l2 x), .int .u64 (l3 x), .int .u64 (l0 y), .int .u64 (l1 y), .int .u64 (l2 y), .int .u64 (l3 y), .bool i]] w fun e w' => e = .returned (.tuple #[.agg D.toArray, .int .i64 e0]) ∧ Below w.heap.size w w') := by
  have bad : ((List.replicate 20 (0 : Int)).map (Value.int .u8)).length = 20 := by simp
  have ebad : ∀ w, (Op.equalIn 10000 26 (.agg ((List.replicate 20 (0 : Int)).map (Value.int .u8)).toArray) (.agg ((List.replicate 20 (0 : Int)).map (Value.int .u8)).toArray)).run Tryz.prog w = .ok true w := fun w => by
    rw [eq_adr (by simp) (by simp) w]; simp
  by_cases hp : Vd x y i
  · cases i with
    | true =>
      exact ⟨(List.replicate 20 (0 : Int)).map (Value.int .u8), 50, bad, one_cells _, ebad, fun w hm _ => ofp_id rfl (fun w hm => expand_id (fun w hm => chf_id (con_yes hp) w hm) w hm) w hm, fun w _ => rofp_id rfl (r5on_yes hp) w⟩
    | false =>
      have EX : Hid (∀ w, Mds w → Calls Tryz.prog 14 #[.agg #[.int .u64 (l0 x), .int .u64 (l1 x), .int .u64 (l2 x), .int .u64 (l3 x), .int .u64 (l0 y), .int .u64 (l1 y), .int .u64 (l2 y), .int .u64 (l3 y), .bool false]] w fun e w' => ∃ g cap, e = .returned (.tuple #[.slice (some ⟨g, 0, none⟩) 65 cap, .int .i64 0]) ∧ (∀ i, i < 64 → w'.cell? ⟨g, 1 + i, none⟩ = some (.int .u8 ((putL x ++ putL y).getD i 0))) ∧ 65 ≤ cap ∧ Below w.heap.size w w') := fun w hm => by
        refine (expand_walk (putL_len x) (putL_len y) rfl rfl (fun w hm => chf_walk (con_yes hp) w hm) (fun w => put_any w) (fun w => put_any w) w hm).mono ?_
        rintro e w' ⟨v, rfl, ho, hb⟩
        rcases ho.2 with ⟨e, hx⟩ | ⟨g, cap, cur, e, _, _, hle, _⟩
        · exact absurd hx (by decide)
        · subst e
          refine ⟨g, cap, rfl, fun i hi => ?_, hle, hb⟩
          have h := ho.cellAt (1 + i) (by omega)
          rw [h]
          have hl : (putL x ++ putL y).length = 64 := by rw [List.length_append, putL_len, putL_len]
          rw [List.getElem?_map, show ((4 : Int) :: putL x) ++ putL y = 4 :: (putL x ++ putL y) from rfl, Nat.add_comm 1 i, List.getElem?_cons_succ, List.getElem?_eq_getElem (by omega), List.getD, List.getElem?_eq_getElem (by omega)]
          rfl
      have kl : ((kecI (putL x ++ putL y)).drop 12).length = 20 := by rw [List.length_drop, kecI_len]
      exact ⟨((kecI (putL x ++ putL y)).drop 12).map (Value.int .u8), 0, by rw [List.length_map]; exact kl, one_cells _, fun w => by rw [eq_adr kl kl w]; simp,
        fun w hm hk => ofp_ok (by rw [List.length_append, putL_len, putL_len]) ((putL_bys x).app (putL_bys y)) rfl EX w hm hk,
        fun w hr => rofp_ok (putL_len x) (putL_len y) (putL_bys x) (putL_bys y) rfl rfl rfl (fun w => rput_any w) (fun w => rput_any w) (r5on_yes hp) w hr⟩
  · exact ⟨(List.replicate 20 (0 : Int)).map (Value.int .u8), 50, bad, one_cells _, ebad, fun w hm _ => ofp_no rfl (fun w hm => expand_no (fun w hm => chf_no (con_no hx hy hp) w hm) w hm) w hm, fun w _ => rofp_no rfl (r5on_no hx hy hp) w⟩
end Go.Proofs.YtmcodflbngkdcaaGreatDoor

namespace Go.Proofs.YtmcodflbngkdcaaGreatDoor
open Go.RowKit Go.Sort

set_option maxRecDepth 100000 in
theorem iskey_yes {x : Int} (CK : Hid (∀ w, Mds w → Calls Tryz.prog 13 #[.agg #[.int .u64 (l0 x), .int .u64 (l1 x), .int .u64 (l2 x), .int .u64 (l3 x), .int .u64 0, .int .u64 0, .int .u64 0, .int .u64 0, .bool false]] w fun e w' => e = .returned (.int .i64 62) ∧ Below w.heap.size w w')) (w : World) (hm : Mds w) :
    Calls Tryz.prog 7 #[.agg #[.int .u64 (l0 x), .int .u64 (l1 x), .int .u64 (l2 x), .int .u64 (l3 x)]] w fun e w' => e = .returned (.bool true) ∧ Below w.heap.size w w' := by
  go_enter Tryz.func7, Tryz.ntmps7
  go_wp2_with fail
  refine calls_world (fun W => Below w.heap.size w W ∧ Mds W) ⟨by repeat (first | with_reducible exact Below.refl _ _ | with_reducible refine Below.alloc ?_ (by first | omega | (simp; done) | (simp; omega)) _), hm.alloc _⟩ ?_
  rintro W ⟨B, hD⟩
  with_reducible refine (CK.out _ hD).mono ?_
  rintro e w9 ⟨rfl, hb⟩
  replace B := B.trans (hb.mono B.size)
  clear hb W hD
  go_wp2
  simp [bodyPost, results, Tryz.results7, go_sem]
  exact B
set_option maxRecDepth 100000 in
theorem iskey_no {x : Int} (CK : Hid (∀ w, Mds w → Calls Tryz.prog 13 #[.agg #[.int .u64 (l0 x), .int .u64 (l1 x), .int .u64 (l2 x), .int .u64 (l3 x), .int .u64 0, .int .u64 0, .int .u64 0, .int .u64 0, .bool false]] w fun e w' => e = .returned (.int .i64 61) ∧ Below w.heap.size w w')) (w : World) (hm : Mds w) :
    Calls Tryz.prog 7 #[.agg #[.int .u64 (l0 x), .int .u64 (l1 x), .int .u64 (l2 x), .int .u64 (l3 x)]] w fun e w' => e = .returned (.bool false) ∧ Below w.heap.size w w' := by
  go_enter Tryz.func7, Tryz.ntmps7
  go_wp2_with fail
  refine calls_world (fun W => Below w.heap.size w W ∧ Mds W) ⟨by repeat (first | with_reducible exact Below.refl _ _ | with_reducible refine Below.alloc ?_ (by first | omega | (simp; done) | (simp; omega)) _), hm.alloc _⟩ ?_
  rintro W ⟨B, hD⟩
  with_reducible refine (CK.out _ hD).mono ?_
  rintro e w9 ⟨rfl, hb⟩
  replace B := B.trans (hb.mono B.size)
  clear hb W hD
  go_wp2
  simp [bodyPost, results, Tryz.results7, go_sem]
  exact B
set_option maxRecDepth 100000 in
theorem pkey_bad {x : Int} {D : List Value} (eD : Hid (D = (List.replicate 20 (0 : Int)).map (Value.int .u8))) (IK : Hid (∀ w, Mds w → Calls Tryz.prog 7 #[.agg #[.int .u64 (l0 x), .int .u64 (l1 x), .int .u64 (l2 x), .int .u64 (l3 x)]] w fun e w' => e = .returned (.bool false) ∧ Below w.heap.size w w')) (w : World) (hm : Mds w) :
    Calls Tryz.prog 4 #[.agg #[.int .u64 (l0 x), .int .u64 (l1 x), .int .u64 (l2 x), .int .u64 (l3 x)]] w fun e w' => e = .returned (.tuple #[.agg D.toArray, .int .i64 60]) ∧ Below w.heap.size w w' := by
  go_enter Tryz.func4, Tryz.ntmps4
  go_wp2_with fail
  refine calls_world (fun W => Below w.heap.size w W ∧ Mds W ∧ Bts W (w.heap.size + 1) (List.replicate 20 0)) ⟨by repeat (first | with_reducible exact Below.refl _ _ | with_reducible refine Below.alloc ?_ (by first | omega | (simp; done) | (simp; omega)) _), (hm.alloc _).alloc _, Bts.new (List.replicate 20 0) _ (by simp)⟩ ?_
  rintro W ⟨B, hM, hR⟩
  with_reducible refine (IK.out _ hM).mono ?_
  rintro e w9 ⟨rfl, hb⟩
  replace B := B.trans (hb.mono B.size)
  replace hR := hR.keep (by simp) hb
  clear hb W hM
  have tr := hR.there (k := ((List.replicate 20 (0 : Int)).map (Value.int .u8)).toArray.size) (by simp)
  have o1 : w.heap.size ≤ w.heap.size + 1 := by omega
  have RR : Hid (Bts w9 (w.heap.size + 1) (List.replicate 20 0)) := hR
  clear hR
  generalize w.heap.size + 1 = br at *
  go_wp2_with ((refine wpList_store_mid rfl 26 _ _ rfl br 0 ((List.replicate 20 (0 : Int)).map (Value.int .u8)).toArray rfl rfl tr (by kernel_rfl) (one_cells _) ?_); (refine wpList_worldA (fun W => Below w.heap.size w W ∧ W.rangeAt br 0 D) (by rw [eD.out]; exact laid_in B o1 (RR.out.there (by simp))) ?_); (rintro W ⟨B', hD⟩))
  have ld := run_loadVar_mid (P := Tryz.prog) W br 0 26 D _ hD Tryz.underlying26 rfl (by rw [eD.out]; kernel_rfl)
  refine bodyPost_ret (v := .tuple #[.agg D.toArray, .int .i64 60]) ?_ rfl ⟨rfl, B'⟩
  simp [results, Tryz.results4, asAddr, ld]
set_option maxRecDepth 100000 in
theorem rkey_bad {x : Int} {D : List Value} (eD : Hid (D = (List.replicate 20 (0 : Int)).map (Value.int .u8))) (IK : Hid (∀ w, Calls Tryz.prog 10 #[.agg #[.int .u64 (l0 x), .int .u64 (l1 x), .int .u64 (l2 x), .int .u64 (l3 x)]] w fun e w' => e = .returned (.bool false) ∧ Below w.heap.size w w')) (w : World) :
    Calls Tryz.prog 5 #[.agg #[.int .u64 (l0 x), .int .u64 (l1 x), .int .u64 (l2 x), .int .u64 (l3 x)]] w fun e w' => e = .returned (.tuple #[.agg D.toArray, .int .i64 60]) ∧ Below w.heap.size w w' := by
  go_enter Tryz.func5, Tryz.ntmps5
  go_wp2_with fail
  refine calls_world (fun W => Below w.heap.size w W ∧ Bts W (w.heap.size + 1) (List.replicate 20 0)) ⟨by repeat (first | with_reducible exact Below.refl _ _ | with_reducible refine Below.alloc ?_ (by first | omega | (simp; done) | (simp; omega)) _), Bts.new (List.replicate 20 0) _ (by simp)⟩ ?_
  rintro W ⟨B, hR⟩
  with_reducible refine (IK.out _).mono ?_
  rintro e w9 ⟨rfl, hb⟩
  replace B := B.trans (hb.mono B.size)
  replace hR := hR.keep (by simp) hb
  clear hb W
  have tr := hR.there (k := ((List.replicate 20 (0 : Int)).map (Value.int .u8)).toArray.size) (by simp)
  have o1 : w.heap.size ≤ w.heap.size + 1 := by omega
  have RR : Hid (Bts w9 (w.heap.size + 1) (List.replicate 20 0)) := hR
  clear hR
  generalize w.heap.size + 1 = br at *
  go_wp2_with ((refine wpList_store_mid rfl 26 _ _ rfl br 0 ((List.replicate 20 (0 : Int)).map (Value.int .u8)).toArray rfl rfl tr (by kernel_rfl) (one_cells _) ?_); (refine wpList_worldA (fun W => Below w.heap.size w W ∧ W.rangeAt br 0 D) (by rw [eD.out]; exact laid_in B o1 (RR.out.there (by simp))) ?_); (rintro W ⟨B', hD⟩))
  have ld := run_loadVar_mid (P := Tryz.prog) W br 0 26 D _ hD Tryz.underlying26 rfl (by rw [eD.out]; kernel_rfl)
  refine bodyPost_ret (v := .tuple #[.agg D.toArray, .int .i64 60]) ?_ rfl ⟨rfl, B'⟩
  simp [results, Tryz.results5, asAddr, ld]
set_option maxRecDepth 100000 in
set_option maxHeartbeats 8000000 in
theorem pkey_ok {k x y e0 : Int} {i : Bool} {D : List Value} (kD : D.length = 20) (oc : D.toArray.all (·.oneCell') = true)
    (IK : Hid (∀ w, Mds w → Calls Tryz.prog 7 #[.agg #[.int .u64 (l0 k), .int .u64 (l1 k), .int .u64 (l2 k), .int .u64 (l3 k)]] w fun e w' => e = .returned (.bool true) ∧ Below w.heap.size w w'))
    (MG : Hid (∀ w, Mds w → Cols w → Calls Tryz.prog 9 #[.agg #[.int .u64 (l0 k), .int .u64 (l1 k), .int .u64 (l2 k), .int .u64 (l3 k)]] w fun e w' => e = .returned (.agg #[.int .u64 (l0 x), .int .u64 (l1 x), .int .u64 (l2 x), .int .u64 (l3 x), .int .u64 (l0 y), .int .u64 (l1 y), .int .u64 (l2 y), .int .u64 (l3 y), .bool i]) ∧ Below w.heap.size w w'))
    (OP : Hid (∀ w, Mds w → KtA w → Calls Tryz.prog 8 #[.agg #[.int .u64 (l0 x), .int .u64 (l1 x), .int .u64 (l2 x), .int .u64 (l3 x), .int .u64 (l0 y), .int .u64 (l1 y), .int .u64 (l2 y), .int .u64 (l3 y), .bool i]] w fun e w' => e = .returned (.tuple #[.agg D.toArray, .int .i64 e0]) ∧ Below w.heap.size w w')) (w : World) (hm : Mds w) (hc : Cols w) (hk : KtA w) :
    Calls Tryz.prog 4 #[.agg #[.int .u64 (l0 k), .int .u64 (l1 k), .int .u64 (l2 k), .int .u64 (l3 k)]] w fun e w' => e = .returned (.tuple #[.agg D.toArray, .int .i64 e0]) ∧ Below w.heap.size w w' := by
  have KD : Hid (D.length = 20) := kD
  have sz : D.toArray.size = 20 := by simp [kD]
  clear kD
  go_enter Tryz.func4, Tryz.ntmps4
  go_wp2_with fail
  refine calls_world (fun W => Below w.heap.size w W ∧ Mds W ∧ Cols W ∧ KtA W ∧ Nm W w.heap.size k ∧ Bts W (w.heap.size + 1) (List.replicate 20 0)) ⟨by repeat (first | with_reducible exact Below.refl _ _ | with_reducible refine Below.alloc ?_ (by first | omega | (simp; done) | (simp; omega)) _), (hm.alloc _).alloc _, (hc.alloc _).alloc _, (hk.alloc _).alloc _, (Nm.newb rfl).alloc _, Bts.new (List.replicate 20 0) _ (by simp)⟩ ?_
  rintro W ⟨B, hM, hC, hK, hN, hR⟩
  with_reducible refine (IK.out _ hM).mono ?_
  rintro e w1 ⟨rfl, hb⟩
  replace B := B.trans (hb.mono B.size)
  replace hM := hM.keep hb; replace hC := hC.keep hb; replace hK := hK.keep hb; replace hN := hN.keep hb
  replace hR := hR.keep (by simp) hb
  clear hb W hm hc hk
  have o1 : w.heap.size ≤ w.heap.size + 1 := by omega
  generalize w.heap.size + 1 = br at *
  have gN := hN.cells
  go_wp2_with fail
  refine calls_world (fun W => Below w.heap.size w W ∧ Mds W ∧ Cols W ∧ KtA W ∧ Bts W br (List.replicate 20 0)) ⟨B, hM, hC, hK, hR⟩ ?_
  clear B hM hC hK hN hR gN w1
  rintro W ⟨B, hM, hC, hK, hR⟩
  with_reducible refine (MG.out _ hM hC).mono ?_
  rintro e w1 ⟨rfl, hb⟩
  replace B := B.trans (hb.mono B.size)
  replace hM := hM.keep hb; replace hK := hK.keep hb
  replace hR := hR.keep (by simp) hb
  clear hb W hC
  go_wp2_with fail
  refine calls_world (fun W => Below w.heap.size w W ∧ Mds W ∧ KtA W ∧ Bts W br (List.replicate 20 0)) ⟨B, hM, hK, hR⟩ ?_
  clear B hM hK hR w1
  rintro W ⟨B, hM, hK, hR⟩
  with_reducible refine (OP.out _ hM hK).mono ?_
  rintro e w1 ⟨rfl, hb⟩
  replace B := B.trans (hb.mono B.size)
  replace hR := hR.keep (by simp) hb
  clear hb W hM hK
  have tr := hR.there (k := D.toArray.size) (by rw [sz]; rfl)
  clear hR
  go_wp2_with ((refine wpList_store_mid rfl 26 _ _ rfl br 0 D.toArray rfl rfl tr (by rw [sz]; kernel_rfl) oc ?_); (refine wpList_worldA (fun W => Below w.heap.size w W ∧ W.rangeAt br 0 D) (laid_in B o1 (by simpa using tr)) ?_); (rintro W ⟨B', hD⟩))
  have ld := run_loadVar_mid (P := Tryz.prog) W br 0 26 D _ hD Tryz.underlying26 rfl (by rw [KD.out]; kernel_rfl)
  refine bodyPost_ret (v := .tuple #[.agg D.toArray, .int .i64 e0]) ?_ rfl ⟨rfl, B'⟩
  simp [results, Tryz.results4, asAddr, ld]

set_option maxRecDepth 100000 in
set_option maxHeartbeats 8000000 in
theorem rkey_ok {k x y e0 : Int} {i : Bool} {D : List Value} (kD : D.length = 20) (oc : D.toArray.all (·.oneCell') = true)
    (IK : Hid (∀ w, Calls Tryz.prog 10 #[.agg #[.int .u64 (l0 k), .int .u64 (l1 k), .int .u64 (l2 k), .int .u64 (l3 k)]] w fun e w' => e = .returned (.bool true) ∧ Below w.heap.size w w'))
    (MG : Hid (∀ w, Calls Tryz.prog 11 #[.agg #[.int .u64 (l0 k), .int .u64 (l1 k), .int .u64 (l2 k), .int .u64 (l3 k)]] w fun e w' => e = .returned (.agg #[.int .u64 (l0 x), .int .u64 (l1 x), .int .u64 (l2 x), .int .u64 (l3 x), .int .u64 (l0 y), .int .u64 (l1 y), .int .u64 (l2 y), .int .u64 (l3 y), .bool i]) ∧ Below w.heap.size w w'))
    (OP : Hid (∀ w, RtA w → Calls Tryz.prog 12 #[.agg #[.int .u64 (l0 x), .int .u64 (l1 x), .int .u64 (l2 x), .int .u64 (l3 x), .int .u64 (l0 y), .int .u64 (l1 y), .int .u64 (l2 y), .int .u64 (l3 y), .bool i]] w fun e w' => e = .returned (.tuple #[.agg D.toArray, .int .i64 e0]) ∧ Below w.heap.size w w')) (w : World) (hk : RtA w) :
    Calls Tryz.prog 5 #[.agg #[.int .u64 (l0 k), .int .u64 (l1 k), .int .u64 (l2 k), .int .u64 (l3 k)]] w fun e w' => e = .returned (.tuple #[.agg D.toArray, .int .i64 e0]) ∧ Below w.heap.size w w' := by
  have KD : Hid (D.length = 20) := kD
  have sz : D.toArray.size = 20 := by simp [kD]
  clear kD
  go_enter Tryz.func5, Tryz.ntmps5
  go_wp2_with fail
  refine calls_world (fun W => Below w.heap.size w W ∧ RtA W ∧ Nm W w.heap.size k ∧ Bts W (w.heap.size + 1) (List.replicate 20 0)) ⟨by repeat (first | with_reducible exact Below.refl _ _ | with_reducible refine Below.alloc ?_ (by first | omega | (simp; done) | (simp; omega)) _), (hk.alloc _).alloc _, (Nm.newb rfl).alloc _, Bts.new (List.replicate 20 0) _ (by simp)⟩ ?_
  rintro W ⟨B, hK, hN, hR⟩
  with_reducible refine (IK.out _).mono ?_
  rintro e w1 ⟨rfl, hb⟩
  replace B := B.trans (hb.mono B.size)
  replace hK := hK.keep hb; replace hN := hN.keep hb
  replace hR := hR.keep (by simp) hb
  clear hb W hk
  have o1 : w.heap.size ≤ w.heap.size + 1 := by omega
  generalize w.heap.size + 1 = br at *
  have gN := hN.cells
  go_wp2_with fail
  refine calls_world (fun W => Below w.heap.size w W ∧ RtA W ∧ Bts W br (List.replicate 20 0)) ⟨B, hK, hR⟩ ?_
  clear B hK hN hR gN w1
  rintro W ⟨B, hK, hR⟩
  with_reducible refine (MG.out _).mono ?_
  rintro e w1 ⟨rfl, hb⟩
  replace B := B.trans (hb.mono B.size)
  replace hK := hK.keep hb
  replace hR := hR.keep (by simp) hb
  clear hb W
  have lr := hR.1.lt (by simp)
  have nr : w1.heap.size ≠ br := by omega
  go_wp2_with fail
  refine calls_world (fun W => Below w.heap.size w W ∧ RtA W ∧ Bts W br (List.replicate 20 0)) ⟨B.alloc B.size _, hK.alloc _, hR.alloc (by simp) _⟩ ?_
  clear B hK hR lr nr
  rintro W ⟨B, hK, hR⟩
  generalize w1.heap.size = bq at *
  clear w1
  with_reducible refine (OP.out _ hK).mono ?_
  rintro e w1 ⟨rfl, hb⟩
  replace B := B.trans (hb.mono B.size)
  replace hR := hR.keep (by simp) hb
  clear hb W hK
  have lr : w1.heap.size ≠ br := Nat.ne_of_gt (hR.1.lt (by simp))
  have F1 : ∀ t, Hid (Below w.heap.size w ((w1.alloc (.cells ((List.replicate 20 (0 : Int)).map (Value.int .u8)).toArray t)).setCells w1.heap.size 0 D) ∧ Bts ((w1.alloc (.cells ((List.replicate 20 (0 : Int)).map (Value.int .u8)).toArray t)).setCells w1.heap.size 0 D) br (List.replicate 20 0) ∧ ((w1.alloc (.cells ((List.replicate 20 (0 : Int)).map (Value.int .u8)).toArray t)).setCells w1.heap.size 0 D).rangeAt w1.heap.size 0 D) := fun t =>
    have hb : Below w1.heap.size w1 ((w1.alloc (.cells ((List.replicate 20 (0 : Int)).map (Value.int .u8)).toArray t)).setCells w1.heap.size 0 D) := below_setCells (Nat.le_refl _) D 0 _ ((Below.refl _ _).alloc (Nat.le_refl _) _)
    ⟨B.trans (hb.mono B.size), hR.keep (by simp) hb, World.rangeAt_setCells_same _ _ _ _ (there_new rfl (by rw [KD.out]; rfl))⟩
  clear B hR
  go_wp2_with (first | ((refine wpList_store_mid rfl 26 _ _ rfl w1.heap.size 0 D.toArray rfl rfl (there_new rfl (by rw [sz]; rfl)) (by rw [sz]; kernel_rfl) oc ?_); (refine wpList_worldA (fun W => Below w.heap.size w W ∧ Bts W br (List.replicate 20 0) ∧ W.rangeAt w1.heap.size 0 D) (F1 _).out ?_); (rintro W ⟨B, hR, hA⟩); (clear F1); (have tr := hR.there (k := D.toArray.size) (by rw [sz]; rfl))) | refine wpList_load_mid rfl 26 _ rfl w1.heap.size 0 rfl D _ hA Tryz.underlying26 rfl (by rw [KD.out]; kernel_rfl) ?_ | ((refine wpList_store_mid rfl 26 _ _ rfl br 0 D.toArray rfl rfl tr (by rw [sz]; kernel_rfl) oc ?_); (refine wpList_worldA (fun W => Below w.heap.size w W ∧ W.rangeAt br 0 D) (laid_in B o1 (by simpa using tr)) ?_); (clear tr hR hA); (rintro W ⟨B', hD⟩)))
  have ld := run_loadVar_mid (P := Tryz.prog) W br 0 26 D _ hD Tryz.underlying26 rfl (by rw [KD.out]; kernel_rfl)
  refine bodyPost_ret (v := .tuple #[.agg D.toArray, .int .i64 e0]) ?_ rfl ⟨rfl, B'⟩
  simp [results, Tryz.results5, asAddr, ld]

theorem anum_any (v : Int) (w : World) : Calls Tryz.prog 6 #[.int .i64 v] w fun e w' => e = .returned (.int .i64 v) ∧ Below w.heap.size w w' := by
  go_enter Tryz.func6, Tryz.ntmps6
  go_wp2
  simp [bodyPost, results, Tryz.results6, go_sem]
  exact Below.refl _ _

set_option maxRecDepth 100000 in
set_option maxHeartbeats 8000000 in
theorem akeys_walk {k e0 : Int} {D : List Value} (kD : D.length = 20) (oc : D.toArray.all (·.oneCell') = true) (EQ : ∀ w, (Op.equalIn 10000 26 (.agg D.toArray) (.agg D.toArray)).run Tryz.prog w = .ok true w)
    (C1 : Hid (∀ w, Mds w → Cols w → KtA w → Calls Tryz.prog 4 #[.agg #[.int .u64 (l0 k), .int .u64 (l1 k), .int .u64 (l2 k), .int .u64 (l3 k)]] w fun e w' => e = .returned (.tuple #[.agg D.toArray, .int .i64 e0]) ∧ Below w.heap.size w w'))
    (C2 : Hid (∀ w, RtA w → Calls Tryz.prog 5 #[.agg #[.int .u64 (l0 k), .int .u64 (l1 k), .int .u64 (l2 k), .int .u64 (l3 k)]] w fun e w' => e = .returned (.tuple #[.agg D.toArray, .int .i64 e0]) ∧ Below w.heap.size w w'))
    (N : Hid (∀ w, Calls Tryz.prog 6 #[.int .i64 e0] w fun e w' => e = .returned (.int .i64 e0) ∧ Below w.heap.size w w')) (w : World) (hm : Mds w) (hc : Cols w) (hk : KtA w) (hr : RtA w) :
    Calls Tryz.prog 3 #[.agg #[.int .u64 (l0 k), .int .u64 (l1 k), .int .u64 (l2 k), .int .u64 (l3 k)]] w fun e w' => e = .returned (.bool true) ∧ Below w.heap.size w w' := by
  have KD : Hid (D.length = 20) := kD
  have sz : D.toArray.size = 20 := by simp [kD]
  clear kD
  go_enter Tryz.func3, Tryz.ntmps3
  go_wp2_with fail
  refine calls_world (fun W => Below w.heap.size w W ∧ Mds W ∧ Cols W ∧ KtA W ∧ RtA W ∧ Nm W w.heap.size k) ⟨by repeat (first | with_reducible exact Below.refl _ _ | with_reducible refine Below.alloc ?_ (by first | omega | (simp; done) | (simp; omega)) _), hm.alloc _, hc.alloc _, hk.alloc _, hr.alloc _, Nm.newb rfl⟩ ?_
  rintro W ⟨B, hM, hC, hK, hR, hP⟩
  with_reducible refine (C1.out _ hM hC hK).mono ?_
  rintro e w1 ⟨rfl, hb⟩
  replace B := B.trans (hb.mono B.size)
  replace hR := hR.keep hb
  replace hP := hP.keep hb
  clear hb W hM hC hK hm hc hk hr
  have F1 : ∀ t, Hid (Below w.heap.size w ((w1.alloc (.cells ((List.replicate 20 (0 : Int)).map (Value.int .u8)).toArray t)).setCells w1.heap.size 0 D) ∧ RtA ((w1.alloc (.cells ((List.replicate 20 (0 : Int)).map (Value.int .u8)).toArray t)).setCells w1.heap.size 0 D) ∧ Nm ((w1.alloc (.cells ((List.replicate 20 (0 : Int)).map (Value.int .u8)).toArray t)).setCells w1.heap.size 0 D) w.heap.size k ∧ ((w1.alloc (.cells ((List.replicate 20 (0 : Int)).map (Value.int .u8)).toArray t)).setCells w1.heap.size 0 D).rangeAt w1.heap.size 0 D ∧ w1.heap.size < ((w1.alloc (.cells ((List.replicate 20 (0 : Int)).map (Value.int .u8)).toArray t)).setCells w1.heap.size 0 D).heap.size) := fun t =>
    have hb : Below w1.heap.size w1 ((w1.alloc (.cells ((List.replicate 20 (0 : Int)).map (Value.int .u8)).toArray t)).setCells w1.heap.size 0 D) := below_setCells (Nat.le_refl _) D 0 _ ((Below.refl _ _).alloc (Nat.le_refl _) _)
    have hc : ((w1.alloc (.cells ((List.replicate 20 (0 : Int)).map (Value.int .u8)).toArray t)).setCells w1.heap.size 0 D).rangeAt w1.heap.size 0 D := World.rangeAt_setCells_same _ _ _ _ (there_new rfl (by rw [KD.out]; rfl))
    ⟨B.trans (hb.mono B.size), hR.keep hb, hP.keep hb, hc, World.block_lt_of_cell? _ ⟨w1.heap.size, 0 + 0, none⟩ (hc 0 (D.getD 0 (.int .u8 0)) (by rw [List.getD, List.getElem?_eq_getElem (by rw [KD.out]; decide)]; rfl))⟩
  have lp : w1.heap.size ≠ w.heap.size := Nat.ne_of_gt hP.lt
  clear B hR hP
  go_wp2_with ((refine wpList_store_mid rfl 26 _ _ rfl w1.heap.size 0 D.toArray rfl rfl (there_new rfl (by rw [sz]; rfl)) (by rw [sz]; kernel_rfl) oc ?_); (refine wpList_worldA (fun W => Below w.heap.size w W ∧ RtA W ∧ Nm W w.heap.size k ∧ W.rangeAt w1.heap.size 0 D ∧ w1.heap.size < W.heap.size) (F1 _).out ?_); (rintro W ⟨B, hR, hP, hA, lA⟩); (clear F1); (have gP := hP.cells))
  refine calls_world (fun W => Below w.heap.size w W ∧ RtA W ∧ W.rangeAt w1.heap.size 0 D ∧ w1.heap.size < W.heap.size) ⟨B, hR, hA, lA⟩ ?_
  clear B hR hP hA gP lp lA W
  rintro W ⟨B, hR, hA, lA⟩
  generalize w1.heap.size = ba at *
  clear w1
  with_reducible refine (C2.out _ hR).mono ?_
  rintro e w2 ⟨rfl, hb⟩
  replace B := B.trans (hb.mono B.size)
  replace hA := range_keep hA hb lA
  have lB : ba < w2.heap.size := Nat.lt_of_lt_of_le lA hb.size
  clear hb W hR lA
  have F2 : ∀ t, Hid (Below w.heap.size w ((w2.alloc (.cells ((List.replicate 20 (0 : Int)).map (Value.int .u8)).toArray t)).setCells w2.heap.size 0 D) ∧ ((w2.alloc (.cells ((List.replicate 20 (0 : Int)).map (Value.int .u8)).toArray t)).setCells w2.heap.size 0 D).rangeAt ba 0 D ∧ ((w2.alloc (.cells ((List.replicate 20 (0 : Int)).map (Value.int .u8)).toArray t)).setCells w2.heap.size 0 D).rangeAt w2.heap.size 0 D) := fun t =>
    have hb : Below w2.heap.size w2 ((w2.alloc (.cells ((List.replicate 20 (0 : Int)).map (Value.int .u8)).toArray t)).setCells w2.heap.size 0 D) := below_setCells (Nat.le_refl _) D 0 _ ((Below.refl _ _).alloc (Nat.le_refl _) _)
    ⟨B.trans (hb.mono B.size), range_keep hA hb lB, World.rangeAt_setCells_same _ _ _ _ (there_new rfl (by rw [KD.out]; rfl))⟩
  clear B hA
  go_wp2_with (first | ((refine wpList_store_mid rfl 26 _ _ rfl w2.heap.size 0 D.toArray rfl rfl (there_new rfl (by rw [sz]; rfl)) (by rw [sz]; kernel_rfl) oc ?_); (refine wpList_worldA (fun W => Below w.heap.size w W ∧ W.rangeAt ba 0 D ∧ W.rangeAt w2.heap.size 0 D) (F2 _).out ?_); (rintro W ⟨B, hA, hB⟩); (clear F2)) | refine wpList_load_mid rfl 26 _ rfl ba 0 rfl D _ hA Tryz.underlying26 rfl (by rw [KD.out]; kernel_rfl) ?_ | refine wpList_load_mid rfl 26 _ rfl w2.heap.size 0 rfl D _ hB Tryz.underlying26 rfl (by rw [KD.out]; kernel_rfl) ?_)
  with_reducible refine (N.out _).mono ?_
  rintro e w3 ⟨rfl, hb⟩
  replace B := B.trans (hb.mono B.size)
  clear hb hA hB
  go_wp2
  simp [bodyPost, results, Tryz.results3, go_sem]
  exact B

theorem akeys_any {k : Int} (hn : Num k) (w : World) (hm : Mds w) (hc : Cols w) (hk : KtA w) (hr : RtA w) :
    Calls Tryz.prog 3 #[.agg #[.int .u64 (l0 k), .int .u64 (l1 k), .int .u64 (l2 k), .int .u64 (l3 k)]] w fun e w' => e = .returned (.bool true) ∧ Below w.heap.size w w' := by
  obtain ⟨z0, z1, z2, z3⟩ := zero_limbs
  have CK := echeck_any (r := k) (s := 0) (o := false) hn ⟨by decide, by decide⟩
  rw [z0, z1, z2, z3] at CK
  have f0 : fitN 0 = false := by decide
  have FT := r6fit_any hn
  cases hf : fitN k with
  | false =>
    rw [hf] at FT
    rw [show chkN k 0 = 61 by unfold chkN; rw [if_pos hf]] at CK
    exact akeys_walk (D := (List.replicate 20 (0 : Int)).map (Value.int .u8)) (by simp) (one_cells _) (fun w => by rw [eq_adr (by simp) (by simp) w]; simp) (fun w hm _ _ => pkey_bad rfl (fun w hm => iskey_no CK w hm) w hm) (fun w _ => rkey_bad rfl FT w) (fun w => anum_any 60 w) w hm hc hk hr
  | true =>
    rw [hf] at FT
    rw [show chkN k 0 = 62 by unfold chkN; rw [if_neg (by rw [hf]; decide), if_pos f0]] at CK
    obtain ⟨x, y, i, hv, ep⟩ := rep_pt (p := EC.smul k.toNat EC.gJ.pt) (EC.smul_on EC.gJ_on k.toNat)
    obtain ⟨D, e0, kD, oc, EQ, C1, C2⟩ := ofp_both (i := i) hv.low.1.num hv.low.2.num
    exact akeys_walk kD oc EQ (fun w hm hc hk => pkey_ok kD oc (fun w hm => iskey_yes CK w hm) (fun w hm hc => cmulg_any hn hv ep w hm hc) C1 w hm hc hk) (fun w hr => rkey_ok kD oc FT (fun w => r5mulg_any hn hv ep w) C2 w hr) (fun w => anum_any e0 w) w hm hc hk hr
end Go.Proofs.YtmcodflbngkdcaaGreatDoor
