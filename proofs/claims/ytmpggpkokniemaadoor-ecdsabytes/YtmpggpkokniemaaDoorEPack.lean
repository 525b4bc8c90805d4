import Derived.Test.YtmpggpkokniemaaDoorEConc
import Derived.Test.YtmpggpkokniemaaDoorGet
import Derived.Test.YtmpggpkokniemaaDoorCTrs
namespace Go.Proofs.YtmpggpkokniemaaDoor
open Go.RowKit Go.Sort

theorem own_base {W : World} {b0 b1 s n : Nat} {e : TypeId} {v : Value} {xs : List Value} (h : W.ownsRow b1 e s v n xs) (hb : b0 ≤ b1) : W.ownsRow b0 e s v n xs := by
  refine ⟨h.1, ?_⟩
  rcases h.2 with h' | ⟨g, cap, cur, h1, h2, h3⟩
  · exact .inl h'
  · exact .inr ⟨g, cap, cur, h1, Nat.le_trans hb h2, h3⟩
theorem bts_range {W : World} {b : Nat} {l : List Int} (h : W.rangeAt b 0 (l.map (Value.int .u8))) (hf : Loose W b l.length) : Bts W b l := by
  refine ⟨fun i hi => ?_, hf⟩
  have := h i (.int .u8 (l.getD i 0)) (by rw [List.getElem?_map, List.getElem?_eq_getElem hi]; simp [List.getD, hi])
  rwa [Nat.zero_add] at this
/-- The bytes of s, the mark in the first. -/
def markL (o : Bool) (A : List Int) : List Int := if o then A.set 0 (bits .or .u8 (A.getD 0 0) 128) else A
theorem markL_len (o : Bool) (A : List Int) : (markL o A).length = A.length := by unfold markL; split <;> simp
theorem alloc_b32 (dst : Option Tmp) (pos : String) (ty : TypeId) (ρ : Operand → Value) (w : World) : (execOp ρ { dst := dst, op := Op.alloc 39, type := ty, pos := pos, after := #[], guard := none }).run Tryd.prog w = .ok (.value (.pointer (some ⟨w.heap.size, 0, none⟩))) (w.alloc (.cells (((List.replicate 32 (0 : Int)).map (Value.int .u8)).toArray) 39)) := by
  simp [execOp, go_sem]

set_option maxRecDepth 100000 in
set_option maxHeartbeats 8000000 in
theorem epack_even {r s : Int} {L1 L2 : List Int} {M1 M2 : List Value} (r1 : L1.length = 32) (r2 : L2.length = 32) (e1 : Hid (M1 = L1.map (Value.int .u8))) (e2 : Hid (M2 = L2.map (Value.int .u8))) (C1 : Hid (∀ w, Calls Tryd.prog 11 #[.agg #[.int .u64 (l0 r), .int .u64 (l1 r), .int .u64 (l2 r), .int .u64 (l3 r)]] w fun e w' => e = .returned (.agg M1.toArray) ∧ Below w.heap.size w w')) (C2 : Hid (∀ w, Calls Tryd.prog 11 #[.agg #[.int .u64 (l0 s), .int .u64 (l1 s), .int .u64 (l2 s), .int .u64 (l3 s)]] w fun e w' => e = .returned (.agg M2.toArray) ∧ Below w.heap.size w w')) (CK : Hid (∀ w, Mds w → Calls Tryd.prog 8 #[.agg #[.int .u64 (l0 r), .int .u64 (l1 r), .int .u64 (l2 r), .int .u64 (l3 r), .int .u64 (l0 s), .int .u64 (l1 s), .int .u64 (l2 s), .int .u64 (l3 s), .bool false]] w fun e w' => e = .returned (.int .i64 0) ∧ Below w.heap.size w w')) (w : World) (hm : Mds w) :
    Calls Tryd.prog 6 #[.agg #[.int .u64 (l0 r), .int .u64 (l1 r), .int .u64 (l2 r), .int .u64 (l3 r), .int .u64 (l0 s), .int .u64 (l1 s), .int .u64 (l2 s), .int .u64 (l3 s), .bool false]] w fun e w' => ∃ v, e = .returned (.tuple #[v, .int .i64 0]) ∧ World.ownsRow w' w.heap.size 5 1 v 64 ((L1 ++ markL false L2).map fun z => Value.int .u8 z) ∧ Below w.heap.size w w' := by
  go_enter Tryd.func6, Tryd.ntmps6
  go_wp2_with fail
  refine calls_world (fun W => Below w.heap.size w W ∧ Mds W ∧ Pnt W w.heap.size r s false) ⟨by repeat (first | with_reducible exact Below.refl _ _ | with_reducible refine Below.alloc ?_ (by first | omega | (simp; done) | (simp; omega)) _), hm.alloc _, Pnt.new rfl⟩ ?_
  rintro W ⟨B, hD, hP⟩
  with_reducible refine (CK.out _ hD).mono ?_
  rintro e w1 ⟨rfl, hb⟩
  replace B := B.trans (hb.mono B.size)
  replace hP := hP.keep hb
  clear hb hD W
  go_wp2_with fail
  refine wp_world (fun W => Below w.heap.size w W ∧ Pnt W w.heap.size r s false) ⟨B, hP⟩ ?_
  clear B hP
  rintro W ⟨B, hP⟩
  clear w1
  refine alloc2_tail (A := ?AA) 6 (by kernel_rfl) (by kernel_rfl) rfl rfl rfl rfl (alloc_b32 _ _ _) (alloc_b32 _ _ _) (fun V hV => ?HH) (fun V V2 w1 hV hw hV2 hw2 hdd => ?TT)
  case HH =>
    have ghP := (hP.keep hV).grown
    unfold Gr
    simp only [List.take_succ_cons, List.take_zero]
    repeat
      first
        | go_big_quiet_skip
        | (go_big_quiet_want; go_big_quiet_op; go_big_quiet_on)
        | (go_big_quiet_want
           go_big_quiet_op
           apply Exists.intro
           refine ⟨fun p => ?_, ?_⟩
           · (first | (go_at_call 11; with_reducible exact Calls.regrown_of (C1.out _)) | (go_at_call 11; with_reducible exact Calls.regrown_of (C2.out _)))
           go_big_quiet_on)
    refine wpQuiet_nil ?_
    exact rfl
  case TT =>
    have hb := alloc_below hV hw
    have h5 := (Bts.new (List.replicate 32 0) 39 (W := V) rfl).keep (by simp) hw
    have h6 := (Bts.new (List.replicate 32 0) 39 (W := V2) rfl).keep (by simp) hw2
    have n5 : V.heap.size ≠ w.heap.size := Nat.ne_of_gt (Nat.lt_of_lt_of_le hP.lt hV.size)
    have n6 : V2.heap.size ≠ w.heap.size := Nat.ne_of_gt (Nat.lt_of_lt_of_le hP.lt hV2.size)
    have g5 : w.heap.size ≤ V.heap.size := Nat.le_trans B.size hV.size
    have g6 : w.heap.size ≤ V2.heap.size := Nat.le_trans B.size hV2.size
    replace B := B.trans (hb.mono B.size)
    replace hP := hP.keep hb
    clear hb hw hw2 hV hV2 W
    generalize V.heap.size = b5 at *
    generalize V2.heap.size = b6 at *
    clear V V2
    have k1 : M1.length = 32 := by rw [e1.out, List.length_map]; exact r1
    have k2 : M2.length = 32 := by rw [e2.out, List.length_map]; exact r2
    have sz1 : M1.toArray.size = 32 := by rw [List.size_toArray]; exact k1
    have sz2 : M2.toArray.size = 32 := by rw [List.size_toArray]; exact k2
    have t1 := h5.there (k := M1.toArray.size) (by rw [sz1]; rfl)
    have t2 := World.there_setCells (h6.there (k := M2.toArray.size) (by rw [sz2]; rfl)) b5 0 M1
    have oc1 : M1.toArray.all (·.oneCell') = true := by rw [e1.out]; exact one_cells L1
    have oc2 : M2.toArray.all (·.oneCell') = true := by rw [e2.out]; exact one_cells L2
    have FF : Hid (Below w.heap.size w ((w1.setCells b5 0 M1).setCells b6 0 M2) ∧ Pnt ((w1.setCells b5 0 M1).setCells b6 0 M2) w.heap.size r s false ∧ Bts ((w1.setCells b5 0 M1).setCells b6 0 M2) b5 L1 ∧ Bts ((w1.setCells b5 0 M1).setCells b6 0 M2) b6 L2) := by
      refine ⟨below_cells (below_cells B g5 _ _) g6 _ _, Cl.cells_put (Cl.cells_put hP n5 _ _) n6 _ _, bts_range (by rw [← e1.out]; exact World.rangeAt_setCells_apart (World.rangeAt_setCells_same _ _ _ _ (by simpa using t1)) _ _ _ (.inl hdd)) ?_, bts_range (by rw [← e2.out]; exact World.rangeAt_setCells_same _ _ _ _ (by simpa using t2)) ?_⟩
      · rw [r1]; exact (h5.2.cells_put _ _).cells_put _ _
      · rw [r2]; exact (h6.2.cells_put _ _).cells_put _ _
    clear B hP h5 h6
    simp only [List.drop_succ_cons, List.drop_zero, Act.put, List.setIfInBounds_toArray, List.set_cons_zero, List.set_cons_succ]
    go_wp2_with (first | refine wpList_store_mid rfl 39 _ _ rfl b5 0 M1.toArray rfl rfl t1 (by rw [sz1]; kernel_rfl) oc1 ?_ | (refine wpList_store_mid rfl 39 _ _ rfl b6 0 M2.toArray rfl rfl t2 (by rw [sz2]; kernel_rfl) oc2 ?_; refine wpList_world (fun W => Below w.heap.size w W ∧ Pnt W w.heap.size r s false ∧ Bts W b5 L1 ∧ Bts W b6 L2) FF.out ?_; clear FF t1 t2 oc1 oc2 sz1 sz2; rintro W ⟨B, hP, hA, hB⟩; have gP := hP.cells; have z0 := hB.1 0 (by rw [r2]; decide); obtain ⟨zz, ez⟩ : ∃ z, z = L2.getD 0 0 := ⟨_, rfl⟩; have EZ : Hid (zz = L2.getD 0 0) := ez; rw [← ez] at z0; clear ez; have f0 := hB.2 0 (by rw [r2]; decide)))
    refine wp_world (fun W => Below w.heap.size w W ∧ Bts W b5 L1 ∧ Bts W b6 (markL false L2)) ⟨B, hA, hB⟩ ?_
    clear B hP hA hB gP z0 f0
    rintro W2 ⟨B, hA, hB⟩
    clear W
    have m2 := markL_len false L2
    refine below_tail 2 (by kernel_rfl) (by kernel_rfl) ?_
    simp only [List.take_succ_cons, List.take_zero, List.drop_succ_cons, List.drop_zero]
    repeat
      first
        | go_big_quiet_skip
        | (go_big_quiet_want; go_big_quiet_op; go_big_quiet_on)
    refine wpQuiet_nil ?_
    rintro w2 ⟨p, rfl⟩
    have hb := below_regrown W2 p.d p.os
    generalize grow (redrawn W2 p.d) p.os = w2 at *
    replace B := B.trans (hb.mono B.size)
    replace hA := hA.keep (by rw [r1]; decide) hb
    replace hB := hB.keep (by rw [m2, r2]; decide) hb
    clear hb W2
    go_wp2_with fail
    refine calls_world (fun W => Below w.heap.size w W ∧ W.cell? ⟨w2.heap.size, 0, none⟩ = some (.slice (some ⟨b5, 0, none⟩) 32 32) ∧ W.cell? ⟨w2.heap.size, 1, none⟩ = some (.slice (some ⟨b6, 0, none⟩) 32 32) ∧ Bts W b5 L1 ∧ Bts W b6 (markL false L2)) ⟨B.alloc B.size _, by simp [go_sem], by simp [go_sem], hA.alloc (by rw [r1]; decide) _, hB.alloc (by rw [m2, r2]; decide) _⟩ ?_
    clear B hA hB
    rintro W ⟨B, c0, c1, hA, hB⟩
    generalize w2.heap.size = bs at *
    clear w2
    have rA := hA.1.range; have rB := hB.1.range
    with_reducible refine (concat64 (A1 := L1) (A2 := markL false L2) r1 (m2.trans r2) _ c0 c1 rA rB).mono ?_
    rintro e w3 ⟨v, rfl, ho, hb⟩
    have O := own_base ho B.size
    replace B := B.trans (hb.mono B.size)
    clear hb ho c0 c1 hA hB rA rB W
    have OO : Hid (World.ownsRow w3 w.heap.size 5 1 v 64 ((L1 ++ markL false L2).map fun z => Value.int .u8 z) ∧ Below w.heap.size w w3) := ⟨O, B⟩
    clear O B
    go_wp2
    simp [bodyPost, results, Tryd.results6, go_sem]
    rw [← List.map_append]
    exact OO.out

set_option maxRecDepth 100000 in
set_option maxHeartbeats 8000000 in
theorem epack_odd {r s : Int} {L1 L2 : List Int} {M1 M2 : List Value} (r1 : L1.length = 32) (r2 : L2.length = 32) (e1 : Hid (M1 = L1.map (Value.int .u8))) (e2 : Hid (M2 = L2.map (Value.int .u8))) (C1 : Hid (∀ w, Calls Tryd.prog 11 #[.agg #[.int .u64 (l0 r), .int .u64 (l1 r), .int .u64 (l2 r), .int .u64 (l3 r)]] w fun e w' => e = .returned (.agg M1.toArray) ∧ Below w.heap.size w w')) (C2 : Hid (∀ w, Calls Tryd.prog 11 #[.agg #[.int .u64 (l0 s), .int .u64 (l1 s), .int .u64 (l2 s), .int .u64 (l3 s)]] w fun e w' => e = .returned (.agg M2.toArray) ∧ Below w.heap.size w w')) (CK : Hid (∀ w, Mds w → Calls Tryd.prog 8 #[.agg #[.int .u64 (l0 r), .int .u64 (l1 r), .int .u64 (l2 r), .int .u64 (l3 r), .int .u64 (l0 s), .int .u64 (l1 s), .int .u64 (l2 s), .int .u64 (l3 s), .bool true]] w fun e w' => e = .returned (.int .i64 0) ∧ Below w.heap.size w w')) (w : World) (hm : Mds w) :
    Calls Tryd.prog 6 #[.agg #[.int .u64 (l0 r), .int .u64 (l1 r), .int .u64 (l2 r), .int .u64 (l3 r), .int .u64 (l0 s), .int .u64 (l1 s), .int .u64 (l2 s), .int .u64 (l3 s), .bool true]] w fun e w' => ∃ v, e = .returned (.tuple #[v, .int .i64 0]) ∧ World.ownsRow w' w.heap.size 5 1 v 64 ((L1 ++ markL true L2).map fun z => Value.int .u8 z) ∧ Below w.heap.size w w' := by
  go_enter Tryd.func6, Tryd.ntmps6
  go_wp2_with fail
  refine calls_world (fun W => Below w.heap.size w W ∧ Mds W ∧ Pnt W w.heap.size r s true) ⟨by repeat (first | with_reducible exact Below.refl _ _ | with_reducible refine Below.alloc ?_ (by first | omega | (simp; done) | (simp; omega)) _), hm.alloc _, Pnt.new rfl⟩ ?_
  rintro W ⟨B, hD, hP⟩
  with_reducible refine (CK.out _ hD).mono ?_
  rintro e w1 ⟨rfl, hb⟩
  replace B := B.trans (hb.mono B.size)
  replace hP := hP.keep hb
  clear hb hD W
  go_wp2_with fail
  refine wp_world (fun W => Below w.heap.size w W ∧ Pnt W w.heap.size r s true) ⟨B, hP⟩ ?_
  clear B hP
  rintro W ⟨B, hP⟩
  clear w1
  refine alloc2_tail (A := ?AA) 6 (by kernel_rfl) (by kernel_rfl) rfl rfl rfl rfl (alloc_b32 _ _ _) (alloc_b32 _ _ _) (fun V hV => ?HH) (fun V V2 w1 hV hw hV2 hw2 hdd => ?TT)
  case HH =>
    have ghP := (hP.keep hV).grown
    unfold Gr
    simp only [List.take_succ_cons, List.take_zero]
    repeat
      first
        | go_big_quiet_skip
        | (go_big_quiet_want; go_big_quiet_op; go_big_quiet_on)
        | (go_big_quiet_want
           go_big_quiet_op
           apply Exists.intro
           refine ⟨fun p => ?_, ?_⟩
           · (first | (go_at_call 11; with_reducible exact Calls.regrown_of (C1.out _)) | (go_at_call 11; with_reducible exact Calls.regrown_of (C2.out _)))
           go_big_quiet_on)
    refine wpQuiet_nil ?_
    exact rfl
  case TT =>
    have hb := alloc_below hV hw
    have h5 := (Bts.new (List.replicate 32 0) 39 (W := V) rfl).keep (by simp) hw
    have h6 := (Bts.new (List.replicate 32 0) 39 (W := V2) rfl).keep (by simp) hw2
    have n5 : V.heap.size ≠ w.heap.size := Nat.ne_of_gt (Nat.lt_of_lt_of_le hP.lt hV.size)
    have n6 : V2.heap.size ≠ w.heap.size := Nat.ne_of_gt (Nat.lt_of_lt_of_le hP.lt hV2.size)
    have g5 : w.heap.size ≤ V.heap.size := Nat.le_trans B.size hV.size
    have g6 : w.heap.size ≤ V2.heap.size := Nat.le_trans B.size hV2.size
    replace B := B.trans (hb.mono B.size)
    replace hP := hP.keep hb
    clear hb hw hw2 hV hV2 W
    generalize V.heap.size = b5 at *
    generalize V2.heap.size = b6 at *
    clear V V2
    have k1 : M1.length = 32 := by rw [e1.out, List.length_map]; exact r1
    have k2 : M2.length = 32 := by rw [e2.out, List.length_map]; exact r2
    have sz1 : M1.toArray.size = 32 := by rw [List.size_toArray]; exact k1
    have sz2 : M2.toArray.size = 32 := by rw [List.size_toArray]; exact k2
    have t1 := h5.there (k := M1.toArray.size) (by rw [sz1]; rfl)
    have t2 := World.there_setCells (h6.there (k := M2.toArray.size) (by rw [sz2]; rfl)) b5 0 M1
    have oc1 : M1.toArray.all (·.oneCell') = true := by rw [e1.out]; exact one_cells L1
    have oc2 : M2.toArray.all (·.oneCell') = true := by rw [e2.out]; exact one_cells L2
    have FF : Hid (Below w.heap.size w ((w1.setCells b5 0 M1).setCells b6 0 M2) ∧ Pnt ((w1.setCells b5 0 M1).setCells b6 0 M2) w.heap.size r s true ∧ Bts ((w1.setCells b5 0 M1).setCells b6 0 M2) b5 L1 ∧ Bts ((w1.setCells b5 0 M1).setCells b6 0 M2) b6 L2) := by
      refine ⟨below_cells (below_cells B g5 _ _) g6 _ _, Cl.cells_put (Cl.cells_put hP n5 _ _) n6 _ _, bts_range (by rw [← e1.out]; exact World.rangeAt_setCells_apart (World.rangeAt_setCells_same _ _ _ _ (by simpa using t1)) _ _ _ (.inl hdd)) ?_, bts_range (by rw [← e2.out]; exact World.rangeAt_setCells_same _ _ _ _ (by simpa using t2)) ?_⟩
      · rw [r1]; exact (h5.2.cells_put _ _).cells_put _ _
      · rw [r2]; exact (h6.2.cells_put _ _).cells_put _ _
    clear B hP h5 h6
    simp only [List.drop_succ_cons, List.drop_zero, Act.put, List.setIfInBounds_toArray, List.set_cons_zero, List.set_cons_succ]
    go_wp2_with (first | refine wpList_store_mid rfl 39 _ _ rfl b5 0 M1.toArray rfl rfl t1 (by rw [sz1]; kernel_rfl) oc1 ?_ | (refine wpList_store_mid rfl 39 _ _ rfl b6 0 M2.toArray rfl rfl t2 (by rw [sz2]; kernel_rfl) oc2 ?_; refine wpList_world (fun W => Below w.heap.size w W ∧ Pnt W w.heap.size r s true ∧ Bts W b5 L1 ∧ Bts W b6 L2) FF.out ?_; clear FF t1 t2 oc1 oc2 sz1 sz2; rintro W ⟨B, hP, hA, hB⟩; have gP := hP.cells; have z0 := hB.1 0 (by rw [r2]; decide); obtain ⟨zz, ez⟩ : ∃ z, z = L2.getD 0 0 := ⟨_, rfl⟩; have EZ : Hid (zz = L2.getD 0 0) := ez; rw [← ez] at z0; clear ez; have f0 := hB.2 0 (by rw [r2]; decide)))
    refine wp_world (fun W => Below w.heap.size w W ∧ Bts W b5 L1 ∧ Bts W b6 (markL true L2)) ⟨Below.setCell B g6 _, hA.other (Ne.symm hdd) _, by rw [show markL true L2 = L2.set 0 (bits .or .u8 zz 128) by rw [EZ.out]; rfl]; exact hB.set 0 (by rw [r2]; decide) _⟩ ?_
    clear B hP hA hB gP z0 f0
    rintro W2 ⟨B, hA, hB⟩
    clear W
    have m2 := markL_len true L2
    refine below_tail 2 (by kernel_rfl) (by kernel_rfl) ?_
    simp only [List.take_succ_cons, List.take_zero, List.drop_succ_cons, List.drop_zero]
    repeat
      first
        | go_big_quiet_skip
        | (go_big_quiet_want; go_big_quiet_op; go_big_quiet_on)
    refine wpQuiet_nil ?_
    rintro w2 ⟨p, rfl⟩
    have hb := below_regrown W2 p.d p.os
    generalize grow (redrawn W2 p.d) p.os = w2 at *
    replace B := B.trans (hb.mono B.size)
    replace hA := hA.keep (by rw [r1]; decide) hb
    replace hB := hB.keep (by rw [m2, r2]; decide) hb
    clear hb W2
    go_wp2_with fail
    refine calls_world (fun W => Below w.heap.size w W ∧ W.cell? ⟨w2.heap.size, 0, none⟩ = some (.slice (some ⟨b5, 0, none⟩) 32 32) ∧ W.cell? ⟨w2.heap.size, 1, none⟩ = some (.slice (some ⟨b6, 0, none⟩) 32 32) ∧ Bts W b5 L1 ∧ Bts W b6 (markL true L2)) ⟨B.alloc B.size _, by simp [go_sem], by simp [go_sem], hA.alloc (by rw [r1]; decide) _, hB.alloc (by rw [m2, r2]; decide) _⟩ ?_
    clear B hA hB
    rintro W ⟨B, c0, c1, hA, hB⟩
    generalize w2.heap.size = bs at *
    clear w2
    have rA := hA.1.range; have rB := hB.1.range
    with_reducible refine (concat64 (A1 := L1) (A2 := markL true L2) r1 (m2.trans r2) _ c0 c1 rA rB).mono ?_
    rintro e w3 ⟨v, rfl, ho, hb⟩
    have O := own_base ho B.size
    replace B := B.trans (hb.mono B.size)
    clear hb ho c0 c1 hA hB rA rB W
    have OO : Hid (World.ownsRow w3 w.heap.size 5 1 v 64 ((L1 ++ markL true L2).map fun z => Value.int .u8 z) ∧ Below w.heap.size w w3) := ⟨O, B⟩
    clear O B
    go_wp2
    simp [bodyPost, results, Tryd.results6, go_sem]
    rw [← List.map_append]
    exact OO.out
end Go.Proofs.YtmpggpkokniemaaDoor
