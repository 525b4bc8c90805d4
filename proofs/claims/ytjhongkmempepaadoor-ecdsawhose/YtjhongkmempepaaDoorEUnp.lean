import Derived.Test.YtjhongkmempepaaDoorEConc
import Derived.Laws.Cover3
import Derived.Great.Walk
import Derived.Test.YtjhongkmempepaaDoorEText
import Derived.Test.YtjhongkmempepaaDoorERec
namespace Go.Proofs.YtjhongkmempepaaDoor
open Go.RowKit Go.Sort

set_option maxRecDepth 100000 in
set_option maxHeartbeats 8000000 in
theorem eunp_walk {A1 A2 : List Int} {M : List Value} {g cap : Nat} {y r s : Int} {od : Bool} (eo : (bits .and .u8 y 128 != 0) = od) (hc : 64 ≤ cap) (k0 : A2.length = 32) (ey : Hid (y = A2.getD 0 0)) (eM : Hid (M = A2.map (Value.int .u8)))
    (W1 : Hid (∀ w, HAt w g A1 → Calls Tryd.prog 39 #[.slice (some ⟨g, 0, none⟩) 32 cap] w fun e w' => e = .returned (.agg #[.int .u64 (l0 r), .int .u64 (l1 r), .int .u64 (l2 r), .int .u64 (l3 r)]) ∧ Below w.heap.size w w'))
    (W2 : Hid (∀ b w, HAt w b (A2.set 0 (bits .andNot .u8 y 128)) → Calls Tryd.prog 39 #[.slice (some ⟨b, 0, none⟩) 32 32] w fun e w' => e = .returned (.agg #[.int .u64 (l0 s), .int .u64 (l1 s), .int .u64 (l2 s), .int .u64 (l3 s)]) ∧ Below w.heap.size w w'))
    (CK : Hid (∀ w, Mds w → Calls Tryd.prog 6 #[.agg #[.int .u64 (l0 r), .int .u64 (l1 r), .int .u64 (l2 r), .int .u64 (l3 r), .int .u64 (l0 s), .int .u64 (l1 s), .int .u64 (l2 s), .int .u64 (l3 s), .bool od]] w fun e w' => e = .returned (.int .i64 0) ∧ Below w.heap.size w w'))
    (w : World) (hm : Mds w) (h1 : HAt w g A1) (h2 : w.rangeAt g 32 M) :
    Calls Tryd.prog 16 #[.slice (some ⟨g, 0, none⟩) 64 cap] w fun e w' => e = .returned (.tuple #[.agg #[.int .u64 (l0 r), .int .u64 (l1 r), .int .u64 (l2 r), .int .u64 (l3 r), .int .u64 (l0 s), .int .u64 (l1 s), .int .u64 (l2 s), .int .u64 (l3 s), .bool od], .int .i64 0]) ∧ Below w.heap.size w w' := by
  have k2 : M.length = 32 := by rw [eM.out, List.length_map]; exact k0
  have gl : g < w.heap.size := h1.lt
  have H1 : Hid (HAt w g A1) := h1
  have ra : ∀ o, (w.alloc o).rangeAt g 32 M := fun o j v hv => cell_keep ((Below.refl _ _).alloc (Nat.le_refl _) o) (h2 j v hv)
  clear h1 h2
  have hat : ∀ w, (Instr.arrayAt 22 (.slice (some ⟨g, 32, none⟩) 32 (cap - 32))).run Tryd.prog w = .ok (.pointer (some ⟨g, 32, none⟩)) w := fun w => run_arrayAt w 22 _ 32 _ 32 _ Tryd.underlying22 (Nat.le_refl _)
  have nc : cap ≠ 32 := by omega
  have nc2 : (32 : Int) ≤ (cap : Int) := by omega
  have nc3 : (64 : Int) ≤ (cap : Int) := by omega
  go_enter Tryd.func16, Tryd.ntmps16
  have sz : M.toArray.size = 32 := by rw [List.size_toArray]; exact k2
  have oc : M.toArray.all (·.oneCell') = true := by rw [eM.out]; exact one_cells A2
  have tr : ((w.alloc (.cells #[.int .u64 0, .int .u64 0, .int .u64 0, .int .u64 0, .int .u64 0, .int .u64 0, .int .u64 0, .int .u64 0, .bool false] 28)).alloc (.cells (((List.replicate 32 (0 : Int)).map (Value.int .u8)).toArray) 22)).there (w.heap.size + 1) 0 M.toArray.size := (Bts.new (List.replicate 32 0) 22 (by simp)).there (by rw [sz]; rfl)
  have hs : (w.alloc (.cells #[.int .u64 0, .int .u64 0, .int .u64 0, .int .u64 0, .int .u64 0, .int .u64 0, .int .u64 0, .int .u64 0, .bool false] 28)).heap.size = w.heap.size + 1 := by simp
  have FF : Hid (Below w.heap.size w (((w.alloc (.cells #[.int .u64 0, .int .u64 0, .int .u64 0, .int .u64 0, .int .u64 0, .int .u64 0, .int .u64 0, .int .u64 0, .bool false] 28)).alloc (.cells (((List.replicate 32 (0 : Int)).map (Value.int .u8)).toArray) 22)).setCells (w.heap.size + 1) 0 M) ∧ Mds (((w.alloc (.cells #[.int .u64 0, .int .u64 0, .int .u64 0, .int .u64 0, .int .u64 0, .int .u64 0, .int .u64 0, .int .u64 0, .bool false] 28)).alloc (.cells (((List.replicate 32 (0 : Int)).map (Value.int .u8)).toArray) 22)).setCells (w.heap.size + 1) 0 M) ∧ HAt (((w.alloc (.cells #[.int .u64 0, .int .u64 0, .int .u64 0, .int .u64 0, .int .u64 0, .int .u64 0, .int .u64 0, .int .u64 0, .bool false] 28)).alloc (.cells (((List.replicate 32 (0 : Int)).map (Value.int .u8)).toArray) 22)).setCells (w.heap.size + 1) 0 M) g A1 ∧ Bk9 (((w.alloc (.cells #[.int .u64 0, .int .u64 0, .int .u64 0, .int .u64 0, .int .u64 0, .int .u64 0, .int .u64 0, .int .u64 0, .bool false] 28)).alloc (.cells (((List.replicate 32 (0 : Int)).map (Value.int .u8)).toArray) 22)).setCells (w.heap.size + 1) 0 M) w.heap.size ∧ Bts (((w.alloc (.cells #[.int .u64 0, .int .u64 0, .int .u64 0, .int .u64 0, .int .u64 0, .int .u64 0, .int .u64 0, .int .u64 0, .bool false] 28)).alloc (.cells (((List.replicate 32 (0 : Int)).map (Value.int .u8)).toArray) 22)).setCells (w.heap.size + 1) 0 M) (w.heap.size + 1) A2) := by
    have B0 : Below w.heap.size w ((w.alloc (.cells #[.int .u64 0, .int .u64 0, .int .u64 0, .int .u64 0, .int .u64 0, .int .u64 0, .int .u64 0, .int .u64 0, .bool false] 28)).alloc (.cells (((List.replicate 32 (0 : Int)).map (Value.int .u8)).toArray) 22)) := by repeat (first | with_reducible exact Below.refl _ _ | with_reducible refine Below.alloc ?_ (by first | omega | (simp; done) | (simp; omega)) _)
    refine ⟨below_cells B0 (by omega) _ _, Mds.cells_put ((hm.alloc _).alloc _) (by have := hm.lt; omega) _ _, ⟨H1.out.1, World.rangeAt_setCells_apart (H1.out.keep B0).2 _ _ _ (.inl (by omega))⟩, ⟨Cl.cells_put ((Bk9.new rfl).alloc _).1 (by omega) _ _, ((Bk9.new rfl).alloc _).2.cells_put _ _⟩, bts_range (by rw [← eM.out]; exact World.rangeAt_setCells_same _ _ _ _ (by simpa using tr)) ?_⟩
    · rw [k0]; exact ((Bts.new (List.replicate 32 0) 22 (by simp)).2).cells_put _ _
  go_wp2_with ((refine wpList_load_mid rfl 22 _ rfl g 32 rfl M _ (ra _) Tryd.underlying22 rfl (by rw [k2]; kernel_rfl) ?_); (refine Go.Great.wpList_allocTo rfl _ rfl _ _ (alloc_b32 _ _ _ _ _) ?_); (rw [hs]); (refine wpList_store_mid rfl 22 _ _ rfl (w.heap.size + 1) 0 M.toArray rfl rfl tr (by rw [sz]; kernel_rfl) oc ?_); (refine wpList_world (fun W => Below w.heap.size w W ∧ Mds W ∧ HAt W g A1 ∧ Bk9 W w.heap.size ∧ Bts W (w.heap.size + 1) A2) FF.out ?_); (clear FF hs tr oc sz ra hat H1); (rintro W ⟨B, hD, hA, hR, hB⟩); (have g4 : w.heap.size ≤ w.heap.size + 1 := by omega); (have n4 : w.heap.size + 1 ≠ w.heap.size := by omega); (have ng : w.heap.size + 1 ≠ g := by omega); (have nd : w.heap.size + 1 ≠ 0 := (by have := hm.lt; omega)); (generalize w.heap.size + 1 = b4 at *); (have z0 := hB.1 0 (by rw [k0]; decide)); (have f0 := hB.2 0 (by rw [k0]; decide)); (rw [← ey.out] at z0); (simp only [Act.put, List.setIfInBounds_toArray, List.set_cons_zero, List.set_cons_succ]))
  have o3 : w.heap.size ≤ w.heap.size := Nat.le_refl _
  refine wp_world (fun W => Below w.heap.size w W ∧ Mds W ∧ HAt W g A1 ∧ HAt W b4 (A2.set 0 (bits .andNot .u8 y 128)) ∧ Bk9 W w.heap.size) ⟨Below.setCell B g4 _, hD.set nd _, ⟨hA.1, fun j v hv => cell_far (hA.2 j v hv) ng⟩, ⟨by rw [List.length_set]; exact k0, (hB.set 0 (by rw [k0]; decide) _).1.range⟩, ⟨Cl.set hR.1 n4 _, hR.2.set _ _⟩⟩ ?_
  clear B hD hA hB hR z0 f0
  rintro V9 ⟨B, hD, hA, hC, hR⟩
  clear W
  refine wp_world (fun W => Below w.heap.size w W ∧ Mds W ∧ HAt W g A1 ∧ HAt W b4 (A2.set 0 (bits .andNot .u8 y 128)) ∧ Bk9 W w.heap.size) ⟨B, hD, hA, hC, hR⟩ ?_
  clear B hD hA hC hR V9
  rintro W ⟨B, hD, hA, hC, hR⟩
  refine alloc_tail (A := ?AA1) 7 (by kernel_rfl) (by kernel_rfl) rfl rfl (alloc_sg _ _ _) (fun V hV => ?HH1) (fun V w1 hV hw => ?TT1)
  case HH1 =>
    have hDg : ∀ d os, Mds (grow (redrawn V d) os) := fun d os => (hD.keep hV).keep (below_regrown V d os)
    have kA : ∀ d os, HAt (grow (redrawn V d) os) g A1 := fun d os => (hA.keep hV).keep (below_regrown V d os)
    have kC : ∀ d os, HAt (grow (redrawn V d) os) b4 (A2.set 0 (bits .andNot .u8 y 128)) := fun d os => (hC.keep hV).keep (below_regrown V d os)
    unfold Gr
    simp only [List.take_succ_cons, List.take_zero]
    repeat
      first
        | go_big_quiet_skip
        | (go_big_quiet_want; go_big_quiet_op; go_big_quiet_on)
        | (go_big_quiet_want
           go_big_quiet_op
           apply Exists.intro
           refine ⟨fun p => ?_, ?_⟩
           · (first | (go_at_call 39; with_reducible exact Calls.regrown_of (W1.out _ (kA p.d p.os))) | (go_at_call 39; with_reducible exact Calls.regrown_of (W2.out _ _ (kC p.d p.os))))
           go_big_quiet_on)
    refine wpQuiet_nil ?_
    exact rfl
  case TT1 =>
    have hb := alloc_below hV hw
    have hN := (Bk9.new rfl).keep hw
    have nhD : V.heap.size ≠ 0 := Nat.ne_of_gt (Nat.lt_of_lt_of_le hD.lt hV.size)
    have nhA : V.heap.size ≠ g := Nat.ne_of_gt (Nat.lt_of_lt_of_le hA.lt hV.size)
    have nhC : V.heap.size ≠ b4 := Nat.ne_of_gt (Nat.lt_of_lt_of_le hC.lt hV.size)
    have nhR : V.heap.size ≠ w.heap.size := Nat.ne_of_gt (Nat.lt_of_lt_of_le hR.lt hV.size)
    have gn : w.heap.size ≤ V.heap.size := Nat.le_trans B.size hV.size
    replace B := B.trans (hb.mono B.size)
    replace hD := hD.keep hb; replace hA := hA.keep hb; replace hC := hC.keep hb; replace hR := hR.keep hb
    clear hb hw hV W
    generalize V.heap.size = bs at *
    clear V
    have gN := hN.cells; have qN := hN.free
    have mhD := nhD.symm
    have mhA := nhA.symm
    have mhC := nhC.symm
    have mhR := nhR.symm
    simp only [List.drop_succ_cons, List.drop_zero, Act.put, List.setIfInBounds_toArray, List.set_cons_zero, List.set_cons_succ]
    go_wp2_with fail
    refine calls_world (fun W => Below w.heap.size w W ∧ Mds W ∧ HAt W g A1 ∧ HAt W b4 (A2.set 0 (bits .andNot .u8 y 128)) ∧ Bk9 W w.heap.size ∧ Pnt W bs r s od) ⟨below_put9 B gn, hD.put9 nhD, hA.put9 nhA, hC.put9 nhC, hR.put9b nhR, hN.put9 r s od⟩ ?_
    clear B hN gN qN hD hA hC hR nhD mhD nhA mhA nhC mhC nhR mhR  gn
    rintro W ⟨B, hD, hA, hC, hR, hS⟩
    clear w1
    clear hA hC
    with_reducible refine (CK.out _ hD).mono ?_
    rintro e w9 ⟨rfl, hb⟩
    replace B := B.trans (hb.mono B.size)
    replace hD := hD.keep hb; replace hR := hR.keep hb; replace hS := hS.keep hb
    clear hb W hD
    have gS := hS.cells
    have gR := hR.cells; have fR := hR.free
    go_wp2
    simp [bodyPost, results, Tryd.results16, go_sem, gR]
    repeat (first | with_reducible exact B | with_reducible refine Below.setCell ?_ o3 _)
end Go.Proofs.YtjhongkmempepaaDoor

namespace Go.Proofs.YtjhongkmempepaaDoor
open Go.RowKit Go.Sort

set_option maxRecDepth 100000 in
set_option maxHeartbeats 16000000 in
theorem ewh_a0 {key non r s e0 : Int} {o : Bool} {A : List Int} (hl : A.length = 32) (SW : Hid (∀ w, Mds w → Cols w → Calls Tryd.prog 13 #[.agg #[.int .u64 (l0 key), .int .u64 (l1 key), .int .u64 (l2 key), .int .u64 (l3 key)], .agg #[.int .u64 (l0 non), .int .u64 (l1 non), .int .u64 (l2 non), .int .u64 (l3 non)], .agg ((A.map fun z => Value.int .u8 z).toArray)] w fun e w' => e = .returned (.tuple #[.agg #[.int .u64 (l0 r), .int .u64 (l1 r), .int .u64 (l2 r), .int .u64 (l3 r), .int .u64 (l0 s), .int .u64 (l1 s), .int .u64 (l2 s), .int .u64 (l3 s), .bool o], .int .i64 e0]) ∧ Below w.heap.size w w')) (he : e0 ≠ 0) (F1 : Hid (∀ w, Mds w → Calls Tryd.prog 14 #[.agg #[.int .u64 (l0 key), .int .u64 (l1 key), .int .u64 (l2 key), .int .u64 (l3 key)]] w fun e w' => e = .returned (.bool false) ∧ Below w.heap.size w w')) (w : World) (hm : Mds w) (hc : Cols w) :
    Calls Tryd.prog 4 #[.agg #[.int .u64 (l0 key), .int .u64 (l1 key), .int .u64 (l2 key), .int .u64 (l3 key)], .agg #[.int .u64 (l0 non), .int .u64 (l1 non), .int .u64 (l2 non), .int .u64 (l3 non)], hashV A] w fun e w' => e = .returned (.bool true) ∧ Below w.heap.size w w' := by
  unfold hashV at *
  have ra : (((w.alloc (.cells #[.int .u64 (l0 key), .int .u64 (l1 key), .int .u64 (l2 key), .int .u64 (l3 key)] 26)).alloc (.cells #[.int .u64 (l0 non), .int .u64 (l1 non), .int .u64 (l2 non), .int .u64 (l3 non)] 26)).alloc (.cells ((A.map fun z => Value.int .u8 z).toArray) 23)).rangeAt (w.heap.size + 1 + 1) 0 (A.map fun z => Value.int .u8 z) := (HAt.new hl (by simp)).2
  go_enter Tryd.func4, Tryd.ntmps4
  go_wp2_with (refine wpList_load_mid rfl 23 _ rfl (w.heap.size + 1 + 1) 0 rfl (A.map fun z => Value.int .u8 z) _ ra Tryd.underlying23 rfl (by rw [List.length_map, hl]; kernel_rfl) ?_)
  refine calls_world (fun W => Below w.heap.size w W ∧ Mds W ∧ Cols W ∧ Nm W w.heap.size key ∧ Nm W (w.heap.size + 1) non ∧ HAt W (w.heap.size + 1 + 1) A) ⟨by repeat (first | with_reducible exact Below.refl _ _ | with_reducible refine Below.alloc ?_ (by first | omega | (simp; done) | (simp; omega)) _), ((hm.alloc _).alloc _).alloc _, ((Cols.alloc hc _).alloc _).alloc _, (Nm.alloc (Cl.new _ rfl rfl) _).alloc _, Nm.alloc (Cl.new _ (by simp) rfl) _, HAt.new hl (by simp)⟩ ?_
  clear ra
  rintro W ⟨B, hD, hO, hK, hE, hY⟩
  generalize w.heap.size + 1 + 1 = bd at *
  generalize w.heap.size + 1 = bn at *
  with_reducible refine (SW.out _ hD hO).mono ?_
  rintro e w1 ⟨rfl, hb⟩
  replace B := B.trans (hb.mono B.size)
  replace hD := hD.keep hb; replace hO := hO.keep hb; replace hK := hK.keep hb; replace hE := hE.keep hb; replace hY := hY.keep hb
  clear hb W
  have ghK := fun o => (hK.alloc o).cells
  go_wp2_with fail
  refine calls_world (fun W => Below w.heap.size w W ∧ Mds W ∧ Cols W ∧ Nm W w.heap.size key ∧ Nm W bn non ∧ HAt W bd A ∧ Pnt W w1.heap.size r s o) ⟨B.alloc B.size _, hD.alloc _, hO.alloc _, hK.alloc _, hE.alloc _, hY.alloc _, Pnt.new rfl⟩ ?_
  clear B hD hO hK hE hY ghK
  rintro W ⟨B, hD, hO, hK, hE, hY, hS⟩
  generalize w1.heap.size = bs at *
  with_reducible refine (F1.out _ hD).mono ?_
  rintro e w9 ⟨rfl, hb⟩
  replace B := B.trans (hb.mono B.size)
  replace hD := hD.keep hb; replace hO := hO.keep hb; replace hK := hK.keep hb; replace hE := hE.keep hb; replace hY := hY.keep hb; replace hS := hS.keep hb
  clear hb W
  go_wp2
  simp [bodyPost, results, Tryd.results4, go_sem]
  exact B

set_option maxRecDepth 100000 in
set_option maxHeartbeats 16000000 in
theorem ewh_a1 {key non r s e0 : Int} {o : Bool} {A : List Int} (hl : A.length = 32) (SW : Hid (∀ w, Mds w → Cols w → Calls Tryd.prog 13 #[.agg #[.int .u64 (l0 key), .int .u64 (l1 key), .int .u64 (l2 key), .int .u64 (l3 key)], .agg #[.int .u64 (l0 non), .int .u64 (l1 non), .int .u64 (l2 non), .int .u64 (l3 non)], .agg ((A.map fun z => Value.int .u8 z).toArray)] w fun e w' => e = .returned (.tuple #[.agg #[.int .u64 (l0 r), .int .u64 (l1 r), .int .u64 (l2 r), .int .u64 (l3 r), .int .u64 (l0 s), .int .u64 (l1 s), .int .u64 (l2 s), .int .u64 (l3 s), .bool o], .int .i64 e0]) ∧ Below w.heap.size w w')) (he : e0 ≠ 0) (F1 : Hid (∀ w, Mds w → Calls Tryd.prog 14 #[.agg #[.int .u64 (l0 key), .int .u64 (l1 key), .int .u64 (l2 key), .int .u64 (l3 key)]] w fun e w' => e = .returned (.bool true) ∧ Below w.heap.size w w')) (F2 : Hid (∀ w, Mds w → Calls Tryd.prog 14 #[.agg #[.int .u64 (l0 non), .int .u64 (l1 non), .int .u64 (l2 non), .int .u64 (l3 non)]] w fun e w' => e = .returned (.bool false) ∧ Below w.heap.size w w')) (w : World) (hm : Mds w) (hc : Cols w) :
    Calls Tryd.prog 4 #[.agg #[.int .u64 (l0 key), .int .u64 (l1 key), .int .u64 (l2 key), .int .u64 (l3 key)], .agg #[.int .u64 (l0 non), .int .u64 (l1 non), .int .u64 (l2 non), .int .u64 (l3 non)], hashV A] w fun e w' => e = .returned (.bool true) ∧ Below w.heap.size w w' := by
  unfold hashV at *
  have ra : (((w.alloc (.cells #[.int .u64 (l0 key), .int .u64 (l1 key), .int .u64 (l2 key), .int .u64 (l3 key)] 26)).alloc (.cells #[.int .u64 (l0 non), .int .u64 (l1 non), .int .u64 (l2 non), .int .u64 (l3 non)] 26)).alloc (.cells ((A.map fun z => Value.int .u8 z).toArray) 23)).rangeAt (w.heap.size + 1 + 1) 0 (A.map fun z => Value.int .u8 z) := (HAt.new hl (by simp)).2
  go_enter Tryd.func4, Tryd.ntmps4
  go_wp2_with (refine wpList_load_mid rfl 23 _ rfl (w.heap.size + 1 + 1) 0 rfl (A.map fun z => Value.int .u8 z) _ ra Tryd.underlying23 rfl (by rw [List.length_map, hl]; kernel_rfl) ?_)
  refine calls_world (fun W => Below w.heap.size w W ∧ Mds W ∧ Cols W ∧ Nm W w.heap.size key ∧ Nm W (w.heap.size + 1) non ∧ HAt W (w.heap.size + 1 + 1) A) ⟨by repeat (first | with_reducible exact Below.refl _ _ | with_reducible refine Below.alloc ?_ (by first | omega | (simp; done) | (simp; omega)) _), ((hm.alloc _).alloc _).alloc _, ((Cols.alloc hc _).alloc _).alloc _, (Nm.alloc (Cl.new _ rfl rfl) _).alloc _, Nm.alloc (Cl.new _ (by simp) rfl) _, HAt.new hl (by simp)⟩ ?_
  clear ra
  rintro W ⟨B, hD, hO, hK, hE, hY⟩
  generalize w.heap.size + 1 + 1 = bd at *
  generalize w.heap.size + 1 = bn at *
  with_reducible refine (SW.out _ hD hO).mono ?_
  rintro e w1 ⟨rfl, hb⟩
  replace B := B.trans (hb.mono B.size)
  replace hD := hD.keep hb; replace hO := hO.keep hb; replace hK := hK.keep hb; replace hE := hE.keep hb; replace hY := hY.keep hb
  clear hb W
  have ghK := fun o => (hK.alloc o).cells
  go_wp2_with fail
  refine calls_world (fun W => Below w.heap.size w W ∧ Mds W ∧ Cols W ∧ Nm W w.heap.size key ∧ Nm W bn non ∧ HAt W bd A ∧ Pnt W w1.heap.size r s o) ⟨B.alloc B.size _, hD.alloc _, hO.alloc _, hK.alloc _, hE.alloc _, hY.alloc _, Pnt.new rfl⟩ ?_
  clear B hD hO hK hE hY ghK
  rintro W ⟨B, hD, hO, hK, hE, hY, hS⟩
  generalize w1.heap.size = bs at *
  with_reducible refine (F1.out _ hD).mono ?_
  rintro e w2 ⟨rfl, hb⟩
  replace B := B.trans (hb.mono B.size)
  replace hD := hD.keep hb; replace hO := hO.keep hb; replace hK := hK.keep hb; replace hE := hE.keep hb; replace hY := hY.keep hb; replace hS := hS.keep hb
  clear hb W
  have ghE := hE.cells
  go_wp2_with fail
  refine calls_world (fun W => Below w.heap.size w W ∧ Mds W ∧ Cols W ∧ Nm W w.heap.size key ∧ Nm W bn non ∧ HAt W bd A ∧ Pnt W bs r s o) ⟨B, hD, hO, hK, hE, hY, hS⟩ ?_
  clear B hD hO hK hE hY hS ghE
  rintro W ⟨B, hD, hO, hK, hE, hY, hS⟩
  with_reducible refine (F2.out _ hD).mono ?_
  rintro e w9 ⟨rfl, hb⟩
  replace B := B.trans (hb.mono B.size)
  replace hD := hD.keep hb; replace hO := hO.keep hb; replace hK := hK.keep hb; replace hE := hE.keep hb; replace hY := hY.keep hb; replace hS := hS.keep hb
  clear hb W
  go_wp2
  simp [bodyPost, results, Tryd.results4, go_sem]
  exact B

set_option maxRecDepth 100000 in
set_option maxHeartbeats 16000000 in
theorem ewh_a64 {key non r s : Int} {o : Bool} {A : List Int} (hl : A.length = 32) (SW : Hid (∀ w, Mds w → Cols w → Calls Tryd.prog 13 #[.agg #[.int .u64 (l0 key), .int .u64 (l1 key), .int .u64 (l2 key), .int .u64 (l3 key)], .agg #[.int .u64 (l0 non), .int .u64 (l1 non), .int .u64 (l2 non), .int .u64 (l3 non)], .agg ((A.map fun z => Value.int .u8 z).toArray)] w fun e w' => e = .returned (.tuple #[.agg #[.int .u64 (l0 r), .int .u64 (l1 r), .int .u64 (l2 r), .int .u64 (l3 r), .int .u64 (l0 s), .int .u64 (l1 s), .int .u64 (l2 s), .int .u64 (l3 s), .bool o], .int .i64 64]) ∧ Below w.heap.size w w')) (F1 : Hid (∀ w, Mds w → Calls Tryd.prog 14 #[.agg #[.int .u64 (l0 key), .int .u64 (l1 key), .int .u64 (l2 key), .int .u64 (l3 key)]] w fun e w' => e = .returned (.bool true) ∧ Below w.heap.size w w')) (F2 : Hid (∀ w, Mds w → Calls Tryd.prog 14 #[.agg #[.int .u64 (l0 non), .int .u64 (l1 non), .int .u64 (l2 non), .int .u64 (l3 non)]] w fun e w' => e = .returned (.bool true) ∧ Below w.heap.size w w')) (w : World) (hm : Mds w) (hc : Cols w) :
    Calls Tryd.prog 4 #[.agg #[.int .u64 (l0 key), .int .u64 (l1 key), .int .u64 (l2 key), .int .u64 (l3 key)], .agg #[.int .u64 (l0 non), .int .u64 (l1 non), .int .u64 (l2 non), .int .u64 (l3 non)], hashV A] w fun e w' => e = .returned (.bool true) ∧ Below w.heap.size w w' := by
  unfold hashV at *
  have ra : (((w.alloc (.cells #[.int .u64 (l0 key), .int .u64 (l1 key), .int .u64 (l2 key), .int .u64 (l3 key)] 26)).alloc (.cells #[.int .u64 (l0 non), .int .u64 (l1 non), .int .u64 (l2 non), .int .u64 (l3 non)] 26)).alloc (.cells ((A.map fun z => Value.int .u8 z).toArray) 23)).rangeAt (w.heap.size + 1 + 1) 0 (A.map fun z => Value.int .u8 z) := (HAt.new hl (by simp)).2
  go_enter Tryd.func4, Tryd.ntmps4
  go_wp2_with (refine wpList_load_mid rfl 23 _ rfl (w.heap.size + 1 + 1) 0 rfl (A.map fun z => Value.int .u8 z) _ ra Tryd.underlying23 rfl (by rw [List.length_map, hl]; kernel_rfl) ?_)
  refine calls_world (fun W => Below w.heap.size w W ∧ Mds W ∧ Cols W ∧ Nm W w.heap.size key ∧ Nm W (w.heap.size + 1) non ∧ HAt W (w.heap.size + 1 + 1) A) ⟨by repeat (first | with_reducible exact Below.refl _ _ | with_reducible refine Below.alloc ?_ (by first | omega | (simp; done) | (simp; omega)) _), ((hm.alloc _).alloc _).alloc _, ((Cols.alloc hc _).alloc _).alloc _, (Nm.alloc (Cl.new _ rfl rfl) _).alloc _, Nm.alloc (Cl.new _ (by simp) rfl) _, HAt.new hl (by simp)⟩ ?_
  clear ra
  rintro W ⟨B, hD, hO, hK, hE, hY⟩
  generalize w.heap.size + 1 + 1 = bd at *
  generalize w.heap.size + 1 = bn at *
  with_reducible refine (SW.out _ hD hO).mono ?_
  rintro e w1 ⟨rfl, hb⟩
  replace B := B.trans (hb.mono B.size)
  replace hD := hD.keep hb; replace hO := hO.keep hb; replace hK := hK.keep hb; replace hE := hE.keep hb; replace hY := hY.keep hb
  clear hb W
  have ghK := fun o => (hK.alloc o).cells
  go_wp2_with fail
  refine calls_world (fun W => Below w.heap.size w W ∧ Mds W ∧ Cols W ∧ Nm W w.heap.size key ∧ Nm W bn non ∧ HAt W bd A ∧ Pnt W w1.heap.size r s o) ⟨B.alloc B.size _, hD.alloc _, hO.alloc _, hK.alloc _, hE.alloc _, hY.alloc _, Pnt.new rfl⟩ ?_
  clear B hD hO hK hE hY ghK
  rintro W ⟨B, hD, hO, hK, hE, hY, hS⟩
  generalize w1.heap.size = bs at *
  with_reducible refine (F1.out _ hD).mono ?_
  rintro e w2 ⟨rfl, hb⟩
  replace B := B.trans (hb.mono B.size)
  replace hD := hD.keep hb; replace hO := hO.keep hb; replace hK := hK.keep hb; replace hE := hE.keep hb; replace hY := hY.keep hb; replace hS := hS.keep hb
  clear hb W
  have ghE := hE.cells
  go_wp2_with fail
  refine calls_world (fun W => Below w.heap.size w W ∧ Mds W ∧ Cols W ∧ Nm W w.heap.size key ∧ Nm W bn non ∧ HAt W bd A ∧ Pnt W bs r s o) ⟨B, hD, hO, hK, hE, hY, hS⟩ ?_
  clear B hD hO hK hE hY hS ghE
  rintro W ⟨B, hD, hO, hK, hE, hY, hS⟩
  with_reducible refine (F2.out _ hD).mono ?_
  rintro e w9 ⟨rfl, hb⟩
  replace B := B.trans (hb.mono B.size)
  replace hD := hD.keep hb; replace hO := hO.keep hb; replace hK := hK.keep hb; replace hE := hE.keep hb; replace hY := hY.keep hb; replace hS := hS.keep hb
  clear hb W
  go_wp2
  simp [bodyPost, results, Tryd.results4, go_sem]
  exact B

set_option maxRecDepth 100000 in
set_option maxHeartbeats 16000000 in
theorem ewh_a65 {key non r s : Int} {o : Bool} {A : List Int} (hl : A.length = 32) (SW : Hid (∀ w, Mds w → Cols w → Calls Tryd.prog 13 #[.agg #[.int .u64 (l0 key), .int .u64 (l1 key), .int .u64 (l2 key), .int .u64 (l3 key)], .agg #[.int .u64 (l0 non), .int .u64 (l1 non), .int .u64 (l2 non), .int .u64 (l3 non)], .agg ((A.map fun z => Value.int .u8 z).toArray)] w fun e w' => e = .returned (.tuple #[.agg #[.int .u64 (l0 r), .int .u64 (l1 r), .int .u64 (l2 r), .int .u64 (l3 r), .int .u64 (l0 s), .int .u64 (l1 s), .int .u64 (l2 s), .int .u64 (l3 s), .bool o], .int .i64 65]) ∧ Below w.heap.size w w')) (F1 : Hid (∀ w, Mds w → Calls Tryd.prog 14 #[.agg #[.int .u64 (l0 key), .int .u64 (l1 key), .int .u64 (l2 key), .int .u64 (l3 key)]] w fun e w' => e = .returned (.bool true) ∧ Below w.heap.size w w')) (F2 : Hid (∀ w, Mds w → Calls Tryd.prog 14 #[.agg #[.int .u64 (l0 non), .int .u64 (l1 non), .int .u64 (l2 non), .int .u64 (l3 non)]] w fun e w' => e = .returned (.bool true) ∧ Below w.heap.size w w')) (w : World) (hm : Mds w) (hc : Cols w) :
    Calls Tryd.prog 4 #[.agg #[.int .u64 (l0 key), .int .u64 (l1 key), .int .u64 (l2 key), .int .u64 (l3 key)], .agg #[.int .u64 (l0 non), .int .u64 (l1 non), .int .u64 (l2 non), .int .u64 (l3 non)], hashV A] w fun e w' => e = .returned (.bool true) ∧ Below w.heap.size w w' := by
  unfold hashV at *
  have ra : (((w.alloc (.cells #[.int .u64 (l0 key), .int .u64 (l1 key), .int .u64 (l2 key), .int .u64 (l3 key)] 26)).alloc (.cells #[.int .u64 (l0 non), .int .u64 (l1 non), .int .u64 (l2 non), .int .u64 (l3 non)] 26)).alloc (.cells ((A.map fun z => Value.int .u8 z).toArray) 23)).rangeAt (w.heap.size + 1 + 1) 0 (A.map fun z => Value.int .u8 z) := (HAt.new hl (by simp)).2
  go_enter Tryd.func4, Tryd.ntmps4
  go_wp2_with (refine wpList_load_mid rfl 23 _ rfl (w.heap.size + 1 + 1) 0 rfl (A.map fun z => Value.int .u8 z) _ ra Tryd.underlying23 rfl (by rw [List.length_map, hl]; kernel_rfl) ?_)
  refine calls_world (fun W => Below w.heap.size w W ∧ Mds W ∧ Cols W ∧ Nm W w.heap.size key ∧ Nm W (w.heap.size + 1) non ∧ HAt W (w.heap.size + 1 + 1) A) ⟨by repeat (first | with_reducible exact Below.refl _ _ | with_reducible refine Below.alloc ?_ (by first | omega | (simp; done) | (simp; omega)) _), ((hm.alloc _).alloc _).alloc _, ((Cols.alloc hc _).alloc _).alloc _, (Nm.alloc (Cl.new _ rfl rfl) _).alloc _, Nm.alloc (Cl.new _ (by simp) rfl) _, HAt.new hl (by simp)⟩ ?_
  clear ra
  rintro W ⟨B, hD, hO, hK, hE, hY⟩
  generalize w.heap.size + 1 + 1 = bd at *
  generalize w.heap.size + 1 = bn at *
  with_reducible refine (SW.out _ hD hO).mono ?_
  rintro e w1 ⟨rfl, hb⟩
  replace B := B.trans (hb.mono B.size)
  replace hD := hD.keep hb; replace hO := hO.keep hb; replace hK := hK.keep hb; replace hE := hE.keep hb; replace hY := hY.keep hb
  clear hb W
  have ghK := fun o => (hK.alloc o).cells
  go_wp2_with fail
  refine calls_world (fun W => Below w.heap.size w W ∧ Mds W ∧ Cols W ∧ Nm W w.heap.size key ∧ Nm W bn non ∧ HAt W bd A ∧ Pnt W w1.heap.size r s o) ⟨B.alloc B.size _, hD.alloc _, hO.alloc _, hK.alloc _, hE.alloc _, hY.alloc _, Pnt.new rfl⟩ ?_
  clear B hD hO hK hE hY ghK
  rintro W ⟨B, hD, hO, hK, hE, hY, hS⟩
  generalize w1.heap.size = bs at *
  with_reducible refine (F1.out _ hD).mono ?_
  rintro e w2 ⟨rfl, hb⟩
  replace B := B.trans (hb.mono B.size)
  replace hD := hD.keep hb; replace hO := hO.keep hb; replace hK := hK.keep hb; replace hE := hE.keep hb; replace hY := hY.keep hb; replace hS := hS.keep hb
  clear hb W
  have ghE := hE.cells
  go_wp2_with fail
  refine calls_world (fun W => Below w.heap.size w W ∧ Mds W ∧ Cols W ∧ Nm W w.heap.size key ∧ Nm W bn non ∧ HAt W bd A ∧ Pnt W bs r s o) ⟨B, hD, hO, hK, hE, hY, hS⟩ ?_
  clear B hD hO hK hE hY hS ghE
  rintro W ⟨B, hD, hO, hK, hE, hY, hS⟩
  with_reducible refine (F2.out _ hD).mono ?_
  rintro e w9 ⟨rfl, hb⟩
  replace B := B.trans (hb.mono B.size)
  replace hD := hD.keep hb; replace hO := hO.keep hb; replace hK := hK.keep hb; replace hE := hE.keep hb; replace hY := hY.keep hb; replace hS := hS.keep hb
  clear hb W
  go_wp2
  simp [bodyPost, results, Tryd.results4, go_sem]
  exact B

set_option maxRecDepth 100000 in
set_option maxHeartbeats 16000000 in
theorem ewh_ok {key non r s X Y : Int} {o : Bool} {A L1 : List Int} {M : List Value} (hl : A.length = 32) (SW : Hid (∀ w, Mds w → Cols w → Calls Tryd.prog 13 #[.agg #[.int .u64 (l0 key), .int .u64 (l1 key), .int .u64 (l2 key), .int .u64 (l3 key)], .agg #[.int .u64 (l0 non), .int .u64 (l1 non), .int .u64 (l2 non), .int .u64 (l3 non)], .agg ((A.map fun z => Value.int .u8 z).toArray)] w fun e w' => e = .returned (.tuple #[.agg #[.int .u64 (l0 r), .int .u64 (l1 r), .int .u64 (l2 r), .int .u64 (l3 r), .int .u64 (l0 s), .int .u64 (l1 s), .int .u64 (l2 s), .int .u64 (l3 s), .bool o], .int .i64 0]) ∧ Below w.heap.size w w')) (MG : Hid (∀ w, Mds w → Cols w → Calls Tryd.prog 11 #[.agg #[.int .u64 (l0 key), .int .u64 (l1 key), .int .u64 (l2 key), .int .u64 (l3 key)]] w fun e w' => e = .returned (.agg #[.int .u64 (l0 X), .int .u64 (l1 X), .int .u64 (l2 X), .int .u64 (l3 X), .int .u64 (l0 Y), .int .u64 (l1 Y), .int .u64 (l2 Y), .int .u64 (l3 Y), .bool false]) ∧ Below w.heap.size w w')) (VE : Hid (∀ w, Mds w → Cols w → Calls Tryd.prog 12 #[.agg #[.int .u64 (l0 X), .int .u64 (l1 X), .int .u64 (l2 X), .int .u64 (l3 X), .int .u64 (l0 Y), .int .u64 (l1 Y), .int .u64 (l2 Y), .int .u64 (l3 Y), .bool false], .agg ((A.map fun z => Value.int .u8 z).toArray), .agg #[.int .u64 (l0 r), .int .u64 (l1 r), .int .u64 (l2 r), .int .u64 (l3 r), .int .u64 (l0 s), .int .u64 (l1 s), .int .u64 (l2 s), .int .u64 (l3 s), .bool o]] w fun e w' => e = .returned (.tuple #[.bool true, .int .i64 0]) ∧ Below w.heap.size w w')) (RC : Hid (∀ w, Mds w → Cols w → Calls Tryd.prog 5 #[.agg ((A.map fun z => Value.int .u8 z).toArray), .agg #[.int .u64 (l0 r), .int .u64 (l1 r), .int .u64 (l2 r), .int .u64 (l3 r), .int .u64 (l0 s), .int .u64 (l1 s), .int .u64 (l2 s), .int .u64 (l3 s), .bool o]] w fun e w' => e = .returned (.tuple #[.agg #[.int .u64 (l0 X), .int .u64 (l1 X), .int .u64 (l2 X), .int .u64 (l3 X), .int .u64 (l0 Y), .int .u64 (l1 Y), .int .u64 (l2 Y), .int .u64 (l3 Y), .bool false], .int .i64 0]) ∧ Below w.heap.size w w')) (EP : ∀ w, (Op.equalIn 10000 30 (.agg #[.int .u64 (l0 X), .int .u64 (l1 X), .int .u64 (l2 X), .int .u64 (l3 X), .int .u64 (l0 Y), .int .u64 (l1 Y), .int .u64 (l2 Y), .int .u64 (l3 Y), .bool false]) (.agg #[.int .u64 (l0 X), .int .u64 (l1 X), .int .u64 (l2 X), .int .u64 (l3 X), .int .u64 (l0 Y), .int .u64 (l1 Y), .int .u64 (l2 Y), .int .u64 (l3 Y), .bool false])).run Tryd.prog w = .ok true w) (PK : Hid (∀ w, Mds w → Calls Tryd.prog 15 #[.agg #[.int .u64 (l0 r), .int .u64 (l1 r), .int .u64 (l2 r), .int .u64 (l3 r), .int .u64 (l0 s), .int .u64 (l1 s), .int .u64 (l2 s), .int .u64 (l3 s), .bool o]] w fun e w' => ∃ g cap, e = .returned (.tuple #[.slice (some ⟨g, 0, none⟩) 64 cap, .int .i64 0]) ∧ HAt w' g L1 ∧ w'.rangeAt g 32 M ∧ 64 ≤ cap ∧ Below w.heap.size w w')) (UN : Hid (∀ g cap w, 64 ≤ cap → Mds w → HAt w g L1 → w.rangeAt g 32 M → Calls Tryd.prog 16 #[.slice (some ⟨g, 0, none⟩) 64 cap] w fun e w' => e = .returned (.tuple #[.agg #[.int .u64 (l0 r), .int .u64 (l1 r), .int .u64 (l2 r), .int .u64 (l3 r), .int .u64 (l0 s), .int .u64 (l1 s), .int .u64 (l2 s), .int .u64 (l3 s), .bool o], .int .i64 0]) ∧ Below w.heap.size w w')) (ES : ∀ w, (Op.equalIn 10000 28 (.agg #[.int .u64 (l0 r), .int .u64 (l1 r), .int .u64 (l2 r), .int .u64 (l3 r), .int .u64 (l0 s), .int .u64 (l1 s), .int .u64 (l2 s), .int .u64 (l3 s), .bool o]) (.agg #[.int .u64 (l0 r), .int .u64 (l1 r), .int .u64 (l2 r), .int .u64 (l3 r), .int .u64 (l0 s), .int .u64 (l1 s), .int .u64 (l2 s), .int .u64 (l3 s), .bool o])).run Tryd.prog w = .ok true w) (w : World) (hm : Mds w) (hc : Cols w) :
    Calls Tryd.prog 4 #[.agg #[.int .u64 (l0 key), .int .u64 (l1 key), .int .u64 (l2 key), .int .u64 (l3 key)], .agg #[.int .u64 (l0 non), .int .u64 (l1 non), .int .u64 (l2 non), .int .u64 (l3 non)], hashV A] w fun e w' => e = .returned (.bool true) ∧ Below w.heap.size w w' := by
  unfold hashV at *
  have ra : (((w.alloc (.cells #[.int .u64 (l0 key), .int .u64 (l1 key), .int .u64 (l2 key), .int .u64 (l3 key)] 26)).alloc (.cells #[.int .u64 (l0 non), .int .u64 (l1 non), .int .u64 (l2 non), .int .u64 (l3 non)] 26)).alloc (.cells ((A.map fun z => Value.int .u8 z).toArray) 23)).rangeAt (w.heap.size + 1 + 1) 0 (A.map fun z => Value.int .u8 z) := (HAt.new hl (by simp)).2
  go_enter Tryd.func4, Tryd.ntmps4
  go_wp2_with (refine wpList_load_mid rfl 23 _ rfl (w.heap.size + 1 + 1) 0 rfl (A.map fun z => Value.int .u8 z) _ ra Tryd.underlying23 rfl (by rw [List.length_map, hl]; kernel_rfl) ?_)
  refine calls_world (fun W => Below w.heap.size w W ∧ Mds W ∧ Cols W ∧ Nm W w.heap.size key ∧ Nm W (w.heap.size + 1) non ∧ HAt W (w.heap.size + 1 + 1) A) ⟨by repeat (first | with_reducible exact Below.refl _ _ | with_reducible refine Below.alloc ?_ (by first | omega | (simp; done) | (simp; omega)) _), ((hm.alloc _).alloc _).alloc _, ((Cols.alloc hc _).alloc _).alloc _, (Nm.alloc (Cl.new _ rfl rfl) _).alloc _, Nm.alloc (Cl.new _ (by simp) rfl) _, HAt.new hl (by simp)⟩ ?_
  clear ra
  rintro W ⟨B, hD, hO, hK, hE, hY⟩
  generalize w.heap.size + 1 + 1 = bd at *
  generalize w.heap.size + 1 = bn at *
  with_reducible refine (SW.out _ hD hO).mono ?_
  rintro e w1 ⟨rfl, hb⟩
  replace B := B.trans (hb.mono B.size)
  replace hD := hD.keep hb; replace hO := hO.keep hb; replace hK := hK.keep hb; replace hE := hE.keep hb; replace hY := hY.keep hb
  clear hb W
  have ghK := fun o => (hK.alloc o).cells
  go_wp2_with fail
  refine calls_world (fun W => Below w.heap.size w W ∧ Mds W ∧ Cols W ∧ Nm W w.heap.size key ∧ Nm W bn non ∧ HAt W bd A ∧ Pnt W w1.heap.size r s o) ⟨B.alloc B.size _, hD.alloc _, hO.alloc _, hK.alloc _, hE.alloc _, hY.alloc _, Pnt.new rfl⟩ ?_
  clear B hD hO hK hE hY ghK
  rintro W ⟨B, hD, hO, hK, hE, hY, hS⟩
  generalize w1.heap.size = bs at *
  with_reducible refine (MG.out _ hD hO).mono ?_
  rintro e w2 ⟨rfl, hb⟩
  replace B := B.trans (hb.mono B.size)
  replace hD := hD.keep hb; replace hO := hO.keep hb; replace hK := hK.keep hb; replace hE := hE.keep hb; replace hY := hY.keep hb; replace hS := hS.keep hb
  clear hb W
  have ghS := fun o => (hS.alloc o).cells
  have ra := fun a => (hY.alloc a).2
  go_wp2_with (refine wpList_load_mid rfl 23 _ rfl bd 0 rfl (A.map fun z => Value.int .u8 z) _ (ra _) Tryd.underlying23 rfl (by rw [List.length_map, hl]; kernel_rfl) ?_)
  refine calls_world (fun W => Below w.heap.size w W ∧ Mds W ∧ Cols W ∧ Nm W w.heap.size key ∧ Nm W bn non ∧ HAt W bd A ∧ Pnt W bs r s o ∧ Pnt W w2.heap.size X Y false) ⟨B.alloc B.size _, hD.alloc _, hO.alloc _, hK.alloc _, hE.alloc _, hY.alloc _, hS.alloc _, Pnt.new rfl⟩ ?_
  clear B hD hO hK hE hY hS ghS
  rintro W ⟨B, hD, hO, hK, hE, hY, hS, hP⟩
  generalize w2.heap.size = bp at *
  clear ra
  with_reducible refine (VE.out _ hD hO).mono ?_
  rintro e w3 ⟨rfl, hb⟩
  replace B := B.trans (hb.mono B.size)
  replace hD := hD.keep hb; replace hO := hO.keep hb; replace hK := hK.keep hb; replace hE := hE.keep hb; replace hY := hY.keep hb; replace hS := hS.keep hb; replace hP := hP.keep hb
  clear hb W
  have ghS := hS.cells
  have ra := hY.2
  go_wp2_with (refine wpList_load_mid rfl 23 _ rfl bd 0 rfl (A.map fun z => Value.int .u8 z) _ ra Tryd.underlying23 rfl (by rw [List.length_map, hl]; kernel_rfl) ?_)
  refine calls_world (fun W => Below w.heap.size w W ∧ Mds W ∧ Cols W ∧ Nm W w.heap.size key ∧ Nm W bn non ∧ HAt W bd A ∧ Pnt W bs r s o ∧ Pnt W bp X Y false) ⟨B, hD, hO, hK, hE, hY, hS, hP⟩ ?_
  clear B hD hO hK hE hY hS hP ghS
  rintro W ⟨B, hD, hO, hK, hE, hY, hS, hP⟩
  clear ra
  with_reducible refine (RC.out _ hD hO).mono ?_
  rintro e w4 ⟨rfl, hb⟩
  replace B := B.trans (hb.mono B.size)
  replace hD := hD.keep hb; replace hO := hO.keep hb; replace hK := hK.keep hb; replace hE := hE.keep hb; replace hY := hY.keep hb; replace hS := hS.keep hb; replace hP := hP.keep hb
  clear hb W
  have ghS := fun o => (hS.alloc o).cells
  have ghP := fun o => (hP.alloc o).cells
  go_wp2_with fail
  refine calls_world (fun W => Below w.heap.size w W ∧ Mds W ∧ Cols W ∧ Nm W w.heap.size key ∧ Nm W bn non ∧ HAt W bd A ∧ Pnt W bs r s o ∧ Pnt W bp X Y false ∧ Pnt W w4.heap.size X Y false) ⟨B.alloc B.size _, hD.alloc _, hO.alloc _, hK.alloc _, hE.alloc _, hY.alloc _, hS.alloc _, hP.alloc _, Pnt.new rfl⟩ ?_
  clear B hD hO hK hE hY hS hP ghS ghP
  rintro W ⟨B, hD, hO, hK, hE, hY, hS, hP, hQ⟩
  generalize w4.heap.size = bq at *
  clear hO hK hE hY hP hQ
  with_reducible refine (PK.out _ hD).mono ?_
  rintro e w8 ⟨g, cap, rfl, hG, hM, hcap, hb⟩
  replace B := B.trans (hb.mono B.size)
  replace hD := hD.keep hb; replace hS := hS.keep hb
  clear hb W
  go_wp2_with fail
  refine calls_world (fun W => Below w.heap.size w W ∧ Mds W ∧ Pnt W bs r s o ∧ HAt W g L1 ∧ W.rangeAt g 32 M) ⟨B, hD, hS, hG, hM⟩ ?_
  clear B hD hS hG hM
  rintro W ⟨B, hD, hS, hG, hM⟩
  clear w8
  with_reducible refine (UN.out _ _ _ hcap hD hG hM).mono ?_
  rintro e w7 ⟨rfl, hb⟩
  replace B := B.trans (hb.mono B.size)
  replace hS := hS.keep hb
  clear hb hD hG hM W
  have gS := fun o => (hS.alloc o).cells
  have BB : Hid (∀ o, Below w.heap.size w (w7.alloc o)) := fun o => B.alloc B.size o
  clear B hS
  go_wp2
  simp [bodyPost, results, Tryd.results4, go_sem]
  exact BB.out _
end Go.Proofs.YtjhongkmempepaaDoor
