import Derived.Test.YtnjmdncnkijijaaDoorEConc
import Derived.Laws.Cover3
import Derived.Great.Walk
namespace Go.Proofs.YtnjmdncnkijijaaDoor
open Go.RowKit Go.Sort

set_option maxRecDepth 100000 in
set_option maxHeartbeats 8000000 in
theorem eunp_walk {A1 A2 : List Int} {M : List Value} {g cap : Nat} {y r s : Int} {od : Bool} (eo : (bits .and .u8 y 128 != 0) = od) (hc : 64 ≤ cap) (k0 : A2.length = 32) (ey : Hid (y = A2.getD 0 0)) (eM : Hid (M = A2.map (Value.int .u8)))
    (W1 : Hid (∀ w, HAt w g A1 → Calls Tryd.prog 19 #[.slice (some ⟨g, 0, none⟩) 32 cap] w fun e w' => e = .returned (.agg #[.int .u64 (l0 r), .int .u64 (l1 r), .int .u64 (l2 r), .int .u64 (l3 r)]) ∧ Below w.heap.size w w'))
    (W2 : Hid (∀ b w, HAt w b (A2.set 0 (bits .andNot .u8 y 128)) → Calls Tryd.prog 19 #[.slice (some ⟨b, 0, none⟩) 32 32] w fun e w' => e = .returned (.agg #[.int .u64 (l0 s), .int .u64 (l1 s), .int .u64 (l2 s), .int .u64 (l3 s)]) ∧ Below w.heap.size w w'))
    (CK : Hid (∀ w, Mds w → Calls Tryd.prog 14 #[.agg #[.int .u64 (l0 r), .int .u64 (l1 r), .int .u64 (l2 r), .int .u64 (l3 r), .int .u64 (l0 s), .int .u64 (l1 s), .int .u64 (l2 s), .int .u64 (l3 s), .bool od]] w fun e w' => e = .returned (.int .i64 0) ∧ Below w.heap.size w w'))
    (w : World) (hm : Mds w) (h1 : HAt w g A1) (h2 : w.rangeAt g 32 M) :
    Calls Tryd.prog 9 #[.slice (some ⟨g, 0, none⟩) 64 cap] w fun e w' => e = .returned (.tuple #[.agg #[.int .u64 (l0 r), .int .u64 (l1 r), .int .u64 (l2 r), .int .u64 (l3 r), .int .u64 (l0 s), .int .u64 (l1 s), .int .u64 (l2 s), .int .u64 (l3 s), .bool od], .int .i64 0]) ∧ Below w.heap.size w w' := by
  have k2 : M.length = 32 := by rw [eM.out, List.length_map]; exact k0
  have gl : g < w.heap.size := h1.lt
  have H1 : Hid (HAt w g A1) := h1
  have ra : ∀ o, (w.alloc o).rangeAt g 32 M := fun o j v hv => cell_keep ((Below.refl _ _).alloc (Nat.le_refl _) o) (h2 j v hv)
  clear h1 h2
  have hat : ∀ w, (Instr.arrayAt 44 (.slice (some ⟨g, 32, none⟩) 32 (cap - 32))).run Tryd.prog w = .ok (.pointer (some ⟨g, 32, none⟩)) w := fun w => run_arrayAt w 44 _ 32 _ 32 _ Tryd.underlying44 (Nat.le_refl _)
  have nc : cap ≠ 32 := by omega
  have nc2 : (32 : Int) ≤ (cap : Int) := by omega
  have nc3 : (64 : Int) ≤ (cap : Int) := by omega
  go_enter Tryd.func9, Tryd.ntmps9
  have sz : M.toArray.size = 32 := by rw [List.size_toArray]; exact k2
  have oc : M.toArray.all (·.oneCell') = true := by rw [eM.out]; exact one_cells A2
  have tr : ((w.alloc (.cells #[.int .u64 0, .int .u64 0, .int .u64 0, .int .u64 0, .int .u64 0, .int .u64 0, .int .u64 0, .int .u64 0, .bool false] 26)).alloc (.cells (((List.replicate 32 (0 : Int)).map (Value.int .u8)).toArray) 44)).there (w.heap.size + 1) 0 M.toArray.size := (Bts.new (List.replicate 32 0) 44 (by simp)).there (by rw [sz]; rfl)
  have hs : (w.alloc (.cells #[.int .u64 0, .int .u64 0, .int .u64 0, .int .u64 0, .int .u64 0, .int .u64 0, .int .u64 0, .int .u64 0, .bool false] 26)).heap.size = w.heap.size + 1 := by simp
  have FF : Hid (Below w.heap.size w (((w.alloc (.cells #[.int .u64 0, .int .u64 0, .int .u64 0, .int .u64 0, .int .u64 0, .int .u64 0, .int .u64 0, .int .u64 0, .bool false] 26)).alloc (.cells (((List.replicate 32 (0 : Int)).map (Value.int .u8)).toArray) 44)).setCells (w.heap.size + 1) 0 M) ∧ Mds (((w.alloc (.cells #[.int .u64 0, .int .u64 0, .int .u64 0, .int .u64 0, .int .u64 0, .int .u64 0, .int .u64 0, .int .u64 0, .bool false] 26)).alloc (.cells (((List.replicate 32 (0 : Int)).map (Value.int .u8)).toArray) 44)).setCells (w.heap.size + 1) 0 M) ∧ HAt (((w.alloc (.cells #[.int .u64 0, .int .u64 0, .int .u64 0, .int .u64 0, .int .u64 0, .int .u64 0, .int .u64 0, .int .u64 0, .bool false] 26)).alloc (.cells (((List.replicate 32 (0 : Int)).map (Value.int .u8)).toArray) 44)).setCells (w.heap.size + 1) 0 M) g A1 ∧ Bk9 (((w.alloc (.cells #[.int .u64 0, .int .u64 0, .int .u64 0, .int .u64 0, .int .u64 0, .int .u64 0, .int .u64 0, .int .u64 0, .bool false] 26)).alloc (.cells (((List.replicate 32 (0 : Int)).map (Value.int .u8)).toArray) 44)).setCells (w.heap.size + 1) 0 M) w.heap.size ∧ Bts (((w.alloc (.cells #[.int .u64 0, .int .u64 0, .int .u64 0, .int .u64 0, .int .u64 0, .int .u64 0, .int .u64 0, .int .u64 0, .bool false] 26)).alloc (.cells (((List.replicate 32 (0 : Int)).map (Value.int .u8)).toArray) 44)).setCells (w.heap.size + 1) 0 M) (w.heap.size + 1) A2) := by
    have B0 : Below w.heap.size w ((w.alloc (.cells #[.int .u64 0, .int .u64 0, .int .u64 0, .int .u64 0, .int .u64 0, .int .u64 0, .int .u64 0, .int .u64 0, .bool false] 26)).alloc (.cells (((List.replicate 32 (0 : Int)).map (Value.int .u8)).toArray) 44)) := by repeat (first | with_reducible exact Below.refl _ _ | with_reducible refine Below.alloc ?_ (by first | omega | (simp; done) | (simp; omega)) _)
    refine ⟨below_cells B0 (by omega) _ _, Mds.cells_put ((hm.alloc _).alloc _) (by have := hm.lt; omega) _ _, ⟨H1.out.1, World.rangeAt_setCells_apart (H1.out.keep B0).2 _ _ _ (.inl (by omega))⟩, ⟨Cl.cells_put ((Bk9.new rfl).alloc _).1 (by omega) _ _, ((Bk9.new rfl).alloc _).2.cells_put _ _⟩, bts_range (by rw [← eM.out]; exact World.rangeAt_setCells_same _ _ _ _ (by simpa using tr)) ?_⟩
    · rw [k0]; exact ((Bts.new (List.replicate 32 0) 44 (by simp)).2).cells_put _ _
  go_wp2_with ((refine wpList_load_mid rfl 44 _ rfl g 32 rfl M _ (ra _) Tryd.underlying44 rfl (by rw [k2]; kernel_rfl) ?_); (refine Go.Great.wpList_allocTo rfl _ rfl _ _ (alloc_b32 _ _ _ _ _) ?_); (rw [hs]); (refine wpList_store_mid rfl 44 _ _ rfl (w.heap.size + 1) 0 M.toArray rfl rfl tr (by rw [sz]; kernel_rfl) oc ?_); (refine wpList_world (fun W => Below w.heap.size w W ∧ Mds W ∧ HAt W g A1 ∧ Bk9 W w.heap.size ∧ Bts W (w.heap.size + 1) A2) FF.out ?_); (clear FF hs tr oc sz ra hat H1); (rintro W ⟨B, hD, hA, hR, hB⟩); (have g4 : w.heap.size ≤ w.heap.size + 1 := by omega); (have n4 : w.heap.size + 1 ≠ w.heap.size := by omega); (have ng : w.heap.size + 1 ≠ g := by omega); (have nd : w.heap.size + 1 ≠ 0 := (by have := hm.lt; omega)); (generalize w.heap.size + 1 = b4 at *); (have z0 := hB.1 0 (by rw [k0]; decide)); (have f0 := hB.2 0 (by rw [k0]; decide)); (rw [← ey.out] at z0); (simp only [Act.put, List.setIfInBounds_toArray, List.set_cons_zero, List.set_cons_succ]))
  have o3 : w.heap.size ≤ w.heap.size := Nat.le_refl _
  refine wp_world (fun W => Below w.heap.size w W ∧ Mds W ∧ HAt W g A1 ∧ HAt W b4 (A2.set 0 (bits .andNot .u8 y 128)) ∧ Bk9 W w.heap.size) ⟨Below.setCell B g4 _, hD.set nd _, ⟨hA.1, fun j v hv => cell_far (hA.2 j v hv) ng⟩, ⟨by rw [List.length_set]; exact k0, (hB.set 0 (by rw [k0]; decide) _).1.range⟩, ⟨Cl.set hR.1 n4 _, hR.2.set _ _⟩⟩ ?_
  clear B hD hA hB hR z0 f0
  rintro V9 ⟨B, hD, hA, hC, hR⟩
  clear W
  refine wp_world (fun W => Below w.heap.size w W ∧ Mds W ∧ HAt W g A1 ∧ HAt W b4 (A2.set 0 (bits .andNot .u8 y 128)) ∧ Bk9 W w.heap.size) ⟨B, hD, hA, hC, hR⟩ ?_
  clear B hD hA hC hR V9
  rintro W ⟨B, hD, hA, hC, hR⟩
  refine alloc_tail (A := ?AA1) 7 (by kernel_rfl) (by kernel_rfl) rfl rfl (alloc_sg _ _ _) (fun V hV => ?HH1) (fun V w1 hV hw => ?TT1)
  case HH1 =>
    have hDg : ∀ d os, Mds (grow (redrawn V d) os) := fun d os => (hD.keep hV).keep (below_regrown V d os)
    have kA : ∀ d os, HAt (grow (redrawn V d) os) g A1 := fun d os => (hA.keep hV).keep (below_regrown V d os)
    have kC : ∀ d os, HAt (grow (redrawn V d) os) b4 (A2.set 0 (bits .andNot .u8 y 128)) := fun d os => (hC.keep hV).keep (below_regrown V d os)
    unfold Gr
    simp only [List.take_succ_cons, List.take_zero]
    repeat
      first
        | go_big_quiet_skip
        | (go_big_quiet_want; go_big_quiet_op; go_big_quiet_on)
        | (go_big_quiet_want
           go_big_quiet_op
           apply Exists.intro
           refine ⟨fun p => ?_, ?_⟩
           · (first | (go_at_call 19; with_reducible exact Calls.regrown_of (W1.out _ (kA p.d p.os))) | (go_at_call 19; with_reducible exact Calls.regrown_of (W2.out _ _ (kC p.d p.os))))
           go_big_quiet_on)
    refine wpQuiet_nil ?_
    exact rfl
  case TT1 =>
    have hb := alloc_below hV hw
    have hN := (Bk9.new rfl).keep hw
    have nhD : V.heap.size ≠ 0 := Nat.ne_of_gt (Nat.lt_of_lt_of_le hD.lt hV.size)
    have nhA : V.heap.size ≠ g := Nat.ne_of_gt (Nat.lt_of_lt_of_le hA.lt hV.size)
    have nhC : V.heap.size ≠ b4 := Nat.ne_of_gt (Nat.lt_of_lt_of_le hC.lt hV.size)
    have nhR : V.heap.size ≠ w.heap.size := Nat.ne_of_gt (Nat.lt_of_lt_of_le hR.lt hV.size)
    have gn : w.heap.size ≤ V.heap.size := Nat.le_trans B.size hV.size
    replace B := B.trans (hb.mono B.size)
    replace hD := hD.keep hb; replace hA := hA.keep hb; replace hC := hC.keep hb; replace hR := hR.keep hb
    clear hb hw hV W
    generalize V.heap.size = bs at *
    clear V
    have gN := hN.cells; have qN := hN.free
    have mhD := nhD.symm
    have mhA := nhA.symm
    have mhC := nhC.symm
    have mhR := nhR.symm
    simp only [List.drop_succ_cons, List.drop_zero, Act.put, List.setIfInBounds_toArray, List.set_cons_zero, List.set_cons_succ]
    go_wp2_with fail
    refine calls_world (fun W => Below w.heap.size w W ∧ Mds W ∧ HAt W g A1 ∧ HAt W b4 (A2.set 0 (bits .andNot .u8 y 128)) ∧ Bk9 W w.heap.size ∧ Pnt W bs r s od) ⟨below_put9 B gn, hD.put9 nhD, hA.put9 nhA, hC.put9 nhC, hR.put9b nhR, hN.put9 r s od⟩ ?_
    clear B hN gN qN hD hA hC hR nhD mhD nhA mhA nhC mhC nhR mhR  gn
    rintro W ⟨B, hD, hA, hC, hR, hS⟩
    clear w1
    clear hA hC
    with_reducible refine (CK.out _ hD).mono ?_
    rintro e w9 ⟨rfl, hb⟩
    replace B := B.trans (hb.mono B.size)
    replace hD := hD.keep hb; replace hR := hR.keep hb; replace hS := hS.keep hb
    clear hb W hD
    have gS := hS.cells
    have gR := hR.cells; have fR := hR.free
    go_wp2
    simp [bodyPost, results, Tryd.results9, go_sem, gR]
    repeat (first | with_reducible exact B | with_reducible refine Below.setCell ?_ o3 _)
end Go.Proofs.YtnjmdncnkijijaaDoor
