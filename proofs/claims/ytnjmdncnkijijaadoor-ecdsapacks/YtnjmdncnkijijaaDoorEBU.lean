import Derived.Test.YtnjmdncnkijijaaDoorEUnp
import Derived.Test.YtnjmdncnkijijaaDoorEBA
import Derived.Test.YtnjmdncnkijijaaDoorEBB
import Derived.Test.YtnjmdncnkijijaaDoorEBN
import Derived.Test.YtnjmdncnkijijaaDoorENum
import Derived.Test.YtnjmdncnkijijaaDoorEChk
namespace Go.Proofs.YtnjmdncnkijijaaDoor
open Go.RowKit Go.Sort

set_option maxRecDepth 100000 in
set_option maxHeartbeats 8000000 in
theorem eunp_fail {A1 A2 : List Int} {M : List Value} {g cap : Nat} {y r s : Int} {od : Bool} {v : Int} (hv : ¬ v = 0) (eo : (bits .and .u8 y 128 != 0) = od) (hc : 64 ≤ cap) (k0 : A2.length = 32) (ey : Hid (y = A2.getD 0 0)) (eM : Hid (M = A2.map (Value.int .u8)))
    (W1 : Hid (∀ w, HAt w g A1 → Calls Tryd.prog 19 #[.slice (some ⟨g, 0, none⟩) 32 cap] w fun e w' => e = .returned (.agg #[.int .u64 (l0 r), .int .u64 (l1 r), .int .u64 (l2 r), .int .u64 (l3 r)]) ∧ Below w.heap.size w w'))
    (W2 : Hid (∀ b w, HAt w b (A2.set 0 (bits .andNot .u8 y 128)) → Calls Tryd.prog 19 #[.slice (some ⟨b, 0, none⟩) 32 32] w fun e w' => e = .returned (.agg #[.int .u64 (l0 s), .int .u64 (l1 s), .int .u64 (l2 s), .int .u64 (l3 s)]) ∧ Below w.heap.size w w'))
    (CK : Hid (∀ w, Mds w → Calls Tryd.prog 14 #[.agg #[.int .u64 (l0 r), .int .u64 (l1 r), .int .u64 (l2 r), .int .u64 (l3 r), .int .u64 (l0 s), .int .u64 (l1 s), .int .u64 (l2 s), .int .u64 (l3 s), .bool od]] w fun e w' => e = .returned (.int .i64 v) ∧ Below w.heap.size w w'))
    (w : World) (hm : Mds w) (h1 : HAt w g A1) (h2 : w.rangeAt g 32 M) :
    Calls Tryd.prog 9 #[.slice (some ⟨g, 0, none⟩) 64 cap] w fun e w' => e = .returned (.tuple #[.agg #[.int .u64 0, .int .u64 0, .int .u64 0, .int .u64 0, .int .u64 0, .int .u64 0, .int .u64 0, .int .u64 0, .bool false], .int .i64 v]) ∧ Below w.heap.size w w' := by
  have k2 : M.length = 32 := by rw [eM.out, List.length_map]; exact k0
  have gl : g < w.heap.size := h1.lt
  have H1 : Hid (HAt w g A1) := h1
  have ra : ∀ o, (w.alloc o).rangeAt g 32 M := fun o j v hv => cell_keep ((Below.refl _ _).alloc (Nat.le_refl _) o) (h2 j v hv)
  clear h1 h2
  have hat : ∀ w, (Instr.arrayAt 44 (.slice (some ⟨g, 32, none⟩) 32 (cap - 32))).run Tryd.prog w = .ok (.pointer (some ⟨g, 32, none⟩)) w := fun w => run_arrayAt w 44 _ 32 _ 32 _ Tryd.underlying44 (Nat.le_refl _)
  have nc : cap ≠ 32 := by omega
  have nc2 : (32 : Int) ≤ (cap : Int) := by omega
  have nc3 : (64 : Int) ≤ (cap : Int) := by omega
  go_enter Tryd.func9, Tryd.ntmps9
  have sz : M.toArray.size = 32 := by rw [List.size_toArray]; exact k2
  have oc : M.toArray.all (·.oneCell') = true := by rw [eM.out]; exact one_cells A2
  have tr : ((w.alloc (.cells #[.int .u64 0, .int .u64 0, .int .u64 0, .int .u64 0, .int .u64 0, .int .u64 0, .int .u64 0, .int .u64 0, .bool false] 26)).alloc (.cells (((List.replicate 32 (0 : Int)).map (Value.int .u8)).toArray) 44)).there (w.heap.size + 1) 0 M.toArray.size := (Bts.new (List.replicate 32 0) 44 (by simp)).there (by rw [sz]; rfl)
  have hs : (w.alloc (.cells #[.int .u64 0, .int .u64 0, .int .u64 0, .int .u64 0, .int .u64 0, .int .u64 0, .int .u64 0, .int .u64 0, .bool false] 26)).heap.size = w.heap.size + 1 := by simp
  have FF : Hid (Below w.heap.size w (((w.alloc (.cells #[.int .u64 0, .int .u64 0, .int .u64 0, .int .u64 0, .int .u64 0, .int .u64 0, .int .u64 0, .int .u64 0, .bool false] 26)).alloc (.cells (((List.replicate 32 (0 : Int)).map (Value.int .u8)).toArray) 44)).setCells (w.heap.size + 1) 0 M) ∧ Mds (((w.alloc (.cells #[.int .u64 0, .int .u64 0, .int .u64 0, .int .u64 0, .int .u64 0, .int .u64 0, .int .u64 0, .int .u64 0, .bool false] 26)).alloc (.cells (((List.replicate 32 (0 : Int)).map (Value.int .u8)).toArray) 44)).setCells (w.heap.size + 1) 0 M) ∧ HAt (((w.alloc (.cells #[.int .u64 0, .int .u64 0, .int .u64 0, .int .u64 0, .int .u64 0, .int .u64 0, .int .u64 0, .int .u64 0, .bool false] 26)).alloc (.cells (((List.replicate 32 (0 : Int)).map (Value.int .u8)).toArray) 44)).setCells (w.heap.size + 1) 0 M) g A1 ∧ Bk9 (((w.alloc (.cells #[.int .u64 0, .int .u64 0, .int .u64 0, .int .u64 0, .int .u64 0, .int .u64 0, .int .u64 0, .int .u64 0, .bool false] 26)).alloc (.cells (((List.replicate 32 (0 : Int)).map (Value.int .u8)).toArray) 44)).setCells (w.heap.size + 1) 0 M) w.heap.size ∧ Bts (((w.alloc (.cells #[.int .u64 0, .int .u64 0, .int .u64 0, .int .u64 0, .int .u64 0, .int .u64 0, .int .u64 0, .int .u64 0, .bool false] 26)).alloc (.cells (((List.replicate 32 (0 : Int)).map (Value.int .u8)).toArray) 44)).setCells (w.heap.size + 1) 0 M) (w.heap.size + 1) A2) := by
    have B0 : Below w.heap.size w ((w.alloc (.cells #[.int .u64 0, .int .u64 0, .int .u64 0, .int .u64 0, .int .u64 0, .int .u64 0, .int .u64 0, .int .u64 0, .bool false] 26)).alloc (.cells (((List.replicate 32 (0 : Int)).map (Value.int .u8)).toArray) 44)) := by repeat (first | with_reducible exact Below.refl _ _ | with_reducible refine Below.alloc ?_ (by first | omega | (simp; done) | (simp; omega)) _)
    refine ⟨below_cells B0 (by omega) _ _, Mds.cells_put ((hm.alloc _).alloc _) (by have := hm.lt; omega) _ _, ⟨H1.out.1, World.rangeAt_setCells_apart (H1.out.keep B0).2 _ _ _ (.inl (by omega))⟩, ⟨Cl.cells_put ((Bk9.new rfl).alloc _).1 (by omega) _ _, ((Bk9.new rfl).alloc _).2.cells_put _ _⟩, bts_range (by rw [← eM.out]; exact World.rangeAt_setCells_same _ _ _ _ (by simpa using tr)) ?_⟩
    · rw [k0]; exact ((Bts.new (List.replicate 32 0) 44 (by simp)).2).cells_put _ _
  go_wp2_with ((refine wpList_load_mid rfl 44 _ rfl g 32 rfl M _ (ra _) Tryd.underlying44 rfl (by rw [k2]; kernel_rfl) ?_); (refine Go.Great.wpList_allocTo rfl _ rfl _ _ (alloc_b32 _ _ _ _ _) ?_); (rw [hs]); (refine wpList_store_mid rfl 44 _ _ rfl (w.heap.size + 1) 0 M.toArray rfl rfl tr (by rw [sz]; kernel_rfl) oc ?_); (refine wpList_world (fun W => Below w.heap.size w W ∧ Mds W ∧ HAt W g A1 ∧ Bk9 W w.heap.size ∧ Bts W (w.heap.size + 1) A2) FF.out ?_); (clear FF hs tr oc sz ra hat H1); (rintro W ⟨B, hD, hA, hR, hB⟩); (have g4 : w.heap.size ≤ w.heap.size + 1 := by omega); (have n4 : w.heap.size + 1 ≠ w.heap.size := by omega); (have ng : w.heap.size + 1 ≠ g := by omega); (have nd : w.heap.size + 1 ≠ 0 := (by have := hm.lt; omega)); (generalize w.heap.size + 1 = b4 at *); (have z0 := hB.1 0 (by rw [k0]; decide)); (have f0 := hB.2 0 (by rw [k0]; decide)); (rw [← ey.out] at z0); (simp only [Act.put, List.setIfInBounds_toArray, List.set_cons_zero, List.set_cons_succ]))
  have o3 : w.heap.size ≤ w.heap.size := Nat.le_refl _
  refine wp_world (fun W => Below w.heap.size w W ∧ Mds W ∧ HAt W g A1 ∧ HAt W b4 (A2.set 0 (bits .andNot .u8 y 128)) ∧ Bk9 W w.heap.size) ⟨Below.setCell B g4 _, hD.set nd _, ⟨hA.1, fun j v hv => cell_far (hA.2 j v hv) ng⟩, ⟨by rw [List.length_set]; exact k0, (hB.set 0 (by rw [k0]; decide) _).1.range⟩, ⟨Cl.set hR.1 n4 _, hR.2.set _ _⟩⟩ ?_
  clear B hD hA hB hR z0 f0
  rintro V9 ⟨B, hD, hA, hC, hR⟩
  clear W
  refine wp_world (fun W => Below w.heap.size w W ∧ Mds W ∧ HAt W g A1 ∧ HAt W b4 (A2.set 0 (bits .andNot .u8 y 128)) ∧ Bk9 W w.heap.size) ⟨B, hD, hA, hC, hR⟩ ?_
  clear B hD hA hC hR V9
  rintro W ⟨B, hD, hA, hC, hR⟩
  refine alloc_tail (A := ?AA1) 7 (by kernel_rfl) (by kernel_rfl) rfl rfl (alloc_sg _ _ _) (fun V hV => ?HH1) (fun V w1 hV hw => ?TT1)
  case HH1 =>
    have hDg : ∀ d os, Mds (grow (redrawn V d) os) := fun d os => (hD.keep hV).keep (below_regrown V d os)
    have kA : ∀ d os, HAt (grow (redrawn V d) os) g A1 := fun d os => (hA.keep hV).keep (below_regrown V d os)
    have kC : ∀ d os, HAt (grow (redrawn V d) os) b4 (A2.set 0 (bits .andNot .u8 y 128)) := fun d os => (hC.keep hV).keep (below_regrown V d os)
    unfold Gr
    simp only [List.take_succ_cons, List.take_zero]
    repeat
      first
        | go_big_quiet_skip
        | (go_big_quiet_want; go_big_quiet_op; go_big_quiet_on)
        | (go_big_quiet_want
           go_big_quiet_op
           apply Exists.intro
           refine ⟨fun p => ?_, ?_⟩
           · (first | (go_at_call 19; with_reducible exact Calls.regrown_of (W1.out _ (kA p.d p.os))) | (go_at_call 19; with_reducible exact Calls.regrown_of (W2.out _ _ (kC p.d p.os))))
           go_big_quiet_on)
    refine wpQuiet_nil ?_
    exact rfl
  case TT1 =>
    have hb := alloc_below hV hw
    have hN := (Bk9.new rfl).keep hw
    have nhD : V.heap.size ≠ 0 := Nat.ne_of_gt (Nat.lt_of_lt_of_le hD.lt hV.size)
    have nhA : V.heap.size ≠ g := Nat.ne_of_gt (Nat.lt_of_lt_of_le hA.lt hV.size)
    have nhC : V.heap.size ≠ b4 := Nat.ne_of_gt (Nat.lt_of_lt_of_le hC.lt hV.size)
    have nhR : V.heap.size ≠ w.heap.size := Nat.ne_of_gt (Nat.lt_of_lt_of_le hR.lt hV.size)
    have gn : w.heap.size ≤ V.heap.size := Nat.le_trans B.size hV.size
    replace B := B.trans (hb.mono B.size)
    replace hD := hD.keep hb; replace hA := hA.keep hb; replace hC := hC.keep hb; replace hR := hR.keep hb
    clear hb hw hV W
    generalize V.heap.size = bs at *
    clear V
    have gN := hN.cells; have qN := hN.free
    have mhD := nhD.symm
    have mhA := nhA.symm
    have mhC := nhC.symm
    have mhR := nhR.symm
    simp only [List.drop_succ_cons, List.drop_zero, Act.put, List.setIfInBounds_toArray, List.set_cons_zero, List.set_cons_succ]
    go_wp2_with fail
    refine calls_world (fun W => Below w.heap.size w W ∧ Mds W ∧ HAt W g A1 ∧ HAt W b4 (A2.set 0 (bits .andNot .u8 y 128)) ∧ Bk9 W w.heap.size ∧ Pnt W bs r s od) ⟨below_put9 B gn, hD.put9 nhD, hA.put9 nhA, hC.put9 nhC, hR.put9b nhR, hN.put9 r s od⟩ ?_
    clear B hN gN qN hD hA hC hR nhD mhD nhA mhA nhC mhC nhR mhR  gn
    rintro W ⟨B, hD, hA, hC, hR, hS⟩
    clear w1
    clear hA hC
    with_reducible refine (CK.out _ hD).mono ?_
    rintro e w9 ⟨rfl, hb⟩
    replace B := B.trans (hb.mono B.size)
    replace hD := hD.keep hb; replace hR := hR.keep hb; replace hS := hS.keep hb
    clear hb W hD
    have gS := hS.cells
    have gR := hR.cells; have fR := hR.free
    go_wp2
    simp [bodyPost, results, Tryd.results9, go_sem, gR]
    repeat (first | with_reducible exact B | with_reducible refine Below.setCell ?_ o3 _)

theorem eunp_long {a : Option Addr} {n c : Nat} (hn : n ≠ 64) (w : World) :
    Calls Tryd.prog 9 #[.slice a n c] w fun e w' => e = .returned (.tuple #[.agg #[.int .u64 0, .int .u64 0, .int .u64 0, .int .u64 0, .int .u64 0, .int .u64 0, .int .u64 0, .int .u64 0, .bool false], .int .i64 66]) ∧ Below w.heap.size w w' := by
  have h : ¬ ((n : Int) = 64) := by omega
  go_enter Tryd.func9, Tryd.ntmps9
  go_wp2
  simp [bodyPost, results, Tryd.results9, go_sem]
  repeat (first | with_reducible exact Below.refl _ _ | with_reducible refine Below.drew ?_ | with_reducible refine Below.alloc ?_ (by first | omega | (simp; done) | (simp; omega)) _ | with_reducible refine Below.setCell ?_ (by first | omega | (simp; done)) _)
end Go.Proofs.YtnjmdncnkijijaaDoor

/- Unpack and Pack of lists of one's own. -/
namespace Go.Proofs.YtnjmdncnkijijaaDoor
open Go.RowKit Go.Sort

theorem whole_hatB {A : List Int} {b cap : Nat} {n : Int} (hA : Byts A) (hn : sufN A 32 = n) : Hid (∀ w, HAt w b A → Calls Tryd.prog 19 #[.slice (some ⟨b, 0, none⟩) 32 cap] w fun e w' => e = .returned (.agg #[.int .u64 (l0 n), .int .u64 (l1 n), .int .u64 (l2 n), .int .u64 (l3 n)]) ∧ Below w.heap.size w w') := fun w h => by
  have := ewhole_any (bb := b) (ob := 0) (cb := cap) hA (by rw [h.1]; exact Nat.le_refl _) w (fun i hi => h.2 i _ (by rw [List.getElem?_map, List.getElem?_eq_getElem hi]; simp [List.getD, hi]))
  rw [h.1, hn] at this
  exact this
end Go.Proofs.YtnjmdncnkijijaaDoor

/- What Pack and Unpack answer, as lists and numbers. -/
namespace Go.Proofs.YtnjmdncnkijijaaDoor
open Go.RowKit Go.Sort

def pkL (r s : Int) (o : Bool) : List Int := if chkN r s = 0 then putL r ++ markL o (putL s) else []
theorem pkL_len (r s : Int) (o : Bool) : (pkL r s o).length ≤ 64 := by
  unfold pkL
  split
  · rw [List.length_append, markL_len, putL_len, putL_len]; decide
  · simp
def uE (X : List Int) : Int := if X.length = 64 then chkN (rN X) (sN X) else 66
def uR (X : List Int) : Int := if uE X = 0 then rN X else 0
def uS (X : List Int) : Int := if uE X = 0 then sN X else 0
def uO (X : List Int) : Bool := if uE X = 0 then oB X else false
theorem uE_len {X : List Int} (h : uE X = 0) : X.length = 64 := by
  unfold uE at h
  by_cases k : X.length = 64
  · exact k
  · rw [if_neg k] at h; cases h
theorem uR_num {X : List Int} (hX : Byts X) : Num (uR X) := by
  unfold uR
  split
  · next h => exact (sig_num hX (uE_len h)).1
  · exact ⟨by decide, by decide⟩
theorem uS_num {X : List Int} (hX : Byts X) : Num (uS X) := by
  unfold uS
  split
  · next h => exact (sig_num hX (uE_len h)).2.1
  · exact ⟨by decide, by decide⟩
theorem zero_sig : (.agg #[.int .u64 (l0 0), .int .u64 (l1 0), .int .u64 (l2 0), .int .u64 (l3 0), .int .u64 (l0 0), .int .u64 (l1 0), .int .u64 (l2 0), .int .u64 (l3 0), .bool false]) = Value.agg #[.int .u64 0, .int .u64 0, .int .u64 0, .int .u64 0, .int .u64 0, .int .u64 0, .int .u64 0, .int .u64 0, .bool false] := by
  obtain ⟨z0, z1, z2, z3⟩ := zero_limbs
  rw [z0, z1, z2, z3]
/-- The mark as the document takes it off. -/
theorem bits_doc : ∀ y : Fin 256, bits .andNot .u8 (y.val : Int) 128 = (y.val : Int) % 128 ∧ (bits .and .u8 (y.val : Int) 128 != 0) = decide ((128 : Int) ≤ (y.val : Int)) := by decide +kernel
theorem doc_num {y : Int} (h0 : 0 ≤ y) (h1 : y < 256) : bits .andNot .u8 y 128 = y % 128 ∧ (bits .and .u8 y 128 != 0) = decide ((128 : Int) ≤ y) := by
  obtain ⟨m, rfl⟩ := Int.eq_ofNat_of_zero_le h0
  exact bits_doc ⟨m, by omega⟩
theorem bits_orm : ∀ y : Fin 128, bits .or .u8 (y.val : Int) 128 = (y.val : Int) + 128 := by decide +kernel
theorem orm_num {y : Int} (h0 : 0 ≤ y) (h1 : y < 128) : bits .or .u8 y 128 = y + 128 := by
  obtain ⟨m, rfl⟩ := Int.eq_ofNat_of_zero_le h0
  exact bits_orm ⟨m, by omega⟩
theorem low_byteP {s : Int} (h0 : 0 ≤ s) (h : lowN s = true) : 0 ≤ (putL s).getD 0 0 ∧ (putL s).getD 0 0 < 128 := by
  rw [putL_getD s (by decide)]
  unfold lowN at h
  have e0 : shrN nN 1 = 57896044618658097711785492504343953926418782139537452191302581570759080747168 := by decide +kernel
  rw [e0] at h
  have h' := of_decide_eq_true h
  have e : (256 : Int) ^ (31 - 0) = 452312848583266388373324160190187140051835877600158453279131187530910662656 := by decide +kernel
  rw [e]
  omega
theorem chk_low {r s : Int} (h : chkN r s = 0) : lowN s = true := by
  unfold chkN at h
  cases hl : lowN s with
  | true => rfl
  | false =>
    rw [hl] at h
    split at h
    · cases h
    · split at h
      · cases h
      · simp at h
theorem hat_bz {W : World} {g : Nat} {X : List Int} (hl : X.length = 64) (h : Bz W g 0 X) : HAt W g (X.take 32) ∧ W.rangeAt g 32 ((X.drop 32).map (Value.int .u8)) := by
  have hb : ∀ i, i < 64 → W.cell? ⟨g, i, none⟩ = some (.int .u8 (X.getD i 0)) := fun i hi => by have := h i (by omega); rwa [Nat.zero_add] at this
  refine ⟨⟨by rw [List.length_take]; omega, fun j u hu => ?_⟩, fun j u hu => ?_⟩
  · rw [List.getElem?_map] at hu
    have hj : j < (X.take 32).length := by
      rcases Nat.lt_or_ge j (X.take 32).length with k | k
      · exact k
      · rw [List.getElem?_eq_none k] at hu; cases hu
    rw [List.getElem?_eq_getElem hj] at hu
    rw [List.length_take] at hj
    rw [Nat.zero_add, hb j (by omega)]
    rw [← hu]
    simp [List.getD, show j < X.length by omega]
  · rw [List.getElem?_map] at hu
    have hj : j < (X.drop 32).length := by
      rcases Nat.lt_or_ge j (X.drop 32).length with k | k
      · exact k
      · rw [List.getElem?_eq_none k] at hu; cases hu
    rw [List.getElem?_eq_getElem hj] at hu
    rw [List.length_drop] at hj
    rw [hb (32 + j) (by omega), ← hu]
    simp [List.getD, show 32 + j < X.length by omega]
/-- Unpack of any bytes. -/
theorem unpack_all {g cap : Nat} {X : List Int} (hX : Byts X) (hc : X.length ≤ cap) (w : World) (hm : Mds w) (hz : Bz w g 0 X) :
    Calls Tryd.prog 9 #[.slice (some ⟨g, 0, none⟩) X.length cap] w fun e w' => e = .returned (.tuple #[.agg #[.int .u64 (l0 (uR X)), .int .u64 (l1 (uR X)), .int .u64 (l2 (uR X)), .int .u64 (l3 (uR X)), .int .u64 (l0 (uS X)), .int .u64 (l1 (uS X)), .int .u64 (l2 (uS X)), .int .u64 (l3 (uS X)), .bool (uO X)], .int .i64 (uE X)]) ∧ Below w.heap.size w w' := by
  by_cases hl : X.length = 64
  case neg =>
    have e : uE X = 66 := if_neg hl
    have h := eunp_long (a := some ⟨g, 0, none⟩) (c := cap) hl w
    unfold uR uS uO
    rw [e, if_neg (by decide), if_neg (by decide), if_neg (by decide), zero_sig]
    exact h
  obtain ⟨h1, h2⟩ := hat_bz hl hz
  rw [hl] at hc ⊢
  obtain ⟨n1, n2, _⟩ := sig_num hX hl
  have q1 : (X.take 32).length = 32 := by rw [List.length_take]; omega
  have q2 : (X.drop 32).length = 32 := by rw [List.length_drop]; omega
  have b1 := byts_take hX 32
  have b2 := drop_bytsU hX 32
  have b3 := offL_byts b2 (by omega)
  have CK := echeck_any (o := oB X) n1 n2
  have W2 : Hid (∀ b w, HAt w b ((X.drop 32).set 0 (bits .andNot .u8 ((X.drop 32).getD 0 0) 128)) → Calls Tryd.prog 19 #[.slice (some ⟨b, 0, none⟩) 32 32] w fun e w' => e = .returned (.agg #[.int .u64 (l0 (sN X)), .int .u64 (l1 (sN X)), .int .u64 (l2 (sN X)), .int .u64 (l3 (sN X))]) ∧ Below w.heap.size w w') := fun b w h => (whole_hatB b3 rfl).out w h
  have e : uE X = chkN (rN X) (sN X) := if_pos hl
  unfold uR uS uO
  rw [e]
  by_cases k : chkN (rN X) (sN X) = 0
  · rw [k] at CK ⊢
    rw [if_pos rfl, if_pos rfl, if_pos rfl]
    exact eunp_walk rfl hc q2 rfl rfl (whole_hatB b1 rfl) W2 CK w hm h1 h2
  · rw [if_neg k, if_neg k, if_neg k, zero_sig]
    exact eunp_fail k rfl hc q2 rfl rfl (whole_hatB b1 rfl) W2 CK w hm h1 h2
set_option maxRecDepth 100000 in
set_option maxHeartbeats 4000000 in
theorem epack_bad {r s v : Int} {o : Bool} (hv : ¬ v = 0) (CK : Hid (∀ w, Mds w → Calls Tryd.prog 14 #[.agg #[.int .u64 (l0 r), .int .u64 (l1 r), .int .u64 (l2 r), .int .u64 (l3 r), .int .u64 (l0 s), .int .u64 (l1 s), .int .u64 (l2 s), .int .u64 (l3 s), .bool o]] w fun e w' => e = .returned (.int .i64 v) ∧ Below w.heap.size w w')) (w : World) (hm : Mds w) :
    Calls Tryd.prog 4 #[.agg #[.int .u64 (l0 r), .int .u64 (l1 r), .int .u64 (l2 r), .int .u64 (l3 r), .int .u64 (l0 s), .int .u64 (l1 s), .int .u64 (l2 s), .int .u64 (l3 s), .bool o]] w fun e w' => e = .returned (.tuple #[.slice none 0 0, .int .i64 v]) ∧ Below w.heap.size w w' := by
  go_enter Tryd.func4, Tryd.ntmps4
  go_wp2_with fail
  refine calls_world (fun W => Below w.heap.size w W ∧ Mds W) ⟨by repeat (first | with_reducible exact Below.refl _ _ | with_reducible refine Below.alloc ?_ (by first | omega | (simp; done) | (simp; omega)) _), hm.alloc _⟩ ?_
  rintro W ⟨B, hD⟩
  with_reducible refine (CK.out _ hD).mono ?_
  rintro e w1 ⟨rfl, hb⟩
  replace B := B.trans (hb.mono B.size)
  clear hb hD W
  go_wp2
  simp [bodyPost, results, Tryd.results4, go_sem]
  exact B
/-- Pack of any Sig. -/
theorem pack_all {r s : Int} {o : Bool} (hr : Num r) (hs : Num s) (w : World) (hm : Mds w) :
    Calls Tryd.prog 4 #[.agg #[.int .u64 (l0 r), .int .u64 (l1 r), .int .u64 (l2 r), .int .u64 (l3 r), .int .u64 (l0 s), .int .u64 (l1 s), .int .u64 (l2 s), .int .u64 (l3 s), .bool o]] w fun e w' => ∃ v, e = .returned (.tuple #[v, .int .i64 (chkN r s)]) ∧ OwnB w.heap.size w' v (pkL r s o) ∧ Below w.heap.size w w' := by
  have CK := echeck_any (o := o) hr hs
  by_cases hk : chkN r s = 0
  case neg =>
    refine (epack_bad hk CK w hm).mono ?_
    rintro e w' ⟨rfl, hb⟩
    refine ⟨_, rfl, ?_, hb⟩
    rw [pkL, if_neg hk]
    exact OwnB.nil _ _
  rw [hk] at CK ⊢
  have PE : Calls Tryd.prog 4 #[.agg #[.int .u64 (l0 r), .int .u64 (l1 r), .int .u64 (l2 r), .int .u64 (l3 r), .int .u64 (l0 s), .int .u64 (l1 s), .int .u64 (l2 s), .int .u64 (l3 s), .bool o]] w fun e w' => ∃ v, e = .returned (.tuple #[v, .int .i64 0]) ∧ World.ownsRow w' w.heap.size 5 1 v 64 ((putL r ++ markL o (putL s)).map fun z => Value.int .u8 z) ∧ Below w.heap.size w w' := by
    cases o with
    | false => exact epack_even (putL_len _) (putL_len _) rfl rfl (fun w => put_any w) (fun w => put_any w) CK w hm
    | true => exact epack_odd (putL_len _) (putL_len _) rfl rfl (fun w => put_any w) (fun w => put_any w) CK w hm
  refine PE.mono ?_
  rintro e w' ⟨v, rfl, ho, hb⟩
  refine ⟨v, rfl, ?_, hb⟩
  rw [pkL, if_pos hk, OwnB, List.length_append, markL_len, putL_len, putL_len]
  exact ho
end Go.Proofs.YtnjmdncnkijijaaDoor
