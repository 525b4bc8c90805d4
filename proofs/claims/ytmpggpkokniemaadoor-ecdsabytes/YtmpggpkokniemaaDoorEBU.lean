import Derived.Test.YtmpggpkokniemaaDoorEUnp
import Derived.Test.YtmpggpkokniemaaDoorEBA
import Derived.Test.YtmpggpkokniemaaDoorEBB
import Derived.Test.YtmpggpkokniemaaDoorEBN
import Derived.Test.YtmpggpkokniemaaDoorENum
import Derived.Test.YtmpggpkokniemaaDoorEChk
import Derived.Test.YtmpggpkokniemaaDoorESW
namespace Go.Proofs.YtmpggpkokniemaaDoor
open Go.RowKit Go.Sort

set_option maxRecDepth 100000 in
set_option maxHeartbeats 8000000 in
theorem eunp_fail {A1 A2 : List Int} {M : List Value} {g cap : Nat} {y r s : Int} {od : Bool} {v : Int} (hv : ¬ v = 0) (eo : (bits .and .u8 y 128 != 0) = od) (hc : 64 ≤ cap) (k0 : A2.length = 32) (ey : Hid (y = A2.getD 0 0)) (eM : Hid (M = A2.map (Value.int .u8)))
    (W1 : Hid (∀ w, HAt w g A1 → Calls Tryd.prog 10 #[.slice (some ⟨g, 0, none⟩) 32 cap] w fun e w' => e = .returned (.agg #[.int .u64 (l0 r), .int .u64 (l1 r), .int .u64 (l2 r), .int .u64 (l3 r)]) ∧ Below w.heap.size w w'))
    (W2 : Hid (∀ b w, HAt w b (A2.set 0 (bits .andNot .u8 y 128)) → Calls Tryd.prog 10 #[.slice (some ⟨b, 0, none⟩) 32 32] w fun e w' => e = .returned (.agg #[.int .u64 (l0 s), .int .u64 (l1 s), .int .u64 (l2 s), .int .u64 (l3 s)]) ∧ Below w.heap.size w w'))
    (CK : Hid (∀ w, Mds w → Calls Tryd.prog 8 #[.agg #[.int .u64 (l0 r), .int .u64 (l1 r), .int .u64 (l2 r), .int .u64 (l3 r), .int .u64 (l0 s), .int .u64 (l1 s), .int .u64 (l2 s), .int .u64 (l3 s), .bool od]] w fun e w' => e = .returned (.int .i64 v) ∧ Below w.heap.size w w'))
    (w : World) (hm : Mds w) (h1 : HAt w g A1) (h2 : w.rangeAt g 32 M) :
    Calls Tryd.prog 4 #[.slice (some ⟨g, 0, none⟩) 64 cap] w fun e w' => e = .returned (.tuple #[.agg #[.int .u64 0, .int .u64 0, .int .u64 0, .int .u64 0, .int .u64 0, .int .u64 0, .int .u64 0, .int .u64 0, .bool false], .int .i64 v]) ∧ Below w.heap.size w w' := by
  have k2 : M.length = 32 := by rw [eM.out, List.length_map]; exact k0
  have gl : g < w.heap.size := h1.lt
  have H1 : Hid (HAt w g A1) := h1
  have ra : ∀ o, (w.alloc o).rangeAt g 32 M := fun o j v hv => cell_keep ((Below.refl _ _).alloc (Nat.le_refl _) o) (h2 j v hv)
  clear h1 h2
  have hat : ∀ w, (Instr.arrayAt 39 (.slice (some ⟨g, 32, none⟩) 32 (cap - 32))).run Tryd.prog w = .ok (.pointer (some ⟨g, 32, none⟩)) w := fun w => run_arrayAt w 39 _ 32 _ 32 _ Tryd.underlying39 (Nat.le_refl _)
  have nc : cap ≠ 32 := by omega
  have nc2 : (32 : Int) ≤ (cap : Int) := by omega
  have nc3 : (64 : Int) ≤ (cap : Int) := by omega
  go_enter Tryd.func4, Tryd.ntmps4
  have sz : M.toArray.size = 32 := by rw [List.size_toArray]; exact k2
  have oc : M.toArray.all (·.oneCell') = true := by rw [eM.out]; exact one_cells A2
  have tr : ((w.alloc (.cells #[.int .u64 0, .int .u64 0, .int .u64 0, .int .u64 0, .int .u64 0, .int .u64 0, .int .u64 0, .int .u64 0, .bool false] 27)).alloc (.cells (((List.replicate 32 (0 : Int)).map (Value.int .u8)).toArray) 39)).there (w.heap.size + 1) 0 M.toArray.size := (Bts.new (List.replicate 32 0) 39 (by simp)).there (by rw [sz]; rfl)
  have hs : (w.alloc (.cells #[.int .u64 0, .int .u64 0, .int .u64 0, .int .u64 0, .int .u64 0, .int .u64 0, .int .u64 0, .int .u64 0, .bool false] 27)).heap.size = w.heap.size + 1 := by simp
  have FF : Hid (Below w.heap.size w (((w.alloc (.cells #[.int .u64 0, .int .u64 0, .int .u64 0, .int .u64 0, .int .u64 0, .int .u64 0, .int .u64 0, .int .u64 0, .bool false] 27)).alloc (.cells (((List.replicate 32 (0 : Int)).map (Value.int .u8)).toArray) 39)).setCells (w.heap.size + 1) 0 M) ∧ Mds (((w.alloc (.cells #[.int .u64 0, .int .u64 0, .int .u64 0, .int .u64 0, .int .u64 0, .int .u64 0, .int .u64 0, .int .u64 0, .bool false] 27)).alloc (.cells (((List.replicate 32 (0 : Int)).map (Value.int .u8)).toArray) 39)).setCells (w.heap.size + 1) 0 M) ∧ HAt (((w.alloc (.cells #[.int .u64 0, .int .u64 0, .int .u64 0, .int .u64 0, .int .u64 0, .int .u64 0, .int .u64 0, .int .u64 0, .bool false] 27)).alloc (.cells (((List.replicate 32 (0 : Int)).map (Value.int .u8)).toArray) 39)).setCells (w.heap.size + 1) 0 M) g A1 ∧ Bk9 (((w.alloc (.cells #[.int .u64 0, .int .u64 0, .int .u64 0, .int .u64 0, .int .u64 0, .int .u64 0, .int .u64 0, .int .u64 0, .bool false] 27)).alloc (.cells (((List.replicate 32 (0 : Int)).map (Value.int .u8)).toArray) 39)).setCells (w.heap.size + 1) 0 M) w.heap.size ∧ Bts (((w.alloc (.cells #[.int .u64 0, .int .u64 0, .int .u64 0, .int .u64 0, .int .u64 0, .int .u64 0, .int .u64 0, .int .u64 0, .bool false] 27)).alloc (.cells (((List.replicate 32 (0 : Int)).map (Value.int .u8)).toArray) 39)).setCells (w.heap.size + 1) 0 M) (w.heap.size + 1) A2) := by
    have B0 : Below w.heap.size w ((w.alloc (.cells #[.int .u64 0, .int .u64 0, .int .u64 0, .int .u64 0, .int .u64 0, .int .u64 0, .int .u64 0, .int .u64 0, .bool false] 27)).alloc (.cells (((List.replicate 32 (0 : Int)).map (Value.int .u8)).toArray) 39)) := by repeat (first | with_reducible exact Below.refl _ _ | with_reducible refine Below.alloc ?_ (by first | omega | (simp; done) | (simp; omega)) _)
    refine ⟨below_cells B0 (by omega) _ _, Mds.cells_put ((hm.alloc _).alloc _) (by have := hm.lt; omega) _ _, ⟨H1.out.1, World.rangeAt_setCells_apart (H1.out.keep B0).2 _ _ _ (.inl (by omega))⟩, ⟨Cl.cells_put ((Bk9.new rfl).alloc _).1 (by omega) _ _, ((Bk9.new rfl).alloc _).2.cells_put _ _⟩, bts_range (by rw [← eM.out]; exact World.rangeAt_setCells_same _ _ _ _ (by simpa using tr)) ?_⟩
    · rw [k0]; exact ((Bts.new (List.replicate 32 0) 39 (by simp)).2).cells_put _ _
  go_wp2_with ((refine wpList_load_mid rfl 39 _ rfl g 32 rfl M _ (ra _) Tryd.underlying39 rfl (by rw [k2]; kernel_rfl) ?_); (refine Go.Great.wpList_allocTo rfl _ rfl _ _ (alloc_b32 _ _ _ _ _) ?_); (rw [hs]); (refine wpList_store_mid rfl 39 _ _ rfl (w.heap.size + 1) 0 M.toArray rfl rfl tr (by rw [sz]; kernel_rfl) oc ?_); (refine wpList_world (fun W => Below w.heap.size w W ∧ Mds W ∧ HAt W g A1 ∧ Bk9 W w.heap.size ∧ Bts W (w.heap.size + 1) A2) FF.out ?_); (clear FF hs tr oc sz ra hat H1); (rintro W ⟨B, hD, hA, hR, hB⟩); (have g4 : w.heap.size ≤ w.heap.size + 1 := by omega); (have n4 : w.heap.size + 1 ≠ w.heap.size := by omega); (have ng : w.heap.size + 1 ≠ g := by omega); (have nd : w.heap.size + 1 ≠ 0 := (by have := hm.lt; omega)); (generalize w.heap.size + 1 = b4 at *); (have z0 := hB.1 0 (by rw [k0]; decide)); (have f0 := hB.2 0 (by rw [k0]; decide)); (rw [← ey.out] at z0); (simp only [Act.put, List.setIfInBounds_toArray, List.set_cons_zero, List.set_cons_succ]))
  have o3 : w.heap.size ≤ w.heap.size := Nat.le_refl _
  refine wp_world (fun W => Below w.heap.size w W ∧ Mds W ∧ HAt W g A1 ∧ HAt W b4 (A2.set 0 (bits .andNot .u8 y 128)) ∧ Bk9 W w.heap.size) ⟨Below.setCell B g4 _, hD.set nd _, ⟨hA.1, fun j v hv => cell_far (hA.2 j v hv) ng⟩, ⟨by rw [List.length_set]; exact k0, (hB.set 0 (by rw [k0]; decide) _).1.range⟩, ⟨Cl.set hR.1 n4 _, hR.2.set _ _⟩⟩ ?_
  clear B hD hA hB hR z0 f0
  rintro V9 ⟨B, hD, hA, hC, hR⟩
  clear W
  refine wp_world (fun W => Below w.heap.size w W ∧ Mds W ∧ HAt W g A1 ∧ HAt W b4 (A2.set 0 (bits .andNot .u8 y 128)) ∧ Bk9 W w.heap.size) ⟨B, hD, hA, hC, hR⟩ ?_
  clear B hD hA hC hR V9
  rintro W ⟨B, hD, hA, hC, hR⟩
  refine alloc_tail (A := ?AA1) 7 (by kernel_rfl) (by kernel_rfl) rfl rfl (alloc_sg _ _ _) (fun V hV => ?HH1) (fun V w1 hV hw => ?TT1)
  case HH1 =>
    have hDg : ∀ d os, Mds (grow (redrawn V d) os) := fun d os => (hD.keep hV).keep (below_regrown V d os)
    have kA : ∀ d os, HAt (grow (redrawn V d) os) g A1 := fun d os => (hA.keep hV).keep (below_regrown V d os)
    have kC : ∀ d os, HAt (grow (redrawn V d) os) b4 (A2.set 0 (bits .andNot .u8 y 128)) := fun d os => (hC.keep hV).keep (below_regrown V d os)
    unfold Gr
    simp only [List.take_succ_cons, List.take_zero]
    repeat
      first
        | go_big_quiet_skip
        | (go_big_quiet_want; go_big_quiet_op; go_big_quiet_on)
        | (go_big_quiet_want
           go_big_quiet_op
           apply Exists.intro
           refine ⟨fun p => ?_, ?_⟩
           · (first | (go_at_call 10; with_reducible exact Calls.regrown_of (W1.out _ (kA p.d p.os))) | (go_at_call 10; with_reducible exact Calls.regrown_of (W2.out _ _ (kC p.d p.os))))
           go_big_quiet_on)
    refine wpQuiet_nil ?_
    exact rfl
  case TT1 =>
    have hb := alloc_below hV hw
    have hN := (Bk9.new rfl).keep hw
    have nhD : V.heap.size ≠ 0 := Nat.ne_of_gt (Nat.lt_of_lt_of_le hD.lt hV.size)
    have nhA : V.heap.size ≠ g := Nat.ne_of_gt (Nat.lt_of_lt_of_le hA.lt hV.size)
    have nhC : V.heap.size ≠ b4 := Nat.ne_of_gt (Nat.lt_of_lt_of_le hC.lt hV.size)
    have nhR : V.heap.size ≠ w.heap.size := Nat.ne_of_gt (Nat.lt_of_lt_of_le hR.lt hV.size)
    have gn : w.heap.size ≤ V.heap.size := Nat.le_trans B.size hV.size
    replace B := B.trans (hb.mono B.size)
    replace hD := hD.keep hb; replace hA := hA.keep hb; replace hC := hC.keep hb; replace hR := hR.keep hb
    clear hb hw hV W
    generalize V.heap.size = bs at *
    clear V
    have gN := hN.cells; have qN := hN.free
    have mhD := nhD.symm
    have mhA := nhA.symm
    have mhC := nhC.symm
    have mhR := nhR.symm
    simp only [List.drop_succ_cons, List.drop_zero, Act.put, List.setIfInBounds_toArray, List.set_cons_zero, List.set_cons_succ]
    go_wp2_with fail
    refine calls_world (fun W => Below w.heap.size w W ∧ Mds W ∧ HAt W g A1 ∧ HAt W b4 (A2.set 0 (bits .andNot .u8 y 128)) ∧ Bk9 W w.heap.size ∧ Pnt W bs r s od) ⟨below_put9 B gn, hD.put9 nhD, hA.put9 nhA, hC.put9 nhC, hR.put9b nhR, hN.put9 r s od⟩ ?_
    clear B hN gN qN hD hA hC hR nhD mhD nhA mhA nhC mhC nhR mhR  gn
    rintro W ⟨B, hD, hA, hC, hR, hS⟩
    clear w1
    clear hA hC
    with_reducible refine (CK.out _ hD).mono ?_
    rintro e w9 ⟨rfl, hb⟩
    replace B := B.trans (hb.mono B.size)
    replace hD := hD.keep hb; replace hR := hR.keep hb; replace hS := hS.keep hb
    clear hb W hD
    have gS := hS.cells
    have gR := hR.cells; have fR := hR.free
    go_wp2
    simp [bodyPost, results, Tryd.results4, go_sem, gR]
    repeat (first | with_reducible exact B | with_reducible refine Below.setCell ?_ o3 _)

theorem eunp_long {a : Option Addr} {n c : Nat} (hn : n ≠ 64) (w : World) :
    Calls Tryd.prog 4 #[.slice a n c] w fun e w' => e = .returned (.tuple #[.agg #[.int .u64 0, .int .u64 0, .int .u64 0, .int .u64 0, .int .u64 0, .int .u64 0, .int .u64 0, .int .u64 0, .bool false], .int .i64 66]) ∧ Below w.heap.size w w' := by
  have h : ¬ ((n : Int) = 64) := by omega
  go_enter Tryd.func4, Tryd.ntmps4
  go_wp2
  simp [bodyPost, results, Tryd.results4, go_sem]
  repeat (first | with_reducible exact Below.refl _ _ | with_reducible refine Below.drew ?_ | with_reducible refine Below.alloc ?_ (by first | omega | (simp; done) | (simp; omega)) _ | with_reducible refine Below.setCell ?_ (by first | omega | (simp; done)) _)
end Go.Proofs.YtmpggpkokniemaaDoor

/- Unpack and Pack of lists of one's own. -/
namespace Go.Proofs.YtmpggpkokniemaaDoor
open Go.RowKit Go.Sort

theorem whole_hatB {A : List Int} {b cap : Nat} {n : Int} (hA : Byts A) (hn : sufN A 32 = n) : Hid (∀ w, HAt w b A → Calls Tryd.prog 10 #[.slice (some ⟨b, 0, none⟩) 32 cap] w fun e w' => e = .returned (.agg #[.int .u64 (l0 n), .int .u64 (l1 n), .int .u64 (l2 n), .int .u64 (l3 n)]) ∧ Below w.heap.size w w') := fun w h => by
  have := ewhole_any (bb := b) (ob := 0) (cb := cap) hA (by rw [h.1]; exact Nat.le_refl _) w (fun i hi => h.2 i _ (by rw [List.getElem?_map, List.getElem?_eq_getElem hi]; simp [List.getD, hi]))
  rw [h.1, hn] at this
  exact this
/-- The Sig of 64 bytes, where Check takes it, and what Unpack says. -/
def sgV (X : List Int) : Value := if chkN (rN X) (sN X) = 0 then .agg #[.int .u64 (l0 (rN X)), .int .u64 (l1 (rN X)), .int .u64 (l2 (rN X)), .int .u64 (l3 (rN X)), .int .u64 (l0 (sN X)), .int .u64 (l1 (sN X)), .int .u64 (l2 (sN X)), .int .u64 (l3 (sN X)), .bool (oB X)] else .agg #[.int .u64 0, .int .u64 0, .int .u64 0, .int .u64 0, .int .u64 0, .int .u64 0, .int .u64 0, .int .u64 0, .bool false]
theorem hat_own {B g cap : Nat} {W : World} {X : List Int} (hl : X.length = 64) (h : OwnB B W (.slice (some ⟨g, 0, none⟩) 64 cap) X) : HAt W g (X.take 32) ∧ W.rangeAt g 32 ((X.drop 32).map (Value.int .u8)) ∧ 64 ≤ cap := by
  obtain ⟨a, g', c, h1, h2, _⟩ := h.lies
  have hb : ∀ i, i < 64 → W.cell? ⟨g, i, none⟩ = some (.int .u8 (X.getD i 0)) := fun i hi => h.cell hl hi
  refine ⟨⟨by rw [List.length_take]; omega, fun j u hu => ?_⟩, fun j u hu => ?_, ?_⟩
  · rw [List.getElem?_map] at hu
    have hj : j < (X.take 32).length := by
      rcases Nat.lt_or_ge j (X.take 32).length with k | k
      · exact k
      · rw [List.getElem?_eq_none k] at hu; cases hu
    rw [List.getElem?_eq_getElem hj] at hu
    rw [List.length_take] at hj
    rw [Nat.zero_add, hb j (by omega)]
    rw [← hu]
    simp [List.getD, show j < X.length by omega]
  · rw [List.getElem?_map] at hu
    have hj : j < (X.drop 32).length := by
      rcases Nat.lt_or_ge j (X.drop 32).length with k | k
      · exact k
      · rw [List.getElem?_eq_none k] at hu; cases hu
    rw [List.getElem?_eq_getElem hj] at hu
    rw [List.length_drop] at hj
    rw [hb (32 + j) (by omega), ← hu]
    simp [List.getD, show 32 + j < X.length by omega]
  · injection h1 with e1 e2 e3
    omega
theorem unpack_own {B : Nat} {v : Value} {X : List Int} (hX : Byts X) (hl : X.length = 64) (w : World) (hm : Mds w) (h : OwnB B w v X) :
    Calls Tryd.prog 4 #[v] w fun e w' => e = .returned (.tuple #[sgV X, .int .i64 (chkN (rN X) (sN X))]) ∧ Below w.heap.size w w' := by
  obtain ⟨a, g', c, rfl, hc, hz, _⟩ := h.lies
  obtain ⟨g, ea⟩ : ∃ g, a = some ⟨g, 0, none⟩ := ⟨g', hz.cons (by omega)⟩
  subst ea
  rw [hl] at h ⊢
  obtain ⟨h1, h2, h3⟩ := hat_own hl h
  obtain ⟨n1, n2, _⟩ := sig_num hX hl
  have q1 : (X.take 32).length = 32 := by rw [List.length_take]; omega
  have q2 : (X.drop 32).length = 32 := by rw [List.length_drop]; omega
  have b1 := byts_take hX 32
  have b2 := drop_bytsU hX 32
  have b3 := offL_byts b2 (by omega)
  have CK := echeck_any (o := oB X) n1 n2
  have W2 : Hid (∀ b w, HAt w b ((X.drop 32).set 0 (bits .andNot .u8 ((X.drop 32).getD 0 0) 128)) → Calls Tryd.prog 10 #[.slice (some ⟨b, 0, none⟩) 32 32] w fun e w' => e = .returned (.agg #[.int .u64 (l0 (sN X)), .int .u64 (l1 (sN X)), .int .u64 (l2 (sN X)), .int .u64 (l3 (sN X))]) ∧ Below w.heap.size w w') := fun b w h => (whole_hatB b3 rfl).out w h
  unfold sgV
  by_cases k : chkN (rN X) (sN X) = 0
  · rw [if_pos k]
    rw [k] at CK ⊢
    exact eunp_walk rfl h3 q2 rfl rfl (whole_hatB b1 rfl) W2 CK w hm h1 h2
  · rw [if_neg k]
    exact eunp_fail k rfl h3 q2 rfl rfl (whole_hatB b1 rfl) W2 CK w hm h1 h2
theorem pack_own {X : List Int} (hX : Byts X) (hl : X.length = 64) (hk : chkN (rN X) (sN X) = 0) (w : World) (hm : Mds w) :
    Calls Tryd.prog 6 #[.agg #[.int .u64 (l0 (rN X)), .int .u64 (l1 (rN X)), .int .u64 (l2 (rN X)), .int .u64 (l3 (rN X)), .int .u64 (l0 (sN X)), .int .u64 (l1 (sN X)), .int .u64 (l2 (sN X)), .int .u64 (l3 (sN X)), .bool (oB X)]] w fun e w' => ∃ v, e = .returned (.tuple #[v, .int .i64 0]) ∧ OwnB w.heap.size w' v X ∧ Below w.heap.size w w' := by
  obtain ⟨n1, n2, n3⟩ := sig_num hX hl
  have CK := echeck_any (o := oB X) n1 n2
  rw [hk] at CK
  have PE : Calls Tryd.prog 6 #[.agg #[.int .u64 (l0 (rN X)), .int .u64 (l1 (rN X)), .int .u64 (l2 (rN X)), .int .u64 (l3 (rN X)), .int .u64 (l0 (sN X)), .int .u64 (l1 (sN X)), .int .u64 (l2 (sN X)), .int .u64 (l3 (sN X)), .bool (oB X)]] w fun e w' => ∃ v, e = .returned (.tuple #[v, .int .i64 0]) ∧ World.ownsRow w' w.heap.size 5 1 v 64 ((putL (rN X) ++ markL (oB X) (putL (sN X))).map fun z => Value.int .u8 z) ∧ Below w.heap.size w w' := by
    cases o : oB X with
    | false => rw [o] at CK; exact epack_even (putL_len _) (putL_len _) rfl rfl (fun w => put_any w) (fun w => put_any w) CK w hm
    | true => rw [o] at CK; exact epack_odd (putL_len _) (putL_len _) rfl rfl (fun w => put_any w) (fun w => put_any w) CK w hm
  refine PE.mono ?_
  rintro e w' ⟨v, rfl, ho, hb⟩
  rw [n3] at ho
  refine ⟨v, rfl, ?_, hb⟩
  rw [OwnB, hl]
  exact ho
theorem chk_vals (r s : Int) : chkN r s = 0 ∨ chkN r s = 61 ∨ chkN r s = 62 ∨ chkN r s = 63 := by
  unfold chkN
  repeat' split
  all_goals simp
end Go.Proofs.YtmpggpkokniemaaDoor

namespace Go.Proofs.YtmpggpkokniemaaDoor
open Go.RowKit Go.Sort

theorem eq_zsig : ∀ w, (Op.equalIn 10000 27 (.agg #[.int .u64 0, .int .u64 0, .int .u64 0, .int .u64 0, .int .u64 0, .int .u64 0, .int .u64 0, .int .u64 0, .bool false]) (.agg #[.int .u64 0, .int .u64 0, .int .u64 0, .int .u64 0, .int .u64 0, .int .u64 0, .int .u64 0, .int .u64 0, .bool false])).run Tryd.prog w = .ok true w := fun w => by
  have h := eq_sig_any (x := 0) (y := 0) (x' := 0) (y' := 0) (i := false) (j := false) ⟨by decide, by decide⟩ ⟨by decide, by decide⟩ ⟨by decide, by decide⟩ ⟨by decide, by decide⟩ w
  obtain ⟨z0, z1, z2, z3⟩ := zero_limbs
  rw [z0, z1, z2, z3] at h
  exact h
set_option maxRecDepth 100000 in
set_option maxHeartbeats 4000000 in
theorem eby_len {a : Option Addr} {bb ob c : Nat} {X : List Int} (hm2 : X.length ≤ 140737488351232) (hn : X.length ≠ 64) (hZ : Az a bb ob X) (w : World) (hz : Bz w bb ob X) :
    Calls Tryd.prog 3 #[.slice a X.length c] w fun e w' => e = .returned (.bool true) ∧ Below w.heap.size w w' := by
  obtain ⟨m, em⟩ : ∃ m, m = X.length := ⟨_, rfl⟩
  have HC := ecopied_any (cd := c) (by omega) hZ w hz
  rw [← em] at hn hm2 HC ⊢
  have EM : Hid (X.length = m) := em.symm
  clear em hZ hz
  have h : ¬ ((m : Int) = 64) := by omega
  have E0 : ∀ w, (Op.equalIn 10000 27 (.agg #[.int .u64 0, .int .u64 0, .int .u64 0, .int .u64 0, .int .u64 0, .int .u64 0, .int .u64 0, .int .u64 0, .bool false]) (.agg #[.int .u64 0, .int .u64 0, .int .u64 0, .int .u64 0, .int .u64 0, .int .u64 0, .int .u64 0, .int .u64 0, .bool false])).run Tryd.prog w = .ok true w := eq_zsig
  go_enter Tryd.func3, Tryd.ntmps3
  go_wp2_with fail
  with_reducible refine HC.mono ?_
  rintro e w1 ⟨v, rfl, o1, B⟩
  obtain ⟨a1, g1, c1, rfl, _⟩ := o1.lies
  clear o1 HC
  rw [EM.out]
  go_wp2_with fail
  with_reducible refine (eunp_long hn w1).mono ?_
  rintro e w2 ⟨rfl, B2⟩
  replace B := B.trans (B2.mono B.size)
  clear B2
  have B' : Hid (∀ o, Below w.heap.size w (w2.alloc o)) := fun o => B.alloc B.size o
  clear B
  go_wp2
  simp [bodyPost, results, Tryd.results3, go_sem]
  exact B'.out _
end Go.Proofs.YtmpggpkokniemaaDoor

namespace Go.Proofs.YtmpggpkokniemaaDoor
open Go.RowKit Go.Sort

set_option maxRecDepth 100000 in
set_option maxHeartbeats 16000000 in
theorem eby_bad {bb ob c : Nat} {X : List Int} (hX : Byts X) (hl : X.length = 64) (hk : chkN (rN X) (sN X) ≠ 0) (lc : 64 ≤ c) (w : World) (hm : Mds w) (hz : Bz w bb ob X) :
    Calls Tryd.prog 3 #[.slice (some ⟨bb, ob, none⟩) 64 c] w fun e w' => e = .returned (.bool true) ∧ Below w.heap.size w w' := by
  obtain ⟨v, ev⟩ : ∃ v, v = chkN (rN X) (sN X) := ⟨_, rfl⟩
  have HV : Hid (v = 61 ∨ v = 62 ∨ v = 63) := by
    rcases chk_vals (rN X) (sN X) with h | h | h | h
    · exact absurd h hk
    · exact .inl (ev.trans h)
    · exact .inr (.inl (ev.trans h))
    · exact .inr (.inr (ev.trans h))
  have UO : Hid (∀ W B' v1, Below w.heap.size w W → OwnB B' W v1 X → Calls Tryd.prog 4 #[v1] W fun e w' => e = .returned (.tuple #[.agg #[.int .u64 0, .int .u64 0, .int .u64 0, .int .u64 0, .int .u64 0, .int .u64 0, .int .u64 0, .int .u64 0, .bool false], .int .i64 v]) ∧ Below W.heap.size W w') := fun W B' v1 B ho => by
    have h := unpack_own hX hl W (hm.keep B) ho
    rw [sgV, if_neg hk, ← ev] at h
    exact h
  clear hk ev
  have HC : Hid (∀ W, Below w.heap.size w W → Calls Tryd.prog 5 #[.slice (some ⟨bb, ob, none⟩) 64 c] W fun e w' => ∃ v, e = .returned v ∧ OwnB W.heap.size w' v X ∧ Below W.heap.size W w') := fun W B => by
    have h := ecopied_any (cd := c) (by omega) (.inr rfl) W (hz.keep B)
    rw [hl] at h
    exact h
  have LX : Hid (X.length = 64) := hl
  obtain ⟨i0, hi, hz0, hz1, hz2⟩ := info_parts info_byte
  have E0 : ∀ w, (Op.equalIn 10000 27 (.agg #[.int .u64 0, .int .u64 0, .int .u64 0, .int .u64 0, .int .u64 0, .int .u64 0, .int .u64 0, .int .u64 0, .bool false]) (.agg #[.int .u64 0, .int .u64 0, .int .u64 0, .int .u64 0, .int .u64 0, .int .u64 0, .int .u64 0, .int .u64 0, .bool false])).run Tryd.prog w = .ok true w := eq_zsig
  have lc2 : (63 : Int) ≤ (c : Int) := by omega
  have lc3 : (64 : Int) ≤ (c : Int) := by omega
  clear hX hl hm hz lc
  go_enter Tryd.func3, Tryd.ntmps3
  have BB : Below w.heap.size w w := Below.refl _ _
  have hc := HC.out w BB
  go_wp2_with fail
  with_reducible refine hc.mono ?_
  rintro e w1 ⟨v1, rfl, o1, BN⟩
  clear hc
  replace BB := BB.trans (BN.mono BB.size)
  clear BN
  have hc := UO.out w1 _ v1 BB o1
  go_wp2_with fail
  with_reducible refine hc.mono ?_
  rintro e w2 ⟨rfl, BN⟩
  clear hc o1
  replace BB := BB.trans (BN.mono BB.size)
  clear BN
  go_wp2_with fail
  refine calls_world (fun W => Below w.heap.size w W ∧ Bk9 W w2.heap.size ∧ w.heap.size ≤ w2.heap.size) ⟨BB.alloc BB.size _, Bk9.new rfl, BB.size⟩ ?_
  clear BB
  rintro W3 ⟨BB, hS, gs⟩
  generalize w2.heap.size = bs at *
  clear w2
  with_reducible refine (eunp_long (by decide) W3).mono ?_
  rintro e w3 ⟨rfl, BN⟩
  replace BB := BB.trans (BN.mono BB.size)
  replace hS := hS.keep BN
  clear BN W3
  go_wp2_with fail
  refine calls_world (fun W => Below w.heap.size w W ∧ Bk9 W bs ∧ Bk9 W w3.heap.size) ⟨BB.alloc BB.size _, hS.alloc _, Bk9.new rfl⟩ ?_
  clear BB hS
  rintro W4 ⟨BB, hS, h5⟩
  generalize w3.heap.size = b5 at *
  clear w3
  with_reducible refine (HC.out W4 BB).mono ?_
  rintro e w4 ⟨v4, rfl, o4, BN⟩
  have HF : Hid (OwnB W4.heap.size w4 v4 X ∧ Below W4.heap.size W4 w4) := ⟨o4, BN⟩
  have HS : Hid (Below w.heap.size w W4 ∧ Bk9 W4 bs ∧ Bk9 W4 b5) := ⟨BB, hS, h5⟩
  clear o4 BN BB hS h5
  go_wp2_with (at_builtin; (refine wpList_append_own_at _ rfl _ _ 22 rfl W4.heap.size 5 i0 (.int .u8 0) 1 1 Tryd.underlying22 hi hz0 hz1 hz2 rfl (by decide) v4 _ _ rfl (HF.out.1.alloc _).row ⟨w4.heap.size, 0, none⟩ 1 1 [.int .u8 0] rfl rfl (cell_one_new _ _ _) (fun u hu => by simp at hu; subst hu; rfl) (by unfold maxLen; have := LX.out; omega) (by have := LX.out; omega) (by have := HF.out.2.size; simp; omega) ?_); intro v' w5 hown' hgrow5 hnil5 hblk)
  have B5 : Below W4.heap.size W4 w5 := (HF.out.2.alloc HF.out.2.size _).grown hgrow5 (by have := HF.out.2.size; simp; omega) (fun k hk => (HF.out.1.row.lt k hk).1)
  obtain ⟨g5, c5, rfl, hx5⟩ := World.ownsRow.form hown' (by omega)
  clear hx5 hown' hgrow5 hnil5 hblk HF
  obtain ⟨BB, hS, h5⟩ := HS.out
  replace BB := BB.trans (B5.mono BB.size)
  replace hS := hS.keep B5
  replace h5 := h5.keep B5
  clear HS B5 W4
  with_reducible refine (eunp_long (by have := LX.out; omega) w5).mono ?_
  rintro e w6 ⟨rfl, BN⟩
  replace BB := BB.trans (BN.mono BB.size)
  replace hS := hS.keep BN
  replace h5 := h5.keep BN
  clear BN w5
  have g5' := fun o => (h5.alloc o).cells
  have gS := fun o => (hS.alloc o).cells
  have B' : Hid (∀ o, Below w.heap.size w (w6.alloc o)) := fun o => BB.alloc BB.size o
  clear BB hS h5
  rcases HV.out with rfl | rfl | rfl
  · go_wp2
    simp [bodyPost, results, Tryd.results3, go_sem]
    exact B'.out _
  · go_wp2
    simp [bodyPost, results, Tryd.results3, go_sem]
    exact B'.out _
  · go_wp2
    simp [bodyPost, results, Tryd.results3, go_sem]
    exact B'.out _
end Go.Proofs.YtmpggpkokniemaaDoor
