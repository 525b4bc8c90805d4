import Derived.Test.YtncpjgpioajbeaaGreatDoorNzD
import Derived.Test.YtncpjgpioajbeaaGreatDoorNzE
/- Nonce of the program. -/
namespace Go.Proofs.YtncpjgpioajbeaaGreatDoor
open Go.RowKit Go.Sort

theorem yieldsZ {P : Program} {a : Act} {op : Oper} (ty : TypeId) (x : Operand) (ho : op.op = .load ty x) (b o : Nat) (hx : a.eval x = .pointer (some ⟨b, o, none⟩)) (cs : List Value) (d : TypeDesc) {w : World} (hc : w.rangeAt b o cs)
    (hu : P.underlying ty = some d) (hd : d.isRow = true) (hi : (P.info? ty).map (·.size) = some cs.length) : (execOp a.eval op).run P w = .ok (.value (.agg cs.toArray)) w := by
  unfold execOp
  simp only [ho, hx, Instr.loadAt, Instr.sureAddr, Sem.run_bind, Sem.run_pure, Result.andThen_ok, run_loadVar_mid w b o ty cs d hc hu hd hi]
theorem putL_bytsZ (n : Int) : Byts (putL n) := fun i => by
  by_cases h : i < 32
  · rw [putL_getD n h]; exact ⟨Int.emod_nonneg _ (by decide), Int.emod_lt_of_pos _ (by decide)⟩
  · have : (putL n).getD i 0 = 0 := by simp [List.getD, List.getElem?_eq_none (show (putL n).length ≤ i by rw [putL_len]; omega)]
    rw [this]; decide
/-- The bytes of a number. -/
def pbZ (n : Int) : List (BitVec 8) := bvZ (putL n)
theorem pbZ_len (n : Int) : (pbZ n).length = 32 := by rw [pbZ, bvZ_len, putL_len]
theorem putZ_any {n : Int} (w : World) : Calls Tryz.prog 38 #[.agg #[.int .u64 (l0 n), .int .u64 (l1 n), .int .u64 (l2 n), .int .u64 (l3 n)]] w fun e w' => e = .returned (.agg (S.byts (pbZ n)).toArray) ∧ Below w.heap.size w w' := by
  rw [pbZ, byts_bvZ (putL_bytsZ n)]
  exact put_any w
/-- The state that a key and a digest's number make. -/
def stZ (key d : Int) : KvZ := begZ (pbZ key) (pbZ d)
/-- What the two closures' makers answer. -/
theorem candZ_any {x y : Int} (w : World) (ht : ShT w) :
    Calls Tryz.prog 19 #[.agg #[.int .u64 (l0 x), .int .u64 (l1 x), .int .u64 (l2 x), .int .u64 (l3 x)], .agg #[.int .u64 (l0 y), .int .u64 (l1 y), .int .u64 (l2 y), .int .u64 (l3 y)]] w fun e w' => ∃ bf bs bk bv, e = .returned (.func (.func 41) #[] #[.pointer (some ⟨bf, 0, none⟩), .pointer (some ⟨bs, 0, none⟩), .pointer (some ⟨bk, 0, none⟩), .pointer (some ⟨bv, 0, none⟩)]) ∧ NxZ w' bf bs bk bv true (stZ x y) ∧ ApZ bf bs bk bv ∧ (w.heap.size ≤ bf ∧ w.heap.size ≤ bk ∧ w.heap.size ≤ bv) ∧ Below w.heap.size w w' :=
  cand_any (pbZ_len x) (pbZ_len y) rfl rfl (fun w => putZ_any w) (fun w => putZ_any w) w ht
theorem rangeZ {W W' : World} {b : Nat} {cs : List Value} (h : W.rangeAt b 0 cs) (B : Below W.heap.size W W') : W'.rangeAt b 0 cs := fun j v hv => cell_keep B (h j v hv)

set_option maxRecDepth 100000 in
set_option maxHeartbeats 8000000 in
theorem nonce_arg {key wh : Int} {A : List Int} (hl : A.length = 32) (hb : wh < 0 ∨ 64 ≤ wh) (w : World) :
    Calls Tryz.prog 7 #[.agg #[.int .u64 (l0 key), .int .u64 (l1 key), .int .u64 (l2 key), .int .u64 (l3 key)], hashV A, .int .i64 wh] w fun e w' => e = .returned (.tuple #[.agg #[.int .u64 (l0 0), .int .u64 (l1 0), .int .u64 (l2 0), .int .u64 (l3 0)], .int .i64 1]) ∧ Below w.heap.size w w' := by
  have HL : Hid (A.length = 32) := hl
  clear hl
  unfold hashV
  have z0 : l0 0 = 0 ∧ l1 0 = 0 ∧ l2 0 = 0 ∧ l3 0 = 0 := by decide
  rcases hb with hb | hb
  all_goals
    go_enter Tryz.func7, Tryz.ntmps7
    go_wp2
    simp [bodyPost, results, Tryz.results7, go_sem, z0]
    repeat (first | with_reducible exact Below.refl _ _ | with_reducible refine Below.setCell ?_ (by first | omega | (simp; omega)) _ | with_reducible refine Below.alloc ?_ (by first | omega | (simp; done) | (simp; omega)) _)

/-- What holds in Nonce behind its boxes. -/
structure NcZ (w W : World) (key : Int) (A : List Int) : Prop where
  below : Below w.heap.size w W
  mds : Mds W
  tab : ShT W
  key : Hold W w.heap.size key
  dig : W.rangeAt (w.heap.size + 1) 0 (A.map fun z => Value.int .u8 z)
  res : Blank W (w.heap.size + 1 + 1)
theorem NcZ.keep {w W W' : World} {key : Int} {A : List Int} (h : NcZ w W key A) (B : Below W.heap.size W W') : NcZ w W' key A := ⟨h.below.trans (B.mono h.below.size), h.mds.keep B, h.tab.keep B, h.key.keep B, rangeZ h.dig B, h.res.keep B⟩
theorem NcZ.bt {w W W' : World} {key : Int} {A : List Int} {P : Nat → Prop} (h : NcZ w W key A) (b : BtZ P W W') (hP : ∀ k, P k → w.heap.size + 1 + 1 < k) (hT : (2 < w.heap.size ∧ 3 < w.heap.size) ∧ 1 < w.heap.size) : NcZ w W' key A := by
  have np : ∀ x, x ≤ w.heap.size + 1 + 1 → ¬ P x := fun x hx p => by have := hP x p; omega
  refine ⟨h.below.trans (b.below h.below.size fun k p => by have := hP k p; omega), b.mds (np _ (by omega)) h.mds, b.sht ⟨np _ (by omega), np _ (by omega)⟩ h.tab, ?_, fun j v hv => b.cell (p := ⟨w.heap.size + 1, 0 + j, none⟩) (np _ (by show w.heap.size + 1 ≤ _; omega)) (h.dig j v hv), b.blank (np _ (Nat.le_refl _)) h.res⟩
  exact ⟨b.cell (p := ⟨w.heap.size, 0, none⟩) (np _ (by show w.heap.size ≤ _; omega)) h.key.1, b.cell (p := ⟨w.heap.size, 1, none⟩) (np _ (by show w.heap.size ≤ _; omega)) h.key.2.1, b.cell (p := ⟨w.heap.size, 2, none⟩) (np _ (by show w.heap.size ≤ _; omega)) h.key.2.2.1, b.cell (p := ⟨w.heap.size, 3, none⟩) (np _ (by show w.heap.size ≤ _; omega)) h.key.2.2.2⟩
theorem hold_off {W W' : World} {b g : Nat} {n : Int} (h : Hold W b n) (o : S.Off g W W') (ne : b ≠ g) : Hold W' b n := ⟨o.cell (p := ⟨b, 0, none⟩) ne h.1, o.cell (p := ⟨b, 1, none⟩) ne h.2.1, o.cell (p := ⟨b, 2, none⟩) ne h.2.2.1, o.cell (p := ⟨b, 3, none⟩) ne h.2.2.2⟩
theorem range_off {W W' : World} {b g : Nat} {cs : List Value} (h : W.rangeAt b 0 cs) (o : S.Off g W W') (ne : b ≠ g) : W'.rangeAt b 0 cs := fun j v hv => o.cell (p := ⟨b, 0 + j, none⟩) ne (h j v hv)
theorem Blank.put {W : World} {b : Nat} (h : Blank W b) (n : Int) : Hold ((((W.setCell ⟨b, 0, none⟩ (.int .u64 (l0 n))).setCell ⟨b, 1, none⟩ (.int .u64 (l1 n))).setCell ⟨b, 2, none⟩ (.int .u64 (l2 n))).setCell ⟨b, 3, none⟩ (.int .u64 (l3 n))) b n := by
  have g := h.1.all4
  unfold Hold
  simp [go_sem, g]
theorem range_newZ {W : World} {cs : List Value} {t : TypeId} : (W.alloc (.cells cs.toArray t)).rangeAt W.heap.size 0 cs := fun j v hv => by
  rw [Nat.zero_add, World.cell?_alloc_mark]
  simpa using hv
theorem ncZ_new {w : World} {key : Int} {A : List Int} {t1 t2 t3 : TypeId} (hm : Mds w) (ht : ShT w) : NcZ w (((w.alloc (.cells #[.int .u64 (l0 key), .int .u64 (l1 key), .int .u64 (l2 key), .int .u64 (l3 key)] t1)).alloc (.cells (A.map fun z => Value.int .u8 z).toArray t2)).alloc (.cells #[.int .u64 0, .int .u64 0, .int .u64 0, .int .u64 0] t3)) key A := by
  have BA : ∀ (V : World) o, Below V.heap.size V (V.alloc o) := fun V o => (Below.refl _ _).alloc (Nat.le_refl _) o
  refine ⟨?_, ((hm.alloc _).alloc _).alloc _, ((ht.keep (BA _ _)).keep (BA _ _)).keep (BA _ _), ((Hold.new _ _ _).keep (BA _ _)).keep (BA _ _), ?_, Blank.new (by simp)⟩
  · exact (((Below.refl _ _).alloc (Nat.le_refl _) _).alloc (by simp) _).alloc (by simp; omega) _
  · have := range_newZ (W := w.alloc (.cells #[.int .u64 (l0 key), .int .u64 (l1 key), .int .u64 (l2 key), .int .u64 (l3 key)] t1)) (cs := A.map fun z => Value.int .u8 z) (t := t2)
    rw [show (w.alloc (.cells #[.int .u64 (l0 key), .int .u64 (l1 key), .int .u64 (l2 key), .int .u64 (l3 key)] t1)).heap.size = w.heap.size + 1 by simp] at this
    exact rangeZ this (BA _ _)

set_option maxRecDepth 100000 in
set_option maxHeartbeats 8000000 in
theorem nonce_key {key : Int} {wh : Nat} {A : List Int} (hl : A.length = 32) (hw : wh < 64) (IN : Hid (∀ w, Mds w → Calls Tryz.prog 13 #[.agg #[.int .u64 (l0 key), .int .u64 (l1 key), .int .u64 (l2 key), .int .u64 (l3 key)]] w fun e w' => e = .returned (.bool false) ∧ Below w.heap.size w w')) (w : World) (hm : Mds w) (ht : ShT w) :
    Calls Tryz.prog 7 #[.agg #[.int .u64 (l0 key), .int .u64 (l1 key), .int .u64 (l2 key), .int .u64 (l3 key)], hashV A, .int .i64 (wh : Int)] w fun e w' => e = .returned (.tuple #[.agg #[.int .u64 (l0 0), .int .u64 (l1 0), .int .u64 (l2 0), .int .u64 (l3 0)], .int .i64 60]) ∧ Below w.heap.size w w' := by
  have HL : Hid (A.length = 32) := hl
  clear hl
  unfold hashV
  have z0 : l0 0 = 0 ∧ l1 0 = 0 ∧ l2 0 = 0 ∧ l3 0 = 0 := by decide
  have w1 : (wh : Int) < 64 := by omega
  go_enter Tryz.func7, Tryz.ntmps7
  go_wp2_with fail
  refine calls_world (fun W => NcZ w W key A) (ncZ_new hm ht) ?_
  clear hm ht
  rintro W HW
  with_reducible refine (IN.out _ HW.mds).mono ?_
  rintro e w2 ⟨rfl, hb⟩
  have H2 := HW.keep hb
  clear hb HW
  have gR0 := H2.res.1.all4
  have fR0 := H2.res.2.all4
  have B9 := H2.below
  clear H2
  go_wp2
  simp [bodyPost, results, Tryz.results7, go_sem, gR0, z0]
  repeat (first | with_reducible exact B9 | with_reducible refine Below.setCell ?_ (by first | omega | (simp; omega)) _)

set_option maxRecDepth 100000 in
set_option maxHeartbeats 8000000 in
theorem nonce_ok {key d v f : Int} {wh : Nat} {A : List Int} {M : List Value} (hl : A.length = 32) (hw : wh < 64) (eM : M = A.map fun z => Value.int .u8 z) (IN : Hid (∀ w, Mds w → Calls Tryz.prog 13 #[.agg #[.int .u64 (l0 key), .int .u64 (l1 key), .int .u64 (l2 key), .int .u64 (l3 key)]] w fun e w' => e = .returned (.bool true) ∧ Below w.heap.size w w'))
    (ND : Hid (∀ w, Mds w → Calls Tryz.prog 20 #[.agg M.toArray] w fun e w' => e = .returned (.agg #[.int .u64 (l0 d), .int .u64 (l1 d), .int .u64 (l2 d), .int .u64 (l3 d)]) ∧ Below w.heap.size w w'))
    (hv : nzV (cndZ (stZ key d)) wh = v) (hf : nzE (cndZ (stZ key d)) wh = f) (w : World) (hm : Mds w) (ht : ShT w) :
    Calls Tryz.prog 7 #[.agg #[.int .u64 (l0 key), .int .u64 (l1 key), .int .u64 (l2 key), .int .u64 (l3 key)], .agg M.toArray, .int .i64 (wh : Int)] w fun e w' => e = .returned (.tuple #[.agg #[.int .u64 (l0 v), .int .u64 (l1 v), .int .u64 (l2 v), .int .u64 (l3 v)], .int .i64 f]) ∧ Below w.heap.size w w' := by
  have HL : Hid (M.length = 32) := by rw [eM, List.length_map]; exact hl
  have HV : Hid (nzV (cndZ (stZ key d)) wh = v ∧ nzE (cndZ (stZ key d)) wh = f ∧ wh < 64) := ⟨hv, hf, hw⟩
  have TL : Hid ((2 < w.heap.size ∧ 3 < w.heap.size) ∧ 1 < w.heap.size) := ⟨ht.lt, hm.lt⟩
  have w1 : (wh : Int) < 64 := by omega
  have NC : ∀ t1 t2 t3, NcZ w (((w.alloc (.cells #[.int .u64 (l0 key), .int .u64 (l1 key), .int .u64 (l2 key), .int .u64 (l3 key)] t1)).alloc (.cells M.toArray t2)).alloc (.cells #[.int .u64 0, .int .u64 0, .int .u64 0, .int .u64 0] t3)) key A := fun t1 t2 t3 => by rw [eM]; exact ncZ_new hm ht
  have EM : Hid (M = A.map fun z => Value.int .u8 z) := eM
  clear hl hv hf hm ht hw eM
  go_enter Tryz.func7, Tryz.ntmps7
  go_wp2_with fail
  refine calls_world (fun W => NcZ w W key A) (NC _ _ _) ?_
  clear NC
  rintro W HW
  with_reducible refine (IN.out _ HW.mds).mono ?_
  rintro e w2 ⟨rfl, hb⟩
  have H2 := HW.keep hb
  clear hb HW IN
  clear W
  go_wp2_with fail
  have il : (Tryz.prog.info? 26).map (·.size) = some M.length := by rw [HL.out]; kernel_rfl
  have DG : Hid (∀ {V : World}, NcZ w V key A → V.rangeAt (w.heap.size + 1) 0 M) := fun {V} h => by rw [EM.out]; exact h.dig
  refine wp_region_held_drew (S := fun V => Hold V w.heap.size key ∧ V.rangeAt (w.heap.size + 1) 0 M) (by kernel_rfl) (by have H3 : NcZ w w2.drew key A := H2.keep (Below.refl _ _).drew; exact ⟨H3.key, DG.out H3⟩) (fun hHeld => ?_)
  refine takeZ (i := 0) (oi := _) (v := .agg #[.int .u64 (l0 key), .int .u64 (l1 key), .int .u64 (l2 key), .int .u64 (l3 key)]) 19 rfl (by kernel_rfl) (by kernel_rfl) (by kernel_rfl) (by kernel_rfl) (fun _ _ _ h => h) (Or.inl ⟨by kernel_rfl, ?_⟩) (by assumption) ?_
  · intro wq hSw
    have gk := hSw.1.cells
    go_simp
  simp only [Act.put, List.setIfInBounds_toArray, List.set_cons_succ, List.set_cons_zero]
  refine takeZ (i := 1) (oi := _) (v := .agg M.toArray) 20 rfl (by kernel_rfl) (by kernel_rfl) (by kernel_rfl) (by kernel_rfl) (fun _ _ _ h => h) (Or.inl ⟨by kernel_rfl, ?_⟩) (by assumption) ?_
  · intro wq hSw
    exact yieldsZ 26 _ rfl (w.heap.size + 1) 0 rfl M _ hSw.2 Tryz.underlying26 rfl il
  simp only [Act.put, List.setIfInBounds_toArray, List.set_cons_succ, List.set_cons_zero]
  refine takeZ (i := 4) (oi := _) (v := .int .i64 (wh : Int)) 23 rfl (by kernel_rfl) (by kernel_rfl) (by kernel_rfl) (by kernel_rfl) (fun _ _ _ h => h) (Or.inl ⟨by kernel_rfl, ?_⟩) (by assumption) ?_
  · intro wq hSw
    have _ := hSw
    go_simp
  simp only [Act.put, List.setIfInBounds_toArray, List.set_cons_succ, List.set_cons_zero]
  refine wpAnyH_ready (rs := [2]) (by kernel_rfl) (by simp) ?_
  refine AllReadyH.cons rfl (fun K hK => ?_) AllReadyH.nil
  go_simp
  have H3 : NcZ w w2.drew key A := H2.keep (Below.refl _ _).drew
  with_reducible refine (ND.out _ H3.mds).mono ?_
  rintro e y1 ⟨rfl, hb⟩
  have H4 := H3.keep hb
  refine hK.out _ _ ⟨H4.key, DG.out H4⟩ (fun hHeld => ?_)
  clear hK K hb H3 H2
  refine wpAnyH_ready (rs := [3]) (by kernel_rfl) (by simp) ?_
  refine AllReadyH.cons rfl (fun K hK => ?_) AllReadyH.nil
  go_simp
  refine (candZ_any y1 H4.tab).mono ?_
  rintro e y2 ⟨bf, bs, bk, bv, rfl, hnx, hap, hge, hb⟩
  have H5 := H4.keep hb
  have LW : Hid (w.heap.size + 1 + 1 < y1.heap.size) := H4.res.1.lt (by simp)
  refine hK.out _ _ ⟨H5.key, DG.out H5⟩ (fun hHeld => ?_)
  clear hK K hb
  refine wpAnyH_ready (rs := [5]) (by kernel_rfl) (by simp) ?_
  refine AllReadyH.cons rfl (fun K hK => ?_) AllReadyH.nil
  go_simp
  have hmp : MpZ bf bk bv := PsZ_not (by have := TL.out; have := LW.out; omega) (by have := TL.out; have := LW.out; omega) (by have := TL.out; have := LW.out; omega)
  refine (chosen_any (s := stZ key d) (begZ_ok _ _) HV.out.2.2 y2 hnx hap hmp H5.tab H5.mds).mono ?_
  rw [HV.out.1, HV.out.2.1]
  rintro e y3 ⟨rfl, hbt⟩
  have H6 := H5.bt hbt (fun k h => by rcases h with rfl | rfl | rfl <;> (have := LW.out; omega)) TL.out
  refine hK.out _ _ ⟨H6.key, DG.out H6⟩ (fun hHeld => ?_)
  clear hK K hbt H5 H4 hmp hnx hap hge
  refine takeZ (i := 6) (oi := _) (v := .agg #[.int .u64 (l0 v), .int .u64 (l1 v), .int .u64 (l2 v), .int .u64 (l3 v)]) 25 rfl (by kernel_rfl) (by kernel_rfl) (by kernel_rfl) (by kernel_rfl) (fun _ _ _ h => h) (Or.inl ⟨by kernel_rfl, ?_⟩) (by assumption) ?_
  · intro wq hSw
    have _ := hSw
    go_simp
  simp only [Act.put, List.setIfInBounds_toArray, List.set_cons_succ, List.set_cons_zero]
  refine takeZ (i := 7) (oi := _) (v := .int .i64 f) 26 rfl (by kernel_rfl) (by kernel_rfl) (by kernel_rfl) (by kernel_rfl) (fun _ _ _ h => h) (Or.inl ⟨by kernel_rfl, ?_⟩) (by assumption) ?_
  · intro wq hSw
    have _ := hSw
    go_simp
  simp only [Act.put, List.setIfInBounds_toArray, List.set_cons_succ, List.set_cons_zero]
  have gR0 := H6.res.1.all4
  have fR0 := H6.res.2.all4
  refine wpAnyH_ready (rs := [8]) (by kernel_rfl) (by simp) ?_
  refine AllReadyH.cons rfl (fun K hK => ?_) AllReadyH.nil
  go_simp
  go_wp2_with fail
  have SR := H6.res.put v
  have o4 := fun v0 v1 v2 v3 => ((((S.Off.refl (w.heap.size + 1 + 1) y3).setCell (i := 0) v0).setCell (i := 1) v1).setCell (i := 2) v2).setCell (i := 3) v3
  have b4 := fun v0 v1 v2 v3 => (o4 v0 v1 v2 v3).below (B := w.heap.size) H6.below.size (by omega)
  have k4 := fun v0 v1 v2 v3 => hold_off H6.key (o4 v0 v1 v2 v3) (by omega)
  have r4 := fun v0 v1 v2 v3 => range_off (DG.out H6) (o4 v0 v1 v2 v3) (by omega)
  refine worldZ (fun V => (Hold V w.heap.size key ∧ V.rangeAt (w.heap.size + 1) 0 M) ∧ Hold V (w.heap.size + 1 + 1) v ∧ Below w.heap.size w V) ⟨⟨k4 _ _ _ _, r4 _ _ _ _⟩, SR, H6.below.trans (b4 _ _ _ _)⟩ ?_
  clear SR o4 b4 k4 r4 gR0 fR0
  rintro V ⟨HS, hR, BV⟩
  refine hK.out _ _ HS (fun hHeld => ?_)
  clear hK K
  refine wpAnyH_ready (rs := [9]) (by kernel_rfl) (by simp) ?_
  refine AllReadyH.cons rfl (fun K hK => ?_) AllReadyH.nil
  go_simp
  refine hK.out _ _ HS (fun hHeld => ?_)
  clear hK K
  refine wpAnyH_done (by kernel_rfl) ?_ _
  have gR := hR.cells
  go_wp2
  simp [bodyPost, results, Tryz.results7, go_sem, gR]
  exact BV
end Go.Proofs.YtncpjgpioajbeaaGreatDoor
