import Derived.Test.YtkbdpkgfnbfgmaaDoorAdC2
import Derived.Test.YtkbdpkgfnbfgmaaDoorRzL
import Derived.Test.YtkbdpkgfnbfgmaaDoorAdLast
/- Layer 9: AddressCreates. -/
namespace Go.Proofs.YtkbdpkgfnbfgmaaDoor
open Go.RowKit Go.Sort
theorem xor255C {x : Int} (h0 : 0 ≤ x) (h1 : x < 256) : bits .xor .u8 x 255 = 255 - x := by
  have h : ∀ n : Fin 256, bits .xor .u8 (n.val : Int) 255 = 255 - (n.val : Int) := by decide +kernel
  obtain ⟨n, rfl⟩ := Int.eq_ofNat_of_zero_le h0
  exact h ⟨n, by omega⟩
theorem yields_mid {P : Program} {a : Act} {op : Oper} (ty : TypeId) (x : Operand) (ho : op.op = .load ty x) (b o : Nat) (hx : a.eval x = .pointer (some ⟨b, o, none⟩)) (cs : List Value) (d : TypeDesc) {w : World} (hc : w.rangeAt b o cs)
    (hu : P.underlying ty = some d) (hd : d.isRow = true) (hi : (P.info? ty).map (·.size) = some cs.length) : (execOp a.eval op).run P w = .ok (.value (.agg cs.toArray)) w := by
  unfold execOp
  simp only [ho, hx, Instr.loadAt, Instr.sureAddr, Sem.run_bind, Sem.run_pure, Result.andThen_ok, run_loadVar_mid w b o ty cs d hc hu hd hi]
/-- What holds all along: the world below, the boxes, what was lent. -/
structure Sc (w W : World) (A S : List Int) (g : Nat) (L : List Int) : Prop where
  B : Below w.heap.size w W
  a : Bts W w.heap.size A
  s : Bts W (w.heap.size + 1) S
  l : Bts W g L
  g2 : w.heap.size + 2 ≤ g
  nl : 0 < L.length
  la : A.length = 20
  ls : S.length = 32
theorem Sc.keep {w W W' : World} {A S L : List Int} {g : Nat} (h : Sc w W A S g L) (hb : Below W.heap.size W W') : Sc w W' A S g L :=
  ⟨h.B.trans (hb.mono h.B.size), h.a.keep (by rw [h.la]; decide) hb, h.s.keep (by rw [h.ls]; decide) hb, h.l.keep h.nl hb, h.g2, h.nl, h.la, h.ls⟩
theorem Sc.pt {w W : World} {A S Y Z : List Int} {g cap : Nat} (h : Sc w W A S g (Y ++ Z)) (hy : Bys Y) (hc : Y.length ≤ cap) : PtC.ok W ⟨some ⟨g, 0, none⟩, g, 0, cap, Y⟩ :=
  ⟨.inr rfl, hc, hy, Bz.front (Z := Z) fun i hi => by rw [Nat.zero_add]; exact h.l.1 i hi⟩
theorem Bys.setC {X : List Int} (h : Bys X) (i : Nat) {v : Int} (h0 : 0 ≤ v) (h1 : v < 256) : Bys (X.set i v) := fun x hx => by
  rcases List.mem_or_eq_of_mem_set hx with e | e
  · exact h x e
  · subst e; exact ⟨h0, h1⟩
theorem Sc.set {w W : World} {A S Y Z : List Int} {g i : Nat} (h : Sc w W A S g (Y ++ Z)) (hi : i < Y.length) (u : Int) : Sc w (W.setCell ⟨g, i, none⟩ (.int .u8 u)) A S g (Y.set i u ++ Z) := by
  have hg := h.g2
  refine ⟨h.B.setCell (by show w.heap.size ≤ g; omega) _, h.a.other (by omega) _, h.s.other (by omega) _, ?_, h.g2, by have := h.nl; rw [List.length_append] at this ⊢; rw [List.length_set]; exact this, h.la, h.ls⟩
  have k := h.l.set i (by rw [List.length_append]; omega) u
  rw [List.set_append_left _ _ hi] at k
  exact k
noncomputable def dC2 (A S Y : List Int) : List Value := (adrC (cr2X A S Y)).map (Value.int .u8)
theorem dC2_len (A S Y : List Int) : (dC2 A S Y).length = 20 := by rw [dC2, List.length_map, adrC_len]
theorem dC2_oc (A S Y : List Int) : (dC2 A S Y).toArray.all (·.oneCell') = true := one_cells _
theorem dC2_eq (A S Y : List Int) (w : World) : (Op.equalIn 10000 23 (.agg (dC2 A S Y).toArray) (.agg (dC2 A S Y).toArray)).run Tryd.prog w = .ok true w := by
  rw [dC2, eq_adrJ (adrC_len _) (adrC_len _) w]; simp
/-- A digest's place, new and written. -/
theorem Sc.put {w w1 : World} {A S L : List Int} {g : Nat} {D : List Value} {t : TypeId} (h : Sc w w1 A S g L) (k : D.length = 20) : Sc w ((w1.alloc (.cells ((List.replicate 20 (0 : Int)).map (Value.int .u8)).toArray t)).setCells w1.heap.size 0 D) A S g L ∧ ((w1.alloc (.cells ((List.replicate 20 (0 : Int)).map (Value.int .u8)).toArray t)).setCells w1.heap.size 0 D).rangeAt w1.heap.size 0 D ∧ w1.heap.size < ((w1.alloc (.cells ((List.replicate 20 (0 : Int)).map (Value.int .u8)).toArray t)).setCells w1.heap.size 0 D).heap.size := by
  have hb : Below w1.heap.size w1 ((w1.alloc (.cells ((List.replicate 20 (0 : Int)).map (Value.int .u8)).toArray t)).setCells w1.heap.size 0 D) := below_setCells (Nat.le_refl _) D 0 _ ((Below.refl _ _).alloc (Nat.le_refl _) _)
  have hc : ((w1.alloc (.cells ((List.replicate 20 (0 : Int)).map (Value.int .u8)).toArray t)).setCells w1.heap.size 0 D).rangeAt w1.heap.size 0 D := World.rangeAt_setCells_same _ _ _ _ (there_new rfl (by rw [k]; rfl))
  exact ⟨h.keep hb, hc, World.block_lt_of_cell? _ ⟨w1.heap.size, 0 + 0, none⟩ (hc 0 (D.getD 0 (.int .u8 0)) (by rw [List.getD, List.getElem?_eq_getElem (by rw [k]; decide)]; rfl))⟩
set_option maxRecDepth 100000 in
set_option maxHeartbeats 16000000 in
theorem creates_any {A S X : List Int} {n : Int} {a : Option Addr} {b o c : Nat} (hA : A.length = 20) (hB : Bys A) (hn : Word n) (hS : S.length = 32) (hSB : Bys S) (hX : X.length < 1073741000) (hnc : a = none → c = 0) (w : World) (hp : PtC.ok w ⟨a, b, o, c, X⟩) (hk : KtC w) (hr : RtC w) :
    Calls Tryd.prog 3 #[.agg (A.map (Value.int .u8)).toArray, .int .u64 n, .agg (S.map (Value.int .u8)).toArray, .slice a X.length c] w fun e w' => e = .returned (.bool true) ∧ Below w.heap.size w w' := by
  obtain ⟨MA, eMA⟩ : ∃ MA, Hid (MA = A.map (Value.int .u8)) := ⟨_, rfl⟩
  obtain ⟨MS, eMS⟩ : ∃ MS, Hid (MS = S.map (Value.int .u8)) := ⟨_, rfl⟩
  obtain ⟨D2, eD2⟩ : ∃ D2, Hid (D2 = (adrC (creX A n)).map (Value.int .u8)) := ⟨_, rfl⟩
  have CL : Hid (∀ W, Below w.heap.size w W → Calls Tryd.prog 4 #[.slice a X.length c] W fun e w' => ∃ g cap, e = .returned (.slice (some ⟨g, 0, none⟩) X.length cap) ∧ (W.heap.size ≤ g ∧ X.length + 70 ≤ cap ∧ Bts w' g (lentE X)) ∧ Below W.heap.size W w') := fun W B => by
    refine (elent_any (X := X) (a := a) (bd := b) (od := o) (by omega) hp.1 W (hp.keep B).2.2.2).mono ?_
    rintro e w' ⟨g, cap, rfl, hO, hb⟩
    obtain ⟨a', g', c', e1, hl, _, _, hq, hne, _⟩ := hO.lies
    have hl' := lentE_len X
    have hg := hO.lt g rfl
    refine ⟨g, cap, rfl, ⟨hg.1, ?_, fun i hi => hO.cell hl' (by omega), fun i hi => hO.free hl' i⟩, hb⟩
    injection e1 with _ _ e3; omega
  have CA : Hid (∀ W, Below w.heap.size w W → Calls Tryd.prog 6 #[.agg MA.toArray, .int .u64 n] W fun e w' => e = .returned (.agg D2.toArray) ∧ Below W.heap.size W w') := fun W B => by rw [eMA.out]; exact create_any hA hB hn eD2 W (hk.keep B)
  have CB : Hid (∀ W, Below w.heap.size w W → Calls Tryd.prog 7 #[.agg MA.toArray, .int .u64 n] W fun e w' => e = .returned (.agg D2.toArray) ∧ Below W.heap.size W w') := fun W B => by rw [eMA.out]; exact rcreate_any hA hB hn eD2 W (hr.keep B)
  have CC : Hid (∀ W, Below w.heap.size w W → Calls Tryd.prog 8 #[.agg MA.toArray, .agg MS.toArray, .slice a X.length c] W fun e w' => e = .returned (.agg (dC2 A S X).toArray) ∧ Below W.heap.size W w') := fun W B => by rw [eMA.out, eMS.out]; exact rcreate2_any rfl hA hB hS hSB (by omega) rfl hnc W (hp.keep B) (hr.keep B)
  have CD : Hid (∀ W g cap Y, Y.length = X.length → Bys Y → X.length + 70 ≤ cap → Sc w W A S g (Y ++ List.replicate 70 165) → Calls Tryd.prog 5 #[.agg MA.toArray, .agg MS.toArray, .slice (some ⟨g, 0, none⟩) X.length cap] W fun e w' => e = .returned (.agg (dC2 A S Y).toArray) ∧ Below W.heap.size W w') := fun W g cap Y e hy hc h => by rw [eMA.out, eMS.out]; exact create2_any e.symm hA hB hS hSB (by omega) rfl W (h.pt hy (by omega)) (hk.keep h.B)
  have CS : Hid (∀ W g cap, X.length + 70 ≤ cap → Sc w W A S g (X ++ List.replicate 70 165) → Calls Tryd.prog 9 #[.slice (some ⟨g, 0, none⟩) X.length cap, .slice a X.length c] W fun e w' => e = .returned (.bool true) ∧ Below W.heap.size W w') := fun W g cap hc h => estill_any (X := X) (a := a) (bd := b) (od := o) (by omega) hp.1 W hc (fun i hi => by rw [Nat.zero_add]; exact h.l.1 i hi) (hp.keep h.B).2.2.2
  have CP : Hid (∀ W g cap Y, Y.length = X.length → Bys Y → X.length + 70 ≤ cap → Sc w W A S g (Y ++ List.replicate 70 165) → Calls Tryd.prog 10 #[.slice (some ⟨g, 0, none⟩) X.length cap] W fun e w' => ∃ a' g' c', e = .returned (.slice a' X.length c') ∧ (PtC.ok w' ⟨a', g', 0, c', Y⟩ ∧ (a' = none → c' = 0)) ∧ Below W.heap.size W w') := fun W g cap Y e hy hc h => by
    have hq := ecopied_any (X := Y) (cd := cap) (by omega) (.inr rfl) W (h.pt (cap := cap) hy (by omega)).2.2.2
    rw [e] at hq
    refine hq.mono ?_
    rintro e' w' ⟨v, rfl, hO, hb⟩
    obtain ⟨a', g', c', rfl, q1, q2, q3, _, _, q4⟩ := hO.lies
    exact ⟨a', g', c', by rw [e], ⟨⟨q2, q1, hy, q3⟩, q4⟩, hb⟩
  have CE : Hid (∀ W a' g' c' Y, Y.length = X.length → (a' = none → c' = 0) → Below w.heap.size w W → PtC.ok W ⟨a', g', 0, c', Y⟩ → Calls Tryd.prog 8 #[.agg MA.toArray, .agg MS.toArray, .slice a' X.length c'] W fun e w' => e = .returned (.agg (dC2 A S Y).toArray) ∧ Below W.heap.size W w') := fun W a' g' c' Y e h0 B h => by rw [eMA.out, eMS.out]; exact rcreate2_any e.symm hA hB hS hSB (by omega) rfl h0 W h (hr.keep B)
  have RA : Hid (∀ W g L, Sc w W A S g L → W.rangeAt w.heap.size 0 MA ∧ W.rangeAt (w.heap.size + 1) 0 MS) := fun W g L h => by rw [eMA.out, eMS.out]; exact ⟨h.a.1.range, h.s.1.range⟩
  have ML : Hid (MA.length = 20 ∧ MS.length = 32) := by rw [eMA.out, eMS.out, List.length_map, List.length_map]; exact ⟨hA, hS⟩
  have D2E : Hid (∀ w, (Op.equalIn 10000 23 (.agg D2.toArray) (.agg D2.toArray)).run Tryd.prog w = .ok true w) := fun w => by rw [eD2.out, eq_adrJ (adrC_len _) (adrC_len _) w]; simp
  have XB : Hid (Bys X ∧ X.length < 1073741000) := ⟨hp.2.2.1, hX⟩
  rw [← eMA.out, ← eMS.out]
  have S0 : Hid (∀ W g, Below w.heap.size w W → Bts W w.heap.size A → Bts W (w.heap.size + 1) S → Bts W g (lentE X) → w.heap.size + 2 ≤ g → Sc w W A S g (X ++ List.replicate 70 165)) := fun W g B h1 h2 h3 h4 => ⟨B, h1, h2, h3, h4, by rw [List.length_append, List.length_replicate]; omega, hA, hS⟩
  have N0 : Hid (∀ t1 t2, Bts ((w.alloc (.cells MA.toArray t1)).alloc (.cells MS.toArray t2)) w.heap.size A ∧ Bts ((w.alloc (.cells MA.toArray t1)).alloc (.cells MS.toArray t2)) (w.heap.size + 1) S) := fun t1 t2 => by rw [eMA.out, eMS.out]; exact ⟨(Bts.new A _ rfl).alloc (by omega) _, Bts.new S _ (by simp)⟩
  have KA : Hid (0 < A.length ∧ 0 < S.length) := ⟨by omega, by omega⟩
  clear hp hk hr hX hSB hnc hn hB eMA eMS eD2 hA hS
  go_enter Tryd.func3, Tryd.ntmps3
  go_wp2_with fail
  refine calls_world (fun W => (Below w.heap.size w W ∧ w.heap.size + 2 ≤ W.heap.size) ∧ Bts W w.heap.size A ∧ Bts W (w.heap.size + 1) S) ⟨⟨by repeat (first | with_reducible exact Below.refl _ _ | with_reducible refine Below.alloc ?_ (by first | omega | (simp; done) | (simp; omega)) _), by simp⟩, N0.out _ _⟩ ?_
  rintro W ⟨⟨B, hs⟩, h1, h2⟩
  clear N0
  with_reducible refine (CL.out W B).mono ?_
  rintro e w1 ⟨g, cap, rfl, ⟨q1, q2, q3⟩, hb⟩
  have SC := S0.out w1 g (B.trans (hb.mono B.size)) (h1.keep KA.out.1 hb) (h2.keep KA.out.2 hb) q3 (by omega)
  have CQ : Hid (X.length + 70 ≤ cap) := q2
  clear hb W B hs h1 h2 q1 q2 q3 S0 CL KA
  have SC' : Hid (Sc w w1 A S g (X ++ List.replicate 70 165)) := SC
  obtain ⟨ra, rs⟩ := RA.out _ _ _ SC
  clear SC
  go_wp2_with (first | refine wpList_load_mid rfl 23 _ rfl w.heap.size 0 rfl MA _ ra Tryd.underlying23 rfl (by rw [ML.out.1]; kernel_rfl) ?_ | refine wpList_load_mid rfl 26 _ rfl (w.heap.size + 1) 0 rfl MS _ rs Tryd.underlying26 rfl (by rw [ML.out.2]; kernel_rfl) ?_)
  with_reducible refine (CD.out w1 g cap X rfl XB.out.1 CQ.out SC'.out).mono ?_
  rintro e w2 ⟨rfl, hb⟩
  have SC := SC'.out.keep hb
  clear hb ra rs SC' w1
  have kD := dC2_len A S X
  have oc := dC2_oc A S X
  have DE := dC2_eq A S X
  generalize dC2 A S X = D1 at *
  have sz : D1.toArray.size = 20 := by simp [kD]
  have F1 : ∀ t, Hid _ := fun t => Sc.put (t := t) SC kD
  clear SC
  go_wp2_with ((refine wpList_store_mid rfl 23 _ _ rfl w2.heap.size 0 D1.toArray rfl rfl (there_new rfl (by rw [sz]; rfl)) (by rw [sz]; kernel_rfl) oc ?_); (refine wpList_worldA (fun W => Sc w W A S g (X ++ List.replicate 70 165) ∧ W.rangeAt w2.heap.size 0 D1 ∧ w2.heap.size < W.heap.size) (F1 _).out ?_); (rintro W ⟨SC, hA, lA⟩); (clear F1))
  generalize w2.heap.size = bD at *
  clear w2
  obtain ⟨ra, rs⟩ := RA.out _ _ _ SC
  have KD : Hid (D1.length = 20) := kD
  have lra : w.heap.size < W.heap.size := SC.a.1.lt (by rw [SC.la]; decide)
  have lrs : w.heap.size + 1 < W.heap.size := SC.s.1.lt (by rw [SC.ls]; decide)
  have lhA : bD < W.heap.size := lA
  have SW : Hid (∀ V, Below W.heap.size W V → Sc w V A S g (X ++ List.replicate 70 165)) := fun V h => SC.keep h
  clear SC kD
  simp only [Act.put]
  refine wp_region_held_drew (S := fun w' => Below W.heap.size W w') (by kernel_rfl) ((Below.refl _ _).drew) (fun hHeld => ?_)
  refine wpAnyH_takeD (i := 0) (oi := _) (v := .agg MA.toArray) 19 rfl (by kernel_rfl) (by kernel_rfl) (by kernel_rfl) (by kernel_rfl) (fun _ _ _ h => h) (Or.inl ⟨by kernel_rfl, ?_⟩) (by assumption) ?_
  · intro wq hSw
    exact yields_mid 23 _ rfl w.heap.size 0 rfl MA _ (range_keep ra hSw lra) Tryd.underlying23 rfl (by rw [ML.out.1]; kernel_rfl)
  simp only [Act.put, List.setIfInBounds_toArray, List.set_cons_succ, List.set_cons_zero]
  refine wpAnyH_takeD (i := 1) (oi := _) (v := .int .u64 n) 20 rfl (by kernel_rfl) (by kernel_rfl) (by kernel_rfl) (by kernel_rfl) (fun _ _ _ h => h) (Or.inl ⟨by kernel_rfl, ?_⟩) (by assumption) ?_
  · intro wq hSw
    have _ := hSw
    go_simp
  simp only [Act.put, List.setIfInBounds_toArray, List.set_cons_succ, List.set_cons_zero]
  refine wpAnyH_takeD (i := 3) (oi := _) (v := .agg MA.toArray) 22 rfl (by kernel_rfl) (by kernel_rfl) (by kernel_rfl) (by kernel_rfl) (fun _ _ _ h => h) (Or.inl ⟨by kernel_rfl, ?_⟩) (by assumption) ?_
  · intro wq hSw
    exact yields_mid 23 _ rfl w.heap.size 0 rfl MA _ (range_keep ra hSw lra) Tryd.underlying23 rfl (by rw [ML.out.1]; kernel_rfl)
  simp only [Act.put, List.setIfInBounds_toArray, List.set_cons_succ, List.set_cons_zero]
  refine wpAnyH_takeD (i := 4) (oi := _) (v := .int .u64 n) 23 rfl (by kernel_rfl) (by kernel_rfl) (by kernel_rfl) (by kernel_rfl) (fun _ _ _ h => h) (Or.inl ⟨by kernel_rfl, ?_⟩) (by assumption) ?_
  · intro wq hSw
    have _ := hSw
    go_simp
  simp only [Act.put, List.setIfInBounds_toArray, List.set_cons_succ, List.set_cons_zero]
  refine wpAnyH_ready (rs := [2]) (by kernel_rfl) (by simp) ?_
  refine AllReadyH.cons rfl (fun K hK => ?_) AllReadyH.nil
  go_simp
  go_wp2_with (go_at_call 6; refine (CA.out _ (SW.out _ hHeld).B).mono ?_; rintro e y2 ⟨rfl, hbx⟩)
  refine hK.out _ _ (hHeld.trans (hbx.mono hHeld.size)) (fun hHeld => ?_)
  clear hK K
  clear hbx
  refine wpAnyH_ready (rs := [5]) (by kernel_rfl) (by simp) ?_
  refine AllReadyH.cons rfl (fun K hK => ?_) AllReadyH.nil
  go_simp
  go_wp2_with (go_at_call 7; refine (CB.out _ (SW.out _ hHeld).B).mono ?_; rintro e y5 ⟨rfl, hbx⟩)
  refine hK.out _ _ (hHeld.trans (hbx.mono hHeld.size)) (fun hHeld => ?_)
  clear hK K
  clear hbx
  refine wpAnyH_takeD (i := 6) (oi := _) (v := .bool false) 25 rfl (by kernel_rfl) (by kernel_rfl) (by kernel_rfl) (by kernel_rfl) (fun _ _ _ h => h) (Or.inl ⟨by kernel_rfl, ?_⟩) (by assumption) ?_
  · intro wq hSw
    have q := D2E.out wq
    go_simp
  simp only [Act.put, List.setIfInBounds_toArray, List.set_cons_succ, List.set_cons_zero]
  refine wpAnyH_takeD (i := 7) (oi := _) (v := .bool false) 26 rfl (by kernel_rfl) (by kernel_rfl) (by kernel_rfl) (by kernel_rfl) (fun _ _ _ h => h) (Or.inl ⟨by kernel_rfl, ?_⟩) (by assumption) ?_
  · intro wq hSw
    have _ := hSw
    go_simp
  simp only [Act.put, List.setIfInBounds_toArray, List.set_cons_succ, List.set_cons_zero]
  refine wpAnyH_takeD (i := 8) (oi := _) (v := .agg D1.toArray) 27 rfl (by kernel_rfl) (by kernel_rfl) (by kernel_rfl) (by kernel_rfl) (fun _ _ _ h => h) (Or.inl ⟨by kernel_rfl, ?_⟩) (by assumption) ?_
  · intro wq hSw
    exact yields_mid 23 _ rfl bD 0 rfl D1 _ (range_keep hA hSw lhA) Tryd.underlying23 rfl (by rw [KD.out]; kernel_rfl)
  simp only [Act.put, List.setIfInBounds_toArray, List.set_cons_succ, List.set_cons_zero]
  refine wpAnyH_takeD (i := 9) (oi := _) (v := .agg MA.toArray) 28 rfl (by kernel_rfl) (by kernel_rfl) (by kernel_rfl) (by kernel_rfl) (fun _ _ _ h => h) (Or.inl ⟨by kernel_rfl, ?_⟩) (by assumption) ?_
  · intro wq hSw
    exact yields_mid 23 _ rfl w.heap.size 0 rfl MA _ (range_keep ra hSw lra) Tryd.underlying23 rfl (by rw [ML.out.1]; kernel_rfl)
  simp only [Act.put, List.setIfInBounds_toArray, List.set_cons_succ, List.set_cons_zero]
  refine wpAnyH_takeD (i := 10) (oi := _) (v := .agg MS.toArray) 29 rfl (by kernel_rfl) (by kernel_rfl) (by kernel_rfl) (by kernel_rfl) (fun _ _ _ h => h) (Or.inl ⟨by kernel_rfl, ?_⟩) (by assumption) ?_
  · intro wq hSw
    exact yields_mid 26 _ rfl (w.heap.size + 1) 0 rfl MS _ (range_keep rs hSw lrs) Tryd.underlying26 rfl (by rw [ML.out.2]; kernel_rfl)
  simp only [Act.put, List.setIfInBounds_toArray, List.set_cons_succ, List.set_cons_zero]
  refine wpAnyH_takeD (i := 11) (oi := _) (v := .slice a X.length c) 30 rfl (by kernel_rfl) (by kernel_rfl) (by kernel_rfl) (by kernel_rfl) (fun _ _ _ h => h) (Or.inl ⟨by kernel_rfl, ?_⟩) (by assumption) ?_
  · intro wq hSw
    have _ := hSw
    go_simp
  simp only [Act.put, List.setIfInBounds_toArray, List.set_cons_succ, List.set_cons_zero]
  refine wpAnyH_ready (rs := [12]) (by kernel_rfl) (by simp) ?_
  refine AllReadyH.cons rfl (fun K hK => ?_) AllReadyH.nil
  go_simp
  go_wp2_with (go_at_call 8; refine (CC.out _ (SW.out _ hHeld).B).mono ?_; rintro e y12 ⟨rfl, hbx⟩)
  refine hK.out _ _ (hHeld.trans (hbx.mono hHeld.size)) (fun hHeld => ?_)
  clear hK K
  clear hbx
  refine wpAnyH_takeD (i := 13) (oi := _) (v := .bool false) 32 rfl (by kernel_rfl) (by kernel_rfl) (by kernel_rfl) (by kernel_rfl) (fun _ _ _ h => h) (Or.inl ⟨by kernel_rfl, ?_⟩) (by assumption) ?_
  · intro wq hSw
    have q := DE wq
    go_simp
  simp only [Act.put, List.setIfInBounds_toArray, List.set_cons_succ, List.set_cons_zero]
  refine wpAnyH_takeD (i := 14) (oi := _) (v := .bool false) 33 rfl (by kernel_rfl) (by kernel_rfl) (by kernel_rfl) (by kernel_rfl) (fun _ _ _ h => h) (Or.inl ⟨by kernel_rfl, ?_⟩) (by assumption) ?_
  · intro wq hSw
    have _ := hSw
    go_simp
  simp only [Act.put, List.setIfInBounds_toArray, List.set_cons_succ, List.set_cons_zero]
  refine wpAnyH_takeD (i := 15) (oi := _) (v := .bool false) 34 rfl (by kernel_rfl) (by kernel_rfl) (by kernel_rfl) (by kernel_rfl) (fun _ _ _ h => h) (Or.inl ⟨by kernel_rfl, ?_⟩) (by assumption) ?_
  · intro wq hSw
    have _ := hSw
    go_simp
  simp only [Act.put, List.setIfInBounds_toArray, List.set_cons_succ, List.set_cons_zero]
  refine wpAnyH_takeD (i := 16) (oi := _) (v := .slice (some ⟨g, 0, none⟩) X.length cap) 35 rfl (by kernel_rfl) (by kernel_rfl) (by kernel_rfl) (by kernel_rfl) (fun _ _ _ h => h) (Or.inl ⟨by kernel_rfl, ?_⟩) (by assumption) ?_
  · intro wq hSw
    have _ := hSw
    go_simp
  simp only [Act.put, List.setIfInBounds_toArray, List.set_cons_succ, List.set_cons_zero]
  refine wpAnyH_takeD (i := 17) (oi := _) (v := .slice a X.length c) 36 rfl (by kernel_rfl) (by kernel_rfl) (by kernel_rfl) (by kernel_rfl) (fun _ _ _ h => h) (Or.inl ⟨by kernel_rfl, ?_⟩) (by assumption) ?_
  · intro wq hSw
    have _ := hSw
    go_simp
  simp only [Act.put, List.setIfInBounds_toArray, List.set_cons_succ, List.set_cons_zero]
  refine wpAnyH_ready (rs := [18]) (by kernel_rfl) (by simp) ?_
  refine AllReadyH.cons rfl (fun K hK => ?_) AllReadyH.nil
  go_simp
  go_wp2_with (go_at_call 9; refine (CS.out _ g cap CQ.out (SW.out _ hHeld)).mono ?_; rintro e y18 ⟨rfl, hbx⟩)
  refine hK.out _ _ (hHeld.trans (hbx.mono hHeld.size)) (fun hHeld => ?_)
  clear hK K
  clear hbx
  refine wpAnyH_takeD (i := 19) (oi := _) (v := .bool false) 38 rfl (by kernel_rfl) (by kernel_rfl) (by kernel_rfl) (by kernel_rfl) (fun _ _ _ h => h) (Or.inl ⟨by kernel_rfl, ?_⟩) (by assumption) ?_
  · intro wq hSw
    have _ := hSw
    go_simp
  simp only [Act.put, List.setIfInBounds_toArray, List.set_cons_succ, List.set_cons_zero]
  refine wpAnyH_takeD (i := 20) (oi := _) (v := .bool false) 39 rfl (by kernel_rfl) (by kernel_rfl) (by kernel_rfl) (by kernel_rfl) (fun _ _ _ h => h) (Or.inl ⟨by kernel_rfl, ?_⟩) (by assumption) ?_
  · intro wq hSw
    have _ := hSw
    go_simp
  simp only [Act.put, List.setIfInBounds_toArray, List.set_cons_succ, List.set_cons_zero]
  refine wpAnyH_done (by kernel_rfl) ?_ _
  have SC := SW.out _ hHeld
  clear SW hHeld CA CB CC CS D2E DE hA lA ra rs lra lrs lhA oc sz KD
  have XX : Hid (X.length < 1073741000) := XB.out.2
  have SS : Hid (Sc w _ A S g (X ++ List.replicate 70 165)) := SC
  clear SC
  go_wp2_with fail
  go_loopg [11] X.length (fun k iv wr => ∃ (i : Nat) (Y : List Int), k = X.length - i ∧ i ≤ X.length ∧ iv = .int .i64 i ∧ Y.length = X.length ∧ Bys Y ∧ Sc w wr A S g (Y ++ List.replicate 70 165))
  case atStart => exact ⟨0, X, rfl, Nat.zero_le _, rfl, rfl, XB.out.1, SS.out⟩
  case round =>
    obtain ⟨i, Y, hk, hi, rfl, hY, hyB, SC⟩ := hrel
    have HK : Hid (gk = X.length - i) := hk
    have SY : Hid (Y.length = X.length ∧ Bys Y ∧ Sc w wr A S g (Y ++ List.replicate 70 165)) := ⟨hY, hyB, SC⟩
    clear hk hY hyB SC SS
    by_cases h8 : i = X.length
    · subst h8
      obtain ⟨ra, rs⟩ := RA.out _ _ _ SY.out.2.2
      go_wp2_with (first | refine wpList_load_mid rfl 23 _ rfl w.heap.size 0 rfl MA _ ra Tryd.underlying23 rfl (by rw [ML.out.1]; kernel_rfl) ?_ | refine wpList_load_mid rfl 26 _ rfl (w.heap.size + 1) 0 rfl MS _ rs Tryd.underlying26 rfl (by rw [ML.out.2]; kernel_rfl) ?_)
      with_reducible refine (CD.out wr g cap Y SY.out.1 SY.out.2.1 CQ.out SY.out.2.2).mono ?_
      rintro e w2 ⟨rfl, hb⟩
      have SC := SY.out.2.2.keep hb
      have YY : Hid (Y.length = X.length ∧ Bys Y) := ⟨SY.out.1, SY.out.2.1⟩
      clear hb ra rs SY
      have kD := dC2_len A S Y
      have oc := dC2_oc A S Y
      have DE := dC2_eq A S Y
      have CE2 : Hid _ := fun W a' g' c' => CE.out W a' g' c' Y YY.out.1
      generalize dC2 A S Y = D3 at *
      have sz : D3.toArray.size = 20 := by simp [kD]
      have F1 : ∀ t, Hid _ := fun t => Sc.put (t := t) SC kD
      clear SC
      go_wp2_with ((refine wpList_store_mid rfl 23 _ _ rfl w2.heap.size 0 D3.toArray rfl rfl (there_new rfl (by rw [sz]; rfl)) (by rw [sz]; kernel_rfl) oc ?_); (refine wpList_worldA (fun W => Sc w W A S g (Y ++ List.replicate 70 165) ∧ W.rangeAt w2.heap.size 0 D3 ∧ w2.heap.size < W.heap.size) (F1 _).out ?_); (rintro V ⟨SC, hE, lhE⟩); (clear F1))
      generalize w2.heap.size = bE at *
      clear w2
      obtain ⟨ra, rs⟩ := RA.out _ _ _ SC
      have KE : Hid (D3.length = 20) := kD
      have lra : w.heap.size < V.heap.size := SC.a.1.lt (by rw [SC.la]; decide)
      have lrs : w.heap.size + 1 < V.heap.size := SC.s.1.lt (by rw [SC.ls]; decide)
      have SW : Hid (∀ U, Below V.heap.size V U → Sc w U A S g (Y ++ List.replicate 70 165)) := fun U h => SC.keep h
      clear SC kD
      simp only [Act.put]
      refine wp_region_held_drew (S := fun w' => Below V.heap.size V w') (by kernel_rfl) ((Below.refl _ _).drew) (fun hHeld => ?_)
      refine wpAnyH_takeD (i := 0) (oi := _) (v := .agg D3.toArray) 58 rfl (by kernel_rfl) (by kernel_rfl) (by kernel_rfl) (by kernel_rfl) (fun _ _ _ h => h) (Or.inl ⟨by kernel_rfl, ?_⟩) (by assumption) ?_
      · intro wq hSw
        exact yields_mid 23 _ rfl bE 0 rfl D3 _ (range_keep hE hSw lhE) Tryd.underlying23 rfl (by rw [KE.out]; kernel_rfl)
      simp only [Act.put, List.setIfInBounds_toArray, List.set_cons_succ, List.set_cons_zero]
      refine wpAnyH_takeD (i := 1) (oi := _) (v := .agg MA.toArray) 59 rfl (by kernel_rfl) (by kernel_rfl) (by kernel_rfl) (by kernel_rfl) (fun _ _ _ h => h) (Or.inl ⟨by kernel_rfl, ?_⟩) (by assumption) ?_
      · intro wq hSw
        exact yields_mid 23 _ rfl w.heap.size 0 rfl MA _ (range_keep ra hSw lra) Tryd.underlying23 rfl (by rw [ML.out.1]; kernel_rfl)
      simp only [Act.put, List.setIfInBounds_toArray, List.set_cons_succ, List.set_cons_zero]
      refine wpAnyH_takeD (i := 2) (oi := _) (v := .agg MS.toArray) 60 rfl (by kernel_rfl) (by kernel_rfl) (by kernel_rfl) (by kernel_rfl) (fun _ _ _ h => h) (Or.inl ⟨by kernel_rfl, ?_⟩) (by assumption) ?_
      · intro wq hSw
        exact yields_mid 26 _ rfl (w.heap.size + 1) 0 rfl MS _ (range_keep rs hSw lrs) Tryd.underlying26 rfl (by rw [ML.out.2]; kernel_rfl)
      simp only [Act.put, List.setIfInBounds_toArray, List.set_cons_succ, List.set_cons_zero]
      refine wpAnyH_takeD (i := 3) (oi := _) (v := .slice (some ⟨g, 0, none⟩) X.length cap) 61 rfl (by kernel_rfl) (by kernel_rfl) (by kernel_rfl) (by kernel_rfl) (fun _ _ _ h => h) (Or.inl ⟨by kernel_rfl, ?_⟩) (by assumption) ?_
      · intro wq hSw
        have _ := hSw
        go_simp
      simp only [Act.put, List.setIfInBounds_toArray, List.set_cons_succ, List.set_cons_zero]
      refine wpAnyH_ready (rs := [4]) (by kernel_rfl) (by simp) ?_
      refine AllReadyH.cons rfl (fun K hK => ?_) AllReadyH.nil
      go_simp
      go_wp2_with (go_at_call 10; refine (CP.out _ g cap Y YY.out.1 YY.out.2 CQ.out (SW.out _ hHeld)).mono ?_; rintro e y4 ⟨a1, g1, c1, rfl, hP1, hbx⟩)
      refine hK.out _ _ (hHeld.trans (hbx.mono hHeld.size)) (fun hHeld => ?_)
      clear hK K
      clear hbx
      refine wpAnyH_ready (rs := [5]) (by kernel_rfl) (by simp) ?_
      refine AllReadyH.cons rfl (fun K hK => ?_) AllReadyH.nil
      go_simp
      go_wp2_with (go_at_call 8; refine (CE2.out _ a1 g1 c1 hP1.2 (SW.out _ hHeld).B hP1.1).mono ?_; rintro e y5 ⟨rfl, hbx⟩)
      refine hK.out _ _ (hHeld.trans (hbx.mono hHeld.size)) (fun hHeld => ?_)
      clear hK K
      clear hbx
      refine wpAnyH_takeD (i := 6) (oi := _) (v := .bool true) 64 rfl (by kernel_rfl) (by kernel_rfl) (by kernel_rfl) (by kernel_rfl) (fun _ _ _ h => h) (Or.inl ⟨by kernel_rfl, ?_⟩) (by assumption) ?_
      · intro wq hSw
        have q := DE wq
        go_simp
      simp only [Act.put, List.setIfInBounds_toArray, List.set_cons_succ, List.set_cons_zero]
      refine wpAnyH_takeD (i := 7) (oi := _) (v := .bool true) 8 rfl (by kernel_rfl) (by kernel_rfl) (by kernel_rfl) (by kernel_rfl) (fun _ _ _ h => h) (Or.inl ⟨by kernel_rfl, ?_⟩) (by assumption) ?_
      · intro wq hSw
        have _ := hSw
        go_simp
      simp only [Act.put, List.setIfInBounds_toArray, List.set_cons_succ, List.set_cons_zero]
      refine wpAnyH_done (by kernel_rfl) ?_ _
      have BF := (SW.out _ hHeld).B
      go_wp2
      simp [bodyPost, results, Tryd.results3, go_sem]
      exact BF
    · have hlt : i < X.length := by omega
      have hlt' : (i : Int) < (X.length : Int) := by omega
      have cl : (Y ++ List.replicate 70 165).length = X.length + 70 := by rw [List.length_append, SY.out.1]; simp
      have g1 := SY.out.2.2.l.1 i (by rw [cl]; omega)
      have f1 := SY.out.2.2.l.2 i (by rw [cl]; omega)
      have eg : (Y ++ List.replicate 70 165).getD i 0 = Y.getD i 0 := getD_app (by rw [SY.out.1]; exact hlt)
      rw [eg] at g1
      have ym : Y.getD i 0 ∈ Y := by
        have hl : i < Y.length := by rw [SY.out.1]; exact hlt
        rw [List.getD, List.getElem?_eq_getElem hl]; exact List.getElem_mem hl
      obtain ⟨y0, y1⟩ := SY.out.2.1 _ ym
      have xx := xor255C y0 y1
      have NX : Hid (∃ Z : List Int, Z.length = X.length ∧ Bys Z ∧ Sc w (wr.setCell ⟨g, i, none⟩ (.int .u8 (255 - Y.getD i 0))) A S g (Z ++ List.replicate 70 165)) :=
        ⟨Y.set i (255 - Y.getD i 0), by rw [List.length_set]; exact SY.out.1, SY.out.2.1.setC i (by omega) (by omega), SY.out.2.2.set (by rw [SY.out.1]; exact hlt) _⟩
      generalize Y.getD i 0 = x at *
      clear SY h8 eg cl y0 y1 ym
      have xl : (X.length : Int) < 1073741000 := by have := XX.out; omega
      go_wp2
      go_roundg (X.length - (i + 1))
      case measure => have := HK.out; omega
      case rel =>
        obtain ⟨Z, hZ⟩ := NX.out
        exact ⟨i + 1, Z, rfl, by omega, by go_num, hZ⟩
end Go.Proofs.YtkbdpkgfnbfgmaaDoor
