import Derived.Test.YtdjjphcfobbipaaRyD
/- Layer 7: Encode. -/
namespace Go.Proofs.Ytdjjphcfobbipaa
open Go.RowKit Go.Sort
theorem ovr_all {L X : List Int} (h : L.length = X.length) : ovr L X.length X = X := by
  unfold ovr
  rw [Nat.sub_self, List.take_zero, List.nil_append, List.drop_of_length_le (by omega), List.append_nil]
theorem Rq.own {W : World} {B gr n : Nat} {L : List Int} (h : Rq W gr L) (hB : B ≤ gr) (hL : L.length = n) (hn : n < 1000000000) : OwnB B W (.slice (some ⟨gr, 0, none⟩) n n) L := by
  subst hL
  refine ⟨by simp, .inr ⟨gr, L.length, (L.map (Value.int .u8)).toArray, rfl, hB, h, Nat.le_refl _, by unfold maxLen; omega, by simp, ?_⟩⟩
  rw [Nat.mul_one]
  exact List.take_of_length_le (by simp)
theorem rq_made {w W : World} {n : Nat} (h : W.ownsRow w.heap.size 5 1 (.slice (some ⟨w.heap.size, 0, none⟩) n n) n (madeCells (Value.int .u8 0).cells (n * 1)).toList) : Rq W w.heap.size (List.replicate n 0) := by
  have r := own_row h
  have e : (madeCells (Value.int .u8 0).cells (n * 1)).toList = (List.replicate n (0 : Int)).map (Value.int .u8) := by
    rw [Nat.mul_one, List.map_replicate]
    exact toList_madeCells_one _ _
  rw [e] at r
  exact r
set_option maxRecDepth 100000 in
set_option maxHeartbeats 4000000 in
/-- The program's Encode, of any tree. -/
theorem Encode_any {t : Tr} {d q : Value} (hw : wtT t < 4194304) (w : World) (h : It w t d q) :
    Calls Try.prog 38 #[itV t d q] w fun e w' => ∃ v', e = .returned (.tuple #[v', .int .i64 (errT t)]) ∧ OwnB w.heap.size w' v' (encZ t) ∧ Below w.heap.size w w' := by
  have M1 : Hid (∀ W, Below w.heap.size w W → Calls Try.prog 36 #[.agg #[.bool t.l, d, q]] W fun e w' => e = .returned (.tuple #[.int .i64 (sizT t), .int .i64 (errT t)]) ∧ Below W.heap.size W w') := fun W B => Size_any hw W (It.keep B t h)
  obtain ⟨i0, hi, hz0, hz1, hz2⟩ := info_parts info_byte
  have HI := h
  obtain ⟨k1, k2, k3, k4, k5, k6, rfl, rfl⟩ := h.slices
  by_cases he : errT t = 0
  · have ho : oddT t = false := by
      cases e : oddT t with
      | false => rfl
      | true => unfold errT at he; rw [if_pos e] at he; cases he
    have hel := encT_len t
    have hsz : sizT t = ((encT t).length : Nat) := by unfold sizT; rw [if_pos he]
    have es : encZ t = encT t := by unfold encZ; rw [if_pos he]
    have PI : Hid (∀ W gr, Below w.heap.size w W → w.heap.size ≤ gr → Rq W gr (List.replicate (encT t).length 0) → Calls Try.prog 56 #[.slice (some ⟨gr, 0, none⟩) (encT t).length (encT t).length, .agg #[.bool t.l, .slice k1 k2 k3, .slice k4 k5 k6]] W fun e w' => (∃ v, e = .returned v) ∧ OwnB w.heap.size w' (.slice (some ⟨gr, 0, none⟩) (encT t).length (encT t).length) (encT t) ∧ W.grownBy w' (some gr)) := fun W gr B hg r => by
      refine (pitem_any t ho hw w HI W B (gr := gr) (m := (encT t).length) (n := (encT t).length) (L := List.replicate (encT t).length 0) hg (by simp) (Nat.le_refl _) (Nat.le_refl _) (by omega) r).mono ?_
      rintro e w' ⟨rfl, r2, g2⟩
      rw [ovr_all (by simp)] at r2
      exact ⟨⟨_, rfl⟩, r2.own hg rfl (by omega), g2⟩
    have hlen : ((encT t).length : Int) ≤ 16777216 := by omega
    rw [es, he]
    rw [he, hsz] at M1
    clear es he ho hel hsz hw HI h
    unfold itV
    generalize t.l = l at *
    generalize hEL : encT t = EX at *
    obtain ⟨n, hn⟩ : ∃ n, n = EX.length := ⟨_, rfl⟩
    rw [← hn] at PI M1 hlen
    have HEL : Hid (n = EX.length) := hn
    clear hn hEL
    go_enter Try.func38, Try.ntmps38
    refine wp_seq_k fun K h => ?_
    have H : Hid _ := h
    clear h
    go_wp2_with fail
    refine H.out _ _ ?_
    clear H K
    refine wp_world (fun W => Below w.heap.size w W ∧ Bx W w.heap.size l (.slice k1 k2 k3) (.slice k4 k5 k6)) ⟨(Below.refl _ _).alloc (Nat.le_refl _) _, ⟨by simp [go_sem], by simp [go_sem], by simp [go_sem]⟩⟩ ?_
    rintro W ⟨B, hX⟩
    have hX' := hX
    obtain ⟨x0, x1, x2⟩ := hX'
    refine wp_seq_k fun K h => ?_
    have H : Hid _ := h
    clear h
    go_wp2_with ((with_reducible refine (M1.out _ B).mono ?_); rintro e1 w1 ⟨rfl, hw1⟩)
    refine H.out _ _ ?_
    clear H K x0 x1 x2 M1
    replace B := B.trans (hw1.mono B.size)
    replace hX := hX.keep hw1
    clear hw1 W
    go_wp2_with (first
      | (at_make; refine wpList_make_full _ rfl _ _ 22 rfl w1.heap.size 5 i0 (.int .u8 0) 1 Try.underlying22 hi hz0 hz1 .i64 .i64 _ _ n rfl rfl rfl rfl (by rw [hz2]; omega) (by unfold maxLen; omega) (Nat.le_refl _) ?_; intro w2 hown hgrow; (have R2 : Rq w2 w1.heap.size (List.replicate n 0) := rq_made hown); (have BB : RowKit.Below w1.heap.size w1 w2 := ⟨hgrow.os, hgrow.tape, hgrow.output, hgrow.size, fun k hk => hgrow.block k hk (by simp)⟩); (have B2 : RowKit.Below w.heap.size w w2 := B.trans (BB.mono B.size)); (obtain ⟨x0, x1, x2⟩ := hX.keep BB))
      | (go_at_call 56; (with_reducible refine (PI.out _ w1.heap.size B2 B.size R2).mono ?_); rintro e3 w3 ⟨⟨v3, rfl⟩, o3, g3⟩))
    simp [bodyPost, results, Try.results38, go_sem]
    exact ⟨o3, below_of_grown B2 g3 fun r e => by have := Option.some.inj e; have := B.size; omega⟩
  · have es : encZ t = [] := by unfold encZ; rw [if_neg he]
    rw [es]
    clear es HI h hw
    unfold itV
    generalize t.l = l at *
    generalize errT t = y at *
    generalize sizT t = z at *
    have he' : (y == 0) = false := by simpa using he
    go_enter Try.func38, Try.ntmps38
    go_wp2_with ((with_reducible refine (M1.out _ ((Below.refl _ _).alloc (Nat.le_refl _) _)).mono ?_); rintro e1 w1 ⟨rfl, hw⟩; (have B1 : Below w.heap.size w w1 := ((Below.refl w.heap.size w).alloc (Nat.le_refl _) _).trans (hw.mono (by simp))))
    all_goals simp [bodyPost, results, Try.results38, go_sem]
    all_goals exact ⟨OwnB.nil _ _, B1⟩
end Go.Proofs.Ytdjjphcfobbipaa

/- Layer 7: RlpTrees. -/
namespace Go.Proofs.Ytdjjphcfobbipaa
open Go.RowKit Go.Sort
theorem Bx.range {W : World} {b : Nat} {l : Bool} {d q : Value} (h : Bx W b l d q) : W.rangeAt b 0 [.bool l, d, q] := fun j v hv => by
  rw [Nat.zero_add]
  match j, hv with
  | 0, hv => simp at hv; subst hv; exact h.1
  | 1, hv => simp at hv; subst hv; exact h.2.1
  | 2, hv => simp at hv; subst hv; exact h.2.2
  | j + 3, hv => simp at hv
theorem encZ_len (t : Tr) : (encZ t).length ≤ 4 * wtT t := by
  unfold encZ
  split
  · exact encT_len t
  · simp
set_option maxRecDepth 100000 in
set_option maxHeartbeats 16000000 in
theorem trees_any {t : Tr} {d q : Value} (hw : wtT t < 4194300) (w : World) (h : It w t d q) :
    Calls Try.prog 5 #[itV t d q] w fun e w' => e = .returned (.bool true) ∧ Below w.heap.size w w' := by
  have BE : Hid (∀ W, Below w.heap.size w W → Calls Try.prog 6 #[.agg #[.bool t.l, d, q]] W fun e w' => ∃ y : Bool, e = .returned (.bool y) ∧ Below W.heap.size W w') := fun W B => rBeyond_any (by omega) W (It.keep B t h)
  have RO : Hid (∀ W, Below w.heap.size w W → Calls Try.prog 21 #[.agg #[.bool t.l, d, q]] W fun e w' => ∃ d' q', e = .returned (.agg #[.bool t.l, d', q']) ∧ Rm w' t d' q' ∧ Below W.heap.size W w') := fun W B => room_any (by omega) W (It.keep B t h)
  have HI : Hid (It w t d q ∧ wtT t < 4194300) := ⟨h, hw⟩
  have LN : Hid (∀ (v : Int) (w : World), Calls Try.prog 24 #[.int .i64 v] w fun e w' => e = .returned (.int .i64 v) ∧ Below w.heap.size w w') := fun v w => lnumT_any v w
  obtain ⟨a1, b1, o1, c1, a2, b2, o2, c2, rfl, f1, f2, f3, rfl, g1, g2, g3⟩ := h.open
  clear f1 f2 f3 g1 g2 g3 h hw
  unfold itV
  go_enter Try.func5, Try.ntmps5
  refine wp_seq_k fun K h => ?_
  have H : Hid _ := h
  clear h
  go_wp2_with fail
  refine H.out _ _ ?_
  clear H K
  refine wp_world (fun W => Below w.heap.size w W ∧ Bx W w.heap.size t.l (.slice a1 t.X.length c1) (.slice a2 t.ts.length c2)) ⟨(Below.refl _ _).alloc (Nat.le_refl _) _, ⟨by simp [go_sem], by simp [go_sem], by simp [go_sem]⟩⟩ ?_
  rintro W ⟨B, hX⟩
  have hX' := hX
  obtain ⟨x0, x1, x2⟩ := hX'
  refine wp_seq_k fun K h => ?_
  have H : Hid _ := h
  clear h
  go_wp2_with ((with_reducible refine (BE.out W B).mono ?_); rintro e1 w1 ⟨y, rfl, hw1⟩; (cases y))
  rotate_left
  · simp [bodyPost, results, Try.results5, go_sem]
    exact B.trans (hw1.mono B.size)
  refine H.out _ _ ?_
  clear H K BE x0 x1 x2
  replace B := B.trans (hw1.mono B.size)
  replace hX := hX.keep hw1
  clear hw1 W
  have hX' := hX
  obtain ⟨x0, x1, x2⟩ := hX'
  refine wp_seq_k fun K h => ?_
  have H : Hid _ := h
  clear h
  go_wp2_with ((with_reducible refine (RO.out _ B).mono ?_); rintro e1 w2 ⟨d', q', rfl, hR, hw2⟩; (obtain ⟨gr, g, c, rfl, rfl⟩ := hR.form))
  refine H.out _ _ ?_
  clear H K
  refine wp_world (fun V => Below w.heap.size w V ∧ Bx V w.heap.size t.l (.slice a1 t.X.length c1) (.slice a2 t.ts.length c2) ∧ Bx V w2.heap.size t.l (.slice (some ⟨gr, 0, none⟩) t.X.length (t.X.length + 9)) (.slice (some ⟨g, 0, none⟩) t.ts.length c) ∧ Rm V t (.slice (some ⟨gr, 0, none⟩) t.X.length (t.X.length + 9)) (.slice (some ⟨g, 0, none⟩) t.ts.length c)) ⟨(B.trans (hw2.mono B.size)).alloc (B.trans (hw2.mono B.size)).size _, (hX.keep hw2).keep ((Below.refl _ _).alloc (Nat.le_refl _) _), Bx.new, hR.keep ((Below.refl _ _).alloc (Nat.le_refl _) _)⟩ ?_
  clear B hX x0 x1 x2 hR hw2 RO
  generalize w2.heap.size = bg
  clear w2 w1
  rintro V ⟨B, hX, hG, hR⟩
  have FX : Hid (∀ W, Below V.heap.size V W → Below w.heap.size w W ∧ Bx W w.heap.size t.l (.slice a1 t.X.length c1) (.slice a2 t.ts.length c2) ∧ Bx W bg t.l (.slice (some ⟨gr, 0, none⟩) t.X.length (t.X.length + 9)) (.slice (some ⟨g, 0, none⟩) t.ts.length c)) := fun W BW => ⟨B.trans (BW.mono B.size), hX.keep BW, hG.keep BW⟩
  have hwt := HI.out.2
  have hRI := hR.1
  have GC : Hid (∀ W, Below V.heap.size V W → Calls Try.prog 34 #[.agg #[.bool t.l, .slice (some ⟨gr, 0, none⟩) t.X.length (t.X.length + 9), .slice (some ⟨g, 0, none⟩) t.ts.length c]] W fun e w' => e = .returned (.int .i64 (errT t)) ∧ Below W.heap.size W w') := fun W BW => Check_any (by omega) W (It.keep BW t hRI)
  have RC : Hid (∀ W, Below V.heap.size V W → Calls Try.prog 35 #[.agg #[.bool t.l, .slice a1 t.X.length c1, .slice a2 t.ts.length c2]] W fun e w' => e = .returned (.int .i64 (errT t)) ∧ Below W.heap.size W w') := fun W BW => rCheck_any (by omega) W (It.keep (FX.out W BW).1 t HI.out.1)
  have GS : Hid (∀ W, Below V.heap.size V W → Calls Try.prog 36 #[.agg #[.bool t.l, .slice (some ⟨gr, 0, none⟩) t.X.length (t.X.length + 9), .slice (some ⟨g, 0, none⟩) t.ts.length c]] W fun e w' => e = .returned (.tuple #[.int .i64 (sizT t), .int .i64 (errT t)]) ∧ Below W.heap.size W w') := fun W BW => Size_any (by omega) W (It.keep BW t hRI)
  have RS : Hid (∀ W, Below V.heap.size V W → Calls Try.prog 37 #[.agg #[.bool t.l, .slice a1 t.X.length c1, .slice a2 t.ts.length c2]] W fun e w' => e = .returned (.tuple #[.int .i64 (sizT t), .int .i64 (errT t)]) ∧ Below W.heap.size W w') := fun W BW => rSize_any (by omega) W (It.keep (FX.out W BW).1 t HI.out.1)
  have GE : Hid (∀ W, Below V.heap.size V W → Calls Try.prog 38 #[.agg #[.bool t.l, .slice (some ⟨gr, 0, none⟩) t.X.length (t.X.length + 9), .slice (some ⟨g, 0, none⟩) t.ts.length c]] W fun e w' => ∃ v', e = .returned (.tuple #[v', .int .i64 (errT t)]) ∧ OwnB W.heap.size w' v' (encZ t) ∧ Below W.heap.size W w') := fun W BW => Encode_any (by omega) W (It.keep BW t hRI)
  have RE : Hid (∀ W, Below V.heap.size V W → Calls Try.prog 39 #[.agg #[.bool t.l, .slice a1 t.X.length c1, .slice a2 t.ts.length c2]] W fun e w' => ∃ v', e = .returned (.tuple #[v', .int .i64 (errT t)]) ∧ OwnB W.heap.size w' v' (encZ t) ∧ Below W.heap.size W w') := fun W BW => rEncode_any (by omega) W (It.keep (FX.out W BW).1 t HI.out.1)
  have ST : Hid (∀ W, Below V.heap.size V W → Calls Try.prog 33 #[.agg #[.bool t.l, .slice (some ⟨gr, 0, none⟩) t.X.length (t.X.length + 9), .slice (some ⟨g, 0, none⟩) t.ts.length c], .agg #[.bool t.l, .slice a1 t.X.length c1, .slice a2 t.ts.length c2]] W fun e w' => e = .returned (.bool true) ∧ Below W.heap.size W w') := fun W BW => stays_yes (by omega) W (hR.keep BW) (It.keep (FX.out W BW).1 t HI.out.1)
  have SL : Hid ((encZ t).length < 281474976710656) := by
    have := encZ_len t
    show _ < _
    omega
  clear hR hRI hX hG hwt HI B
  generalize errT t = E1 at *
  generalize sizT t = S1 at *
  generalize encZ t = L1 at *
  generalize t.l = lt at *
  generalize t.X.length = XL at *
  generalize t.ts.length = TL at *
  clear t
  have BB : Below V.heap.size V V := Below.refl _ _
  obtain ⟨W0, eW⟩ : ∃ W0, W0 = V := ⟨_, rfl⟩
  rw [← eW]
  have BW : Below V.heap.size V W0 := by rw [eW]; exact BB
  clear BB eW
  have ldG : ∀ w', (∃ p : Regrown, w' = grow (redrawn W0 p.d) p.os) → w'.rangeAt bg 0 [.bool lt, .slice (some ⟨gr, 0, none⟩) XL (XL + 9), .slice (some ⟨g, 0, none⟩) TL c] := by
    rintro w' ⟨rg, rfl⟩
    exact (FX.out _ (BW.trans ((below_regrown W0 rg.d rg.os).mono BW.size))).2.2.range
  have ldI : ∀ w', (∃ p : Regrown, w' = grow (redrawn W0 p.d) p.os) → w'.rangeAt w.heap.size 0 [.bool lt, .slice a1 XL c1, .slice a2 TL c2] := by
    rintro w' ⟨rg, rfl⟩
    exact (FX.out _ (BW.trans ((below_regrown W0 rg.d rg.os).mono BW.size))).2.1.range
  have QC : Hid (∀ d os, Calls Try.prog 34 #[.agg #[.bool lt, .slice (some ⟨gr, 0, none⟩) XL (XL + 9), .slice (some ⟨g, 0, none⟩) TL c]] (grow (redrawn W0 d) os) fun e w' => e = .returned (.int .i64 E1) ∧ Below (grow (redrawn W0 d) os).heap.size (grow (redrawn W0 d) os) w') := fun d os => GC.out _ (BW.trans ((below_regrown W0 d os).mono BW.size))
  have QR : Hid (∀ d os, Calls Try.prog 35 #[.agg #[.bool lt, .slice a1 XL c1, .slice a2 TL c2]] (grow (redrawn W0 d) os) fun e w' => e = .returned (.int .i64 E1) ∧ Below (grow (redrawn W0 d) os).heap.size (grow (redrawn W0 d) os) w') := fun d os => RC.out _ (BW.trans ((below_regrown W0 d os).mono BW.size))
  refine wp_seq_k fun K h => ?_
  have H9 : Hid _ := h
  clear h
  refine wp_seq_k fun K2 h => ?_
  have H : Hid _ := h
  clear h
  refine wp_region_quiet_below (by kernel_rfl) (by kernel_rfl) ?_
  repeat
    first
      | go_big_quiet_skip
      | (go_big_quiet_want; refine quiet_load_midT 29 _ rfl bg 0 rfl _ _ ldG Try.underlying29 rfl size_it ?_; simp only [Act.put, List.setIfInBounds_toArray, List.set_cons_succ, List.set_cons_zero]; go_big_quiet_on)
      | (go_big_quiet_want; refine quiet_load_midT 29 _ rfl w.heap.size 0 rfl _ _ ldI Try.underlying29 rfl size_it ?_; simp only [Act.put, List.setIfInBounds_toArray, List.set_cons_succ, List.set_cons_zero]; go_big_quiet_on)
      | (go_big_quiet_want; go_big_quiet_op; go_big_quiet_on)
      | (go_big_quiet_want
         go_big_quiet_op
         apply Exists.intro
         refine ⟨fun p => ?_, ?_⟩
         · first
             | (go_at_call 34; with_reducible exact Calls.regrown_of (QC.out p.d p.os))
             | (go_at_call 35; with_reducible exact Calls.regrown_of (QR.out p.d p.os))
             | (go_at_call 24; with_reducible exact Calls.regrown_of (LN.out E1 _))
         go_big_quiet_on)
  refine wpQuiet_nil ?_
  rintro W1 ⟨rg, rfl⟩
  have hb := below_regrown W0 rg.d rg.os
  generalize grow (redrawn W0 rg.d) rg.os = W1 at *
  replace BW := BW.trans (hb.mono BW.size)
  clear hb ldG ldI QC QR GC RC
  refine H.out _ _ ?_
  clear H
  go_wp2_with fail
  refine H9.out _ _ ?_
  clear H9
  obtain ⟨⟨x0, x1, x2⟩, y0, y1, y2⟩ := (FX.out _ BW).2
  refine wp_seq_k fun K h => ?_
  have H : Hid _ := h
  clear h
  go_wp2_with ((with_reducible refine (GS.out _ BW).mono ?_); rintro e1 W2 ⟨rfl, hw⟩)
  refine H.out _ _ ?_
  clear H K
  clear x0 x1 x2 y0 y1 y2 GS
  replace BW := BW.trans (hw.mono BW.size)
  clear hw
  obtain ⟨⟨x0, x1, x2⟩, y0, y1, y2⟩ := (FX.out _ BW).2
  refine wp_seq_k fun K h => ?_
  have H : Hid _ := h
  clear h
  go_wp2_with ((with_reducible refine (RS.out _ BW).mono ?_); rintro e1 W3 ⟨rfl, hw⟩)
  refine H.out _ _ ?_
  clear H K
  clear x0 x1 x2 y0 y1 y2 RS
  replace BW := BW.trans (hw.mono BW.size)
  clear hw
  refine wp_seq_k fun K h => ?_
  have H : Hid _ := h
  clear h
  go_wp2_with ((with_reducible refine (LN.out _ _).mono ?_); rintro e1 Y1 ⟨rfl, hy1⟩)
  refine H.out _ _ ?_
  clear H K
  replace BW := BW.trans (hy1.mono BW.size)
  clear hy1
  obtain ⟨⟨x0, x1, x2⟩, y0, y1, y2⟩ := (FX.out _ BW).2
  refine wp_seq_k fun K h => ?_
  have H : Hid _ := h
  clear h
  go_wp2_with ((with_reducible refine (GE.out _ BW).mono ?_); rintro e1 W4 ⟨v1, rfl, O1, hw⟩; (obtain ⟨av1, gv1, cv1, rfl, _⟩ := O1.lies))
  refine H.out _ _ ?_
  clear H K
  clear x0 x1 x2 y0 y1 y2 GE
  replace BW := BW.trans (hw.mono BW.size)
  clear hw
  obtain ⟨⟨x0, x1, x2⟩, y0, y1, y2⟩ := (FX.out _ BW).2
  refine wp_seq_k fun K h => ?_
  have H : Hid _ := h
  clear h
  go_wp2_with ((with_reducible refine (RE.out _ BW).mono ?_); rintro e1 W5 ⟨v2, rfl, O2, hw⟩; (obtain ⟨av2, gv2, cv2, rfl, _⟩ := O2.lies))
  refine H.out _ _ ?_
  clear H K
  clear x0 x1 x2 y0 y1 y2 RE
  replace BW := BW.trans (hw.mono BW.size)
  replace O1 := O1.keep hw
  clear hw
  obtain ⟨⟨x0, x1, x2⟩, y0, y1, y2⟩ := (FX.out _ BW).2
  go_wp2_with (first
    | (go_at_call 24; (with_reducible refine (LN.out _ _).mono ?_); rintro e1 Y1 ⟨rfl, hy1⟩; (have BY := BW.trans (hy1.mono BW.size)))
    | (go_at_call 18; (with_reducible refine (sameT_own SL.out (O1.keep hy1) (O2.keep hy1)).mono ?_); rintro e2 Y2 ⟨rfl, hy2⟩; (have BY2 := BY.trans (hy2.mono BY.size)); (clear x0 x1 x2 y0 y1 y2); (obtain ⟨⟨x0, x1, x2⟩, y0, y1, y2⟩ := (FX.out _ BY2).2))
    | (go_at_call 33; (with_reducible refine (ST.out _ BY2).mono ?_); rintro e3 Y3 ⟨rfl, hy3⟩))
  have BF := (FX.out Y3 (BY2.trans (hy3.mono BY2.size))).1
  simp [bodyPost, results, Try.results5, go_sem]
  exact BF
end Go.Proofs.Ytdjjphcfobbipaa
