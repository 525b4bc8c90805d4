import Derived.Test.YtdjjphcfobbipaaRxW
/- Layer 7: RlpReads. -/
namespace Go.Proofs.Ytdjjphcfobbipaa
open Go.RowKit Go.Sort
theorem lnumT_any (v : Int) (w : World) : Calls Try.prog 24 #[.int .i64 v] w fun e w' => e = .returned (.int .i64 v) ∧ Below w.heap.size w w' := by
  go_enter Try.func24, Try.ntmps24
  go_wp2
  simp [bodyPost, results, Try.results24, go_sem]
  exact Below.refl _ _
theorem sameT_own {W : World} {B1 B2 : Nat} {v1 v2 : Value} {Z : List Int} (hz : Z.length < 281474976710656) (h1 : OwnB B1 W v1 Z) (h2 : OwnB B2 W v2 Z) : Calls Try.prog 18 #[v1, v2] W fun e w' => e = .returned (.bool true) ∧ Below W.heap.size W w' := by
  obtain ⟨a1, g1, c1, rfl, _, z1, y1, _⟩ := h1.lies
  obtain ⟨a2, g2, c2, rfl, _, z2, y2, _⟩ := h2.lies
  have k := same7_any (c := c1) (c' := c2) hz z1 z2 W y1 y2
  rw [decide_eq_true rfl] at k
  exact k
theorem itemsT_own {W : World} {B1 B2 : Nat} {v1 v2 : Value} {ts : List Tr} {ps qs : List (Value × Value)} (hw : wtS ts < 4194300) (h1 : Oe B1 W v1 ts ps) (h2 : Oe B2 W v2 ts qs) : Calls Try.prog 20 #[v1, v2] W fun e w' => e = .returned (.bool true) ∧ Below W.heap.size W w' := by
  obtain ⟨a, b, c, rfl, k1, k2, k3⟩ := h1.row.its
  obtain ⟨a', b', c', rfl, k1', k2', k3'⟩ := h2.row.its
  exact items_yes hw W k3 k1 k2 k3' k1' k2'
theorem Rm.form {W : World} {t : Tr} {d q : Value} (h : Rm W t d q) : ∃ gr g c, d = .slice (some ⟨gr, 0, none⟩) t.X.length (t.X.length + 9) ∧ q = .slice (some ⟨g, 0, none⟩) t.ts.length c := by
  obtain ⟨_, ⟨gr, h1, _⟩, g, c, gm, h2, _⟩ := h
  exact ⟨gr, g, c, h1, h2⟩
theorem Rm.parts {W : World} {t : Tr} {gr g c n1 n2 n3 : Nat} (h : Rm W t (.slice (some ⟨gr, 0, none⟩) n1 n2) (.slice (some ⟨g, 0, none⟩) n3 c)) : Bz W gr 0 t.X ∧ (t.ts = [] ∨ some (⟨g, 0, none⟩ : Addr) = some ⟨g, 0, none⟩) ∧ Its W g 0 t.ts := by
  obtain ⟨hI, ⟨gr', h1, h2⟩, _⟩ := h
  injection h1 with h1 _ _
  injection h1 with h1
  injection h1 with h1 _ _
  subst h1
  obtain ⟨_, _, _, _, a2, b2, o2, c2, _, _, _, _, e2, _, k2, k3⟩ := hI.open
  injection e2 with e2 _ _
  subst e2
  rcases k2 with e | e
  · rw [e]; exact ⟨h2.front, .inl rfl, by rw [Its]; trivial⟩
  · injection e with e
    injection e with e1 e2 _
    subst e1 e2
    exact ⟨h2.front, .inr rfl, k3⟩
theorem wantL_len {l : Bool} {X : List Int} {ts : List Tr} : (wantL l X ts).length ≤ X.length := by unfold wantL; split <;> simp
theorem fixL_len {l : Bool} {X : List Int} {ts : List Tr} {n : Int} : (fixL l X ts n).length ≤ X.length := by unfold fixL; split <;> simp
theorem listS_wt {l : Bool} {X : List Int} {ts : List Tr} : wtS (listS l X ts) ≤ wtS ts := by unfold listS; split <;> simp [wtS]
set_option maxRecDepth 100000 in
set_option maxHeartbeats 16000000 in
theorem reads_any {t : Tr} {d q : Value} (n : Int) (hw : wtT t < 4194300) (hY : Byts t.X) (w : World) (h : It w t d q) :
    Calls Try.prog 4 #[itV t d q, .int .i64 n] w fun e w' => e = .returned (.bool true) ∧ Below w.heap.size w w' := by
  have hpt := wt_parts t
  have hln := len_wt t.ts
  have BE : Hid (∀ W, Below w.heap.size w W → Calls Try.prog 6 #[.agg #[.bool t.l, d, q]] W fun e w' => ∃ y : Bool, e = .returned (.bool y) ∧ Below W.heap.size W w') := fun W B => rBeyond_any (by omega) W (It.keep B t h)
  have RO : Hid (∀ W, Below w.heap.size w W → Calls Try.prog 21 #[.agg #[.bool t.l, d, q]] W fun e w' => ∃ d' q', e = .returned (.agg #[.bool t.l, d', q']) ∧ Rm w' t d' q' ∧ Below W.heap.size W w') := fun W B => room_any (by omega) W (It.keep B t h)
  have HI : Hid (It w t d q ∧ wtT t < 4194300 ∧ Byts t.X) := ⟨h, hw, hY⟩
  have LN : Hid (∀ (v : Int) (w : World), Calls Try.prog 24 #[.int .i64 v] w fun e w' => e = .returned (.int .i64 v) ∧ Below w.heap.size w w') := fun v w => lnumT_any v w
  obtain ⟨a1, b1, o1, c1, a2, b2, o2, c2, rfl, f1, f2, f3, rfl, g1, g2, g3⟩ := h.open
  have HJ : Hid ((t.X.length ≤ c1 ∧ (a1 = none → c1 = 0)) ∧ Az a1 b1 o1 t.X ∧ Bz w b1 o1 t.X ∧ (t.ts.length ≤ c2 ∧ (a2 = none → c2 = 0)) ∧ (t.ts = [] ∨ a2 = some ⟨b2, o2, none⟩) ∧ Its w b2 o2 t.ts) := ⟨f1, f2, f3, g1, g2, g3⟩
  clear f1 f2 f3 g1 g2 g3 h hw hY hpt hln
  unfold itV
  go_enter Try.func4, Try.ntmps4
  refine wp_seq_k fun K h => ?_
  have H : Hid _ := h
  clear h
  go_wp2_with fail
  refine H.out _ _ ?_
  clear H K
  refine wp_world (fun W => Below w.heap.size w W ∧ Bx W w.heap.size t.l (.slice a1 t.X.length c1) (.slice a2 t.ts.length c2)) ⟨(Below.refl _ _).alloc (Nat.le_refl _) _, ⟨by simp [go_sem], by simp [go_sem], by simp [go_sem]⟩⟩ ?_
  rintro W ⟨B, hX⟩
  have hX' := hX
  obtain ⟨x0, x1, x2⟩ := hX'
  refine wp_seq_k fun K h => ?_
  have H : Hid _ := h
  clear h
  go_wp2_with ((with_reducible refine (BE.out W B).mono ?_); rintro e1 w1 ⟨y, rfl, hw1⟩; (cases y))
  rotate_left
  · simp [bodyPost, results, Try.results4, go_sem]
    exact B.trans (hw1.mono B.size)
  refine H.out _ _ ?_
  clear H K BE x0 x1 x2
  replace B := B.trans (hw1.mono B.size)
  replace hX := hX.keep hw1
  clear hw1 W
  have hX' := hX
  obtain ⟨x0, x1, x2⟩ := hX'
  refine wp_seq_k fun K h => ?_
  have H : Hid _ := h
  clear h
  go_wp2_with ((with_reducible refine (RO.out _ B).mono ?_); rintro e1 w2 ⟨d', q', rfl, hR, hw2⟩; (obtain ⟨gr, g, c, rfl, rfl⟩ := hR.form))
  refine H.out _ _ ?_
  clear H K
  refine wp_world (fun V => Below w.heap.size w V ∧ Bx V w.heap.size t.l (.slice a1 t.X.length c1) (.slice a2 t.ts.length c2) ∧ Bx V w2.heap.size t.l (.slice (some ⟨gr, 0, none⟩) t.X.length (t.X.length + 9)) (.slice (some ⟨g, 0, none⟩) t.ts.length c) ∧ Rm V t (.slice (some ⟨gr, 0, none⟩) t.X.length (t.X.length + 9)) (.slice (some ⟨g, 0, none⟩) t.ts.length c)) ⟨(B.trans (hw2.mono B.size)).alloc (B.trans (hw2.mono B.size)).size _, (hX.keep hw2).keep ((Below.refl _ _).alloc (Nat.le_refl _) _), Bx.new, hR.keep ((Below.refl _ _).alloc (Nat.le_refl _) _)⟩ ?_
  clear B hX x0 x1 x2 hR hw2 RO
  generalize w2.heap.size = bg
  clear w2 w1
  rintro V ⟨B, hX, hG, hR⟩
  have FX : Hid (∀ W, Below V.heap.size V W → Below w.heap.size w W ∧ Bx W w.heap.size t.l (.slice a1 t.X.length c1) (.slice a2 t.ts.length c2) ∧ Bx W bg t.l (.slice (some ⟨gr, 0, none⟩) t.X.length (t.X.length + 9)) (.slice (some ⟨g, 0, none⟩) t.ts.length c)) := fun W BW => ⟨B.trans (BW.mono B.size), hX.keep BW, hG.keep BW⟩
  have hRm := hR
  obtain ⟨hRb, gz2, gz3⟩ := hR.parts
  have hpt := wt_parts t
  have hY := HI.out.2.2
  have hwt := HI.out.2.1
  have GT : Hid (∀ W, Below V.heap.size V W → Calls Try.prog 22 #[.agg #[.bool t.l, .slice (some ⟨gr, 0, none⟩) t.X.length (t.X.length + 9), .slice (some ⟨g, 0, none⟩) t.ts.length c]] W fun e w' => ∃ v, e = .returned (.tuple #[v, .int .i64 (wantE t.l t.X t.ts false)]) ∧ OwnB W.heap.size w' v (wantL t.l t.X t.ts) ∧ Below W.heap.size W w') := fun W BW => getText_any (by omega) (.inr rfl) W (hRb.keep BW)
  have RT : Hid (∀ W, Below V.heap.size V W → Calls Try.prog 23 #[.agg #[.bool t.l, .slice a1 t.X.length c1, .slice a2 t.ts.length c2]] W fun e w' => ∃ v, e = .returned (.tuple #[v, .int .i64 (wantE t.l t.X t.ts false)]) ∧ OwnB W.heap.size w' v (wantL t.l t.X t.ts) ∧ Below W.heap.size W w') := fun W BW => rGetText_any (by omega) HJ.out.2.1 HJ.out.1.2 W (HJ.out.2.2.1.keep (FX.out W BW).1)
  have GN : Hid (∀ W, Below V.heap.size V W → Calls Try.prog 25 #[.agg #[.bool t.l, .slice (some ⟨gr, 0, none⟩) t.X.length (t.X.length + 9), .slice (some ⟨g, 0, none⟩) t.ts.length c]] W fun e w' => e = .returned (.tuple #[.agg #[.int .u64 (l0 (numV t.l t.X t.ts 32)), .int .u64 (l1 (numV t.l t.X t.ts 32)), .int .u64 (l2 (numV t.l t.X t.ts 32)), .int .u64 (l3 (numV t.l t.X t.ts 32))], .int .i64 (numE t.l t.X t.ts 32)]) ∧ Below W.heap.size W w') := fun W BW => getNumber_any hY W (hRb.keep BW)
  have RN : Hid (∀ W, Below V.heap.size V W → Calls Try.prog 26 #[.agg #[.bool t.l, .slice a1 t.X.length c1, .slice a2 t.ts.length c2]] W fun e w' => e = .returned (.tuple #[.agg #[.int .u64 (l0 (numV t.l t.X t.ts 32)), .int .u64 (l1 (numV t.l t.X t.ts 32)), .int .u64 (l2 (numV t.l t.X t.ts 32)), .int .u64 (l3 (numV t.l t.X t.ts 32))], .int .i64 (numE t.l t.X t.ts 32)]) ∧ Below W.heap.size W w') := fun W BW => rGetNumber_any hY HJ.out.2.1 W (HJ.out.2.2.1.keep (FX.out W BW).1)
  have GS : Hid (∀ W, Below V.heap.size V W → Calls Try.prog 27 #[.agg #[.bool t.l, .slice (some ⟨gr, 0, none⟩) t.X.length (t.X.length + 9), .slice (some ⟨g, 0, none⟩) t.ts.length c]] W fun e w' => e = .returned (.tuple #[.int .u64 (l0 (numV t.l t.X t.ts 8)), .int .i64 (numE t.l t.X t.ts 8)]) ∧ Below W.heap.size W w') := fun W BW => getSmall_any hY W (hRb.keep BW)
  have RS : Hid (∀ W, Below V.heap.size V W → Calls Try.prog 28 #[.agg #[.bool t.l, .slice a1 t.X.length c1, .slice a2 t.ts.length c2]] W fun e w' => e = .returned (.tuple #[.int .u64 (l0 (numV t.l t.X t.ts 8)), .int .i64 (numE t.l t.X t.ts 8)]) ∧ Below W.heap.size W w') := fun W BW => rGetSmall_any hY HJ.out.2.1 W (HJ.out.2.2.1.keep (FX.out W BW).1)
  have GF : Hid (∀ W, Below V.heap.size V W → Calls Try.prog 29 #[.agg #[.bool t.l, .slice (some ⟨gr, 0, none⟩) t.X.length (t.X.length + 9), .slice (some ⟨g, 0, none⟩) t.ts.length c], .int .i64 n] W fun e w' => ∃ v, e = .returned (.tuple #[v, .int .i64 (fixE t.l t.X t.ts n)]) ∧ OwnB W.heap.size w' v (fixL t.l t.X t.ts n) ∧ Below W.heap.size W w') := fun W BW => getFixed_any n (by omega) (.inr rfl) W (hRb.keep BW)
  have RF : Hid (∀ W, Below V.heap.size V W → Calls Try.prog 30 #[.agg #[.bool t.l, .slice a1 t.X.length c1, .slice a2 t.ts.length c2], .int .i64 n] W fun e w' => ∃ v, e = .returned (.tuple #[v, .int .i64 (fixE t.l t.X t.ts n)]) ∧ OwnB W.heap.size w' v (fixL t.l t.X t.ts n) ∧ Below W.heap.size W w') := fun W BW => rGetFixed_any n (by omega) HJ.out.2.1 HJ.out.1.2 W (HJ.out.2.2.1.keep (FX.out W BW).1)
  have GL : Hid (∀ W, Below V.heap.size V W → Calls Try.prog 31 #[.agg #[.bool t.l, .slice (some ⟨gr, 0, none⟩) t.X.length (t.X.length + 9), .slice (some ⟨g, 0, none⟩) t.ts.length c]] W fun e w' => ∃ v ps, e = .returned (.tuple #[v, .int .i64 (wantE t.l t.X t.ts true)]) ∧ Oe W.heap.size w' v (listS t.l t.X t.ts) ps ∧ Below W.heap.size W w') := fun W BW => getList_any (by omega) gz2 W (gz3.keep BW)
  have RL : Hid (∀ W, Below V.heap.size V W → Calls Try.prog 32 #[.agg #[.bool t.l, .slice a1 t.X.length c1, .slice a2 t.ts.length c2]] W fun e w' => ∃ v ps, e = .returned (.tuple #[v, .int .i64 (wantE t.l t.X t.ts true)]) ∧ Oe W.heap.size w' v (listS t.l t.X t.ts) ps ∧ Below W.heap.size W w') := fun W BW => rGetList_any (by omega) HJ.out.2.2.2.2.1 W (HJ.out.2.2.2.2.2.keep (FX.out W BW).1)
  have ST : Hid (∀ W, Below V.heap.size V W → Calls Try.prog 33 #[.agg #[.bool t.l, .slice (some ⟨gr, 0, none⟩) t.X.length (t.X.length + 9), .slice (some ⟨g, 0, none⟩) t.ts.length c], .agg #[.bool t.l, .slice a1 t.X.length c1, .slice a2 t.ts.length c2]] W fun e w' => e = .returned (.bool true) ∧ Below W.heap.size W w') := fun W BW => stays_yes (by omega) W (hRm.keep BW) (It.keep (FX.out W BW).1 t HI.out.1)
  have SL : Hid ((wantL t.l t.X t.ts).length < 281474976710656 ∧ (fixL t.l t.X t.ts n).length < 281474976710656 ∧ wtS (listS t.l t.X t.ts) < 4194300) := ⟨by have := wantL_len (l := t.l) (X := t.X) (ts := t.ts); omega, by have := fixL_len (l := t.l) (X := t.X) (ts := t.ts) (n := n); omega, by have := listS_wt (l := t.l) (X := t.X) (ts := t.ts); omega⟩
  clear hR hRb gz2 gz3 hRm hX hG hpt hY hwt HI HJ B
  generalize wantE t.l t.X t.ts false = E1 at *
  generalize wantE t.l t.X t.ts true = E2 at *
  generalize fixE t.l t.X t.ts n = E3 at *
  generalize numE t.l t.X t.ts 32 = E4 at *
  generalize numE t.l t.X t.ts 8 = E5 at *
  generalize numV t.l t.X t.ts 32 = V4 at *
  generalize numV t.l t.X t.ts 8 = V5 at *
  generalize wantL t.l t.X t.ts = L1 at *
  generalize fixL t.l t.X t.ts n = L3 at *
  generalize listS t.l t.X t.ts = L2 at *
  generalize t.l = lt at *
  generalize t.X.length = XL at *
  generalize t.ts.length = TL at *
  clear t
  have BB : Below V.heap.size V V := Below.refl _ _
  obtain ⟨W0, eW⟩ : ∃ W0, W0 = V := ⟨_, rfl⟩
  rw [← eW]
  have BW : Below V.heap.size V W0 := by rw [eW]; exact BB
  clear BB eW
  obtain ⟨⟨x0, x1, x2⟩, y0, y1, y2⟩ := (FX.out _ BW).2
  refine wp_seq_k fun K h => ?_
  have H : Hid _ := h
  clear h
  go_wp2_with ((with_reducible refine (GT.out _ BW).mono ?_); rintro e1 W1 ⟨v1, rfl, O1, hw⟩; (obtain ⟨av1, gv1, cv1, rfl, _⟩ := O1.lies))
  refine H.out _ _ ?_
  clear H K
  clear x0 x1 x2 y0 y1 y2 GT
  replace BW := BW.trans (hw.mono BW.size)
  clear hw
  obtain ⟨⟨x0, x1, x2⟩, y0, y1, y2⟩ := (FX.out _ BW).2
  refine wp_seq_k fun K h => ?_
  have H : Hid _ := h
  clear h
  go_wp2_with ((with_reducible refine (RT.out _ BW).mono ?_); rintro e1 W2 ⟨v2, rfl, O2, hw⟩; (obtain ⟨av2, gv2, cv2, rfl, _⟩ := O2.lies))
  refine H.out _ _ ?_
  clear H K
  clear x0 x1 x2 y0 y1 y2 RT
  replace BW := BW.trans (hw.mono BW.size)
  replace O1 := O1.keep hw
  clear hw
  refine wp_seq_k fun K h => ?_
  have H : Hid _ := h
  clear h
  go_wp2_with (first
    | (go_at_call 24; (with_reducible refine (LN.out _ _).mono ?_); rintro e1 Y1 ⟨rfl, hy1⟩)
    | (go_at_call 18; (with_reducible refine (sameT_own SL.out.1 (O1.keep hy1) (O2.keep hy1)).mono ?_); rintro e2 W3 ⟨rfl, hy2⟩))
  refine H.out _ _ ?_
  clear H K
  replace BW := (BW.trans (hy1.mono BW.size)).trans (hy2.mono (BW.trans (hy1.mono BW.size)).size)
  clear hy1 hy2 O1 O2
  obtain ⟨⟨x0, x1, x2⟩, y0, y1, y2⟩ := (FX.out _ BW).2
  refine wp_seq_k fun K h => ?_
  have H : Hid _ := h
  clear h
  go_wp2_with ((with_reducible refine (GN.out _ BW).mono ?_); rintro e1 Z1 ⟨rfl, hw⟩)
  refine H.out _ _ ?_
  clear H K
  clear x0 x1 x2 y0 y1 y2 GN
  replace BW := BW.trans (hw.mono BW.size)
  refine wp_world (fun U => Below V.heap.size V U ∧ U.cell? ⟨Z1.heap.size, 0, none⟩ = some (.int .u64 (l0 V4)) ∧ U.cell? ⟨Z1.heap.size, 1, none⟩ = some (.int .u64 (l1 V4)) ∧ U.cell? ⟨Z1.heap.size, 2, none⟩ = some (.int .u64 (l2 V4)) ∧ U.cell? ⟨Z1.heap.size, 3, none⟩ = some (.int .u64 (l3 V4))) ⟨BW.alloc BW.size _, by simp [go_sem], by simp [go_sem], by simp [go_sem], by simp [go_sem]⟩ ?_
  clear BW hw
  generalize Z1.heap.size = bv
  clear Z1
  rintro Z1 ⟨BW, v0, v1, v2, v3⟩
  obtain ⟨⟨x0, x1, x2⟩, y0, y1, y2⟩ := (FX.out _ BW).2
  refine wp_seq_k fun K h => ?_
  have H : Hid _ := h
  clear h
  go_wp2_with ((with_reducible refine (RN.out _ BW).mono ?_); rintro e1 Z2 ⟨rfl, hw⟩)
  refine H.out _ _ ?_
  clear H K
  clear x0 x1 x2 y0 y1 y2 RN
  replace BW := BW.trans (hw.mono BW.size)
  have A1 := (Below.refl Z2.heap.size Z2).alloc (Nat.le_refl _) (.cells #[.int .u64 (l0 V4), .int .u64 (l1 V4), .int .u64 (l2 V4), .int .u64 (l3 V4)] 25)
  refine wp_world (fun U => Below V.heap.size V U ∧ (U.cell? ⟨bv, 0, none⟩ = some (.int .u64 (l0 V4)) ∧ U.cell? ⟨bv, 1, none⟩ = some (.int .u64 (l1 V4)) ∧ U.cell? ⟨bv, 2, none⟩ = some (.int .u64 (l2 V4)) ∧ U.cell? ⟨bv, 3, none⟩ = some (.int .u64 (l3 V4))) ∧ U.cell? ⟨Z2.heap.size, 0, none⟩ = some (.int .u64 (l0 V4)) ∧ U.cell? ⟨Z2.heap.size, 1, none⟩ = some (.int .u64 (l1 V4)) ∧ U.cell? ⟨Z2.heap.size, 2, none⟩ = some (.int .u64 (l2 V4)) ∧ U.cell? ⟨Z2.heap.size, 3, none⟩ = some (.int .u64 (l3 V4))) ⟨BW.alloc BW.size _, ⟨keepC A1 (keepC hw v0), keepC A1 (keepC hw v1), keepC A1 (keepC hw v2), keepC A1 (keepC hw v3)⟩, by simp [go_sem], by simp [go_sem], by simp [go_sem], by simp [go_sem]⟩ ?_
  clear BW hw v0 v1 v2 v3 A1 Z1
  generalize Z2.heap.size = bw
  clear Z2
  rintro Z1 ⟨BW, ⟨v0, v1, v2, v3⟩, u0, u1, u2, u3⟩
  have ey : ∀ w, (Op.equalIn 10000 25 (.agg #[.int .u64 (l0 V4), .int .u64 (l1 V4), .int .u64 (l2 V4), .int .u64 (l3 V4)]) (.agg #[.int .u64 (l0 V4), .int .u64 (l1 V4), .int .u64 (l2 V4), .int .u64 (l3 V4)])).run Try.prog w = .ok true w := fun w => eq_same (l0 V4) (l1 V4) (l2 V4) (l3 V4) w
  refine wp_seq_k fun K h => ?_
  have H : Hid _ := h
  clear h
  go_wp2_with (go_at_call 24; (with_reducible refine (LN.out _ _).mono ?_); rintro e1 Y1 ⟨rfl, hy1⟩; (have p0 := keepC hy1 v0); (have p1 := keepC hy1 v1); (have p2 := keepC hy1 v2); (have p3 := keepC hy1 v3); (have q0 := keepC hy1 u0); (have q1 := keepC hy1 u1); (have q2 := keepC hy1 u2); (have q3 := keepC hy1 u3); (clear v0 v1 v2 v3 u0 u1 u2 u3))
  refine H.out _ _ ?_
  clear H K
  replace BW := BW.trans (hy1.mono BW.size)
  clear p0 p1 p2 p3 q0 q1 q2 q3 hy1 ey Z1
  obtain ⟨⟨x0, x1, x2⟩, y0, y1, y2⟩ := (FX.out _ BW).2
  refine wp_seq_k fun K h => ?_
  have H : Hid _ := h
  clear h
  go_wp2_with ((with_reducible refine (GS.out _ BW).mono ?_); rintro e1 W11 ⟨rfl, hw⟩)
  refine H.out _ _ ?_
  clear H K
  clear x0 x1 x2 y0 y1 y2 GS
  replace BW := BW.trans (hw.mono BW.size)
  clear hw
  obtain ⟨⟨x0, x1, x2⟩, y0, y1, y2⟩ := (FX.out _ BW).2
  refine wp_seq_k fun K h => ?_
  have H : Hid _ := h
  clear h
  go_wp2_with ((with_reducible refine (RS.out _ BW).mono ?_); rintro e1 W12 ⟨rfl, hw⟩)
  refine H.out _ _ ?_
  clear H K
  clear x0 x1 x2 y0 y1 y2 RS
  replace BW := BW.trans (hw.mono BW.size)
  clear hw
  refine wp_seq_k fun K h => ?_
  have H : Hid _ := h
  clear h
  go_wp2_with (go_at_call 24; (with_reducible refine (LN.out _ _).mono ?_); rintro e1 Y1 ⟨rfl, hy1⟩)
  refine H.out _ _ ?_
  clear H K
  replace BW := BW.trans (hy1.mono BW.size)
  clear hy1
  obtain ⟨⟨x0, x1, x2⟩, y0, y1, y2⟩ := (FX.out _ BW).2
  refine wp_seq_k fun K h => ?_
  have H : Hid _ := h
  clear h
  go_wp2_with ((with_reducible refine (GF.out _ BW).mono ?_); rintro e1 W13 ⟨v1, rfl, O1, hw⟩; (obtain ⟨av1, gv1, cv1, rfl, _⟩ := O1.lies))
  refine H.out _ _ ?_
  clear H K
  clear x0 x1 x2 y0 y1 y2 GF
  replace BW := BW.trans (hw.mono BW.size)
  clear hw
  obtain ⟨⟨x0, x1, x2⟩, y0, y1, y2⟩ := (FX.out _ BW).2
  refine wp_seq_k fun K h => ?_
  have H : Hid _ := h
  clear h
  go_wp2_with ((with_reducible refine (RF.out _ BW).mono ?_); rintro e1 W14 ⟨v2, rfl, O2, hw⟩; (obtain ⟨av2, gv2, cv2, rfl, _⟩ := O2.lies))
  refine H.out _ _ ?_
  clear H K
  clear x0 x1 x2 y0 y1 y2 RF
  replace BW := BW.trans (hw.mono BW.size)
  replace O1 := O1.keep hw
  clear hw
  refine wp_seq_k fun K h => ?_
  have H : Hid _ := h
  clear h
  go_wp2_with (first
    | (go_at_call 24; (with_reducible refine (LN.out _ _).mono ?_); rintro e1 Y1 ⟨rfl, hy1⟩)
    | (go_at_call 18; (with_reducible refine (sameT_own SL.out.2.1 (O1.keep hy1) (O2.keep hy1)).mono ?_); rintro e2 W15 ⟨rfl, hy2⟩))
  refine H.out _ _ ?_
  clear H K
  replace BW := (BW.trans (hy1.mono BW.size)).trans (hy2.mono (BW.trans (hy1.mono BW.size)).size)
  clear hy1 hy2 O1 O2
  obtain ⟨⟨x0, x1, x2⟩, y0, y1, y2⟩ := (FX.out _ BW).2
  refine wp_seq_k fun K h => ?_
  have H : Hid _ := h
  clear h
  go_wp2_with ((with_reducible refine (GL.out _ BW).mono ?_); rintro e1 W16 ⟨v1, p1, rfl, O1, hw⟩)
  refine H.out _ _ ?_
  clear H K
  clear x0 x1 x2 y0 y1 y2 GL
  replace BW := BW.trans (hw.mono BW.size)
  clear hw
  obtain ⟨⟨x0, x1, x2⟩, y0, y1, y2⟩ := (FX.out _ BW).2
  refine wp_seq_k fun K h => ?_
  have H : Hid _ := h
  clear h
  go_wp2_with ((with_reducible refine (RL.out _ BW).mono ?_); rintro e1 W17 ⟨v2, p2, rfl, O2, hw⟩)
  refine H.out _ _ ?_
  clear H K
  clear x0 x1 x2 y0 y1 y2 RL
  replace BW := BW.trans (hw.mono BW.size)
  replace O1 := O1.keep hw
  clear hw
  obtain ⟨⟨x0, x1, x2⟩, y0, y1, y2⟩ := (FX.out _ BW).2
  go_wp2_with (first
    | (go_at_call 24; (with_reducible refine (LN.out _ _).mono ?_); rintro e1 Y1 ⟨rfl, hy1⟩; (have BY := BW.trans (hy1.mono BW.size)))
    | (go_at_call 20; (with_reducible refine (itemsT_own SL.out.2.2 (O1.keep hy1) (O2.keep hy1)).mono ?_); rintro e2 Y2 ⟨rfl, hy2⟩; (have BY2 := BY.trans (hy2.mono BY.size)); (clear x0 x1 x2 y0 y1 y2); (obtain ⟨⟨x0, x1, x2⟩, y0, y1, y2⟩ := (FX.out _ BY2).2))
    | (go_at_call 33; (with_reducible refine (ST.out _ BY2).mono ?_); rintro e3 Y3 ⟨rfl, hy3⟩))
  have BF := (FX.out Y3 (BY2.trans (hy3.mono BY2.size))).1
  simp [bodyPost, results, Try.results4, go_sem]
  exact BF
end Go.Proofs.Ytdjjphcfobbipaa
