import Derived.Test.YtjhljoanhlodeaaDoorKsG
/- Layer 2: one step of a script: Write. -/
namespace Go.Proofs.YtjhljoanhlodeaaDoor
open Go.RowKit Go.Sort
theorem Chg.cell {S : Nat → Prop} {w w' : World} (h : Chg S w w') {b j : Nat} {v : Value} (hv : w.cell? ⟨b, j, none⟩ = some v) (n : ¬ S b) : w'.cell? ⟨b, j, none⟩ = some v := by
  rw [World.cell?_of_block (w := w) (a := ⟨b, j, none⟩) (h.block b (World.block_lt_of_cell? _ _ hv) n)]; exact hv
theorem Byo.front {W : World} {b o : Nat} {X Z : List (BitVec 8)} (h : Byo W b o (X ++ Z)) : Byo W b o X := fun i hi => by
  have := h i (by rw [List.length_append]; omega)
  rw [this, List.getD, List.getElem?_append_left hi, ← List.getD]
set_option maxRecDepth 100000 in
set_option maxHeartbeats 16000000 in
theorem play_write {w W : World} {ba : Nat} {vp vd : Nat → Value} {oP oD : Nat → Nat → Prop} {ev : Nat → Option (Int × List (BitVec 8))} {T : Nat} {kd on ot : Int} {a : Option Addr} {g p c : Nat} {Z : List (BitVec 8)} (hk : kd = 2) (n0 : -9223372036854775808 ≤ on) (n1 : on < 9223372036854775808) (t0 : -9223372036854775808 ≤ ot) (t1 : ot < 9223372036854775808) (hT : T + Z.length < 1073741824) (hc : Z.length ≤ c) (ha : At a g p Z) (hnc : a = none → c = 0) (hZ : Byo w g p Z) (tb1 : Tab w 2 turnsN) (tb2 : Lns w 0 marksN) (tb3 : Tab w 3 turnsN) (tb4 : Lns w 1 marksN) (h : St w W ba vp vd oP oD ev T) :
    Calls Tryd.prog 4 #[.pointer (some ⟨ba, 0, none⟩), .agg #[.int .i64 kd, .int .i64 on, .int .i64 ot, .slice a Z.length c]] W fun e w' => e = .returned (.bool true) ∧ ∃ vp vd oP oD ev, St w w' ba vp vd oP oD ev (T + Z.length) := by
  subst hk
  obtain ⟨i, ei⟩ : ∃ i, i = wh on := ⟨_, rfl⟩
  have i3 : i < 3 := by rw [ei]; exact wh_lt on
  have WH : Hid (∀ w', Calls Tryd.prog 9 #[.int .i64 on] w' fun e w2 => e = .returned (.int .i64 (i : Int)) ∧ w2 = w') := fun w' => by rw [ei]; exact which_any n0 n1 w'
  have WO : Hid (∀ w', Calls Tryd.prog 9 #[.int .i64 ot] w' fun e w2 => e = .returned (.int .i64 (wh ot : Int)) ∧ Below w'.heap.size w' w2) := fun w' => (which_any t0 t1 w').mono fun e w2 ⟨q1, q2⟩ => ⟨q1, by rw [q2]; exact Below.refl _ _⟩
  obtain ⟨zn, ezn⟩ : ∃ zn, Hid (zn = Z.length) := ⟨_, rfl⟩
  have HA : Hid (At a g p Z ∧ (a = none → c = 0) ∧ Byo w g p Z ∧ Z.length ≤ c ∧ T + Z.length < 1073741824) := ⟨ha, hnc, hZ, hc, hT⟩
  have TB : Hid (∀ W', Below w.heap.size w W' → Tab W' 2 turnsN ∧ Lns W' 0 marksN ∧ Tab W' 3 turnsN ∧ Lns W' 1 marksN) := fun W' B => ⟨tb1.keep B, tb2.keep B, tb3.keep B, tb4.keep B⟩
  have TL : Hid (2 < w.heap.size ∧ 0 < w.heap.size) := ⟨tb1.lt (by decide), tb2.lt (by decide)⟩
  rw [← ezn.out]
  clear ei n0 n1 t0 t1 hT hc ha hnc hZ tb1 tb2 tb3 tb4
  have i3' : (i : Int) < 3 := by omega
  have i0' : ¬ (i : Int) < 0 := by omega
  obtain ⟨v1, ev1⟩ : ∃ v1, Hid (v1 = vp i) := ⟨_, rfl⟩
  obtain ⟨v2, ev2⟩ : ∃ v2, Hid (v2 = vd i) := ⟨_, rfl⟩
  have onv : ([v1, v2] : List Value).toArray.all (·.oneCell') = true := all_oneCell_toArray (fun v hv => by
    rw [ev1.out, ev2.out] at hv
    simp only [List.mem_cons, List.not_mem_nil, or_false] at hv
    rcases hv with rfl | rfl
    · exact (h.pp i i3).cell1
    · exact (h.dd i i3).cell1)
  go_enter Tryd.func4, Tryd.ntmps4
  refine wp_seq_k fun K0 h0 => ?_
  have H0 : Hid _ := h0
  clear h0
  go_wp2
  refine H0.out _ _ ?_
  clear H0
  refine wp_world (fun W1 => St w W1 ba vp vd oP oD ev T ∧ W1.rangeAt W.heap.size 0 [.int .i64 2, .int .i64 on, .int .i64 ot, .slice a zn c] ∧ W.heap.size < W1.heap.size) ⟨h.keep ((Below.refl _ _).alloc (Nat.le_refl _) _), rng_newK, by simp⟩ ?_
  have NBO : Hid (¬ oP i W.heap.size ∧ ¬ oD i W.heap.size) := ⟨fun q => Nat.lt_irrefl _ ((h.pp i i3).lt q), fun q => Nat.lt_irrefl _ ((h.dd i i3).lt q)⟩
  clear h
  rintro w1 ⟨h1, R0, l1⟩
  generalize W.heap.size = bo at *
  have x0 : w1.cell? ⟨bo, 0, none⟩ = some (.int .i64 2) := R0 0 _ rfl
  have x1 : w1.cell? ⟨bo, 1, none⟩ = some (.int .i64 on) := R0 1 _ rfl
  have x2 : w1.cell? ⟨bo, 2, none⟩ = some (.int .i64 ot) := R0 2 _ rfl
  have x3 : w1.cell? ⟨bo, 3, none⟩ = some (.slice a zn c) := R0 3 _ rfl
  refine wp_seq_k fun K1 h1 => ?_
  have H1 : Hid _ := h1
  clear h1
  go_wp2_with fail
  with_reducible refine (WH.out _).mono ?_
  rintro e1 w2 ⟨rfl, rfl⟩
  go_wp2
  refine H1.out _ _ ?_
  clear H1
  have RB : w2.rangeAt ba (i * 2) [v1, v2] := by
    have := h1.cell i i3
    rw [← ev1.out, ← ev2.out] at this
    exact pair_range this.1 this.2
  refine wp_seq_k fun K2 h2 => ?_
  have H2 : Hid _ := h2
  clear h2
  go_wp2_with first | (refine wpList_load_mid rfl 26 _ rfl ba (i * 2) rfl [v1, v2] _ RB Tryd.underlying26 rfl size_pair ?_) | (refine wpList_put_newK rfl 26 _ _ rfl [v1, v2] rfl rfl rfl size_pair onv ?_; intro w3 hb3 RX LX lt3; simp only [Act.put])
  refine H2.out _ _ ?_
  clear H2
  have NBS : Hid (¬ oP i w2.heap.size ∧ ¬ oD i w2.heap.size) := ⟨fun q => Nat.lt_irrefl _ ((h1.pp i i3).lt q), fun q => Nat.lt_irrefl _ ((h1.dd i i3).lt q)⟩
  replace h1 := h1.keep hb3
  replace x0 := cell_keep hb3 x0
  replace x1 := cell_keep hb3 x1
  replace x2 := cell_keep hb3 x2
  replace x3 := cell_keep hb3 x3
  generalize w2.heap.size = bs at *
  have y0 : w3.cell? ⟨bs, 0, none⟩ = some v1 := RX 0 _ rfl
  have y1 : w3.cell? ⟨bs, 1, none⟩ = some v2 := RX 1 _ rfl
  have PP1 : Hid (PP w3 v1 (ev i) (oP i)) := by rw [ev1.out]; exact h1.pp i i3
  have DD1 : Hid (DD w3 w.heap.size v2 (ev i) (oD i)) := by rw [ev2.out]; exact h1.dd i i3
  have HS : Hid (St w w3 ba vp vd oP oD ev T) := h1
  clear hb3 RX LX lt3 R0 RB l1 h1 onv WH w2
  have B3 : Hid (Below w.heap.size w w3) := HS.out.below
  have LE := lent_any (cd := c) (by have := HA.out.2.2.2.2; omega) HA.out.1 w3 (HA.out.2.2.1.keep B3.out)
  rw [← ezn.out] at LE
  have BL : Hid (bs < w3.heap.size ∧ bo < w3.heap.size) := ⟨World.block_lt_of_cell? _ _ y0, World.block_lt_of_cell? _ _ x0⟩
  go_wp2_with fail
  with_reducible refine LE.mono ?_
  rintro r1 w4 ⟨gl, rfl, gl0, R8, hb4⟩
  have H4 : Hid (Below w3.heap.size w3 w4 ∧ Row8 w4 gl (Z ++ List.replicate 200 195) ∧ w3.heap.size ≤ gl ∧ gl < w4.heap.size) := ⟨hb4, R8, gl0, by
    have := R8.1 0 (by simp); exact World.block_lt_of_cell? w4 ⟨gl, 0 + 0, none⟩ this⟩
  have P4 : Hid (PP w4 v1 (ev i) (oP i)) := PP1.out.same (fun k hk => hb4.block k (PP1.out.lt hk))
  have D4 : Hid (DD w4 w.heap.size v2 (ev i) (oD i)) := DD1.out.same (fun k hk => hb4.block k (DD1.out.lt hk))
  have B4 : Hid (Below w.heap.size w w4) := B3.out.trans (hb4.mono B3.out.size)
  replace y0 := cell_keep hb4 y0
  replace y1 := cell_keep hb4 y1
  replace x3 := cell_keep hb4 x3
  have ng : Hid (¬ oP i gl ∧ ¬ oD i gl) := ⟨fun q => by have := PP1.out.lt q; omega, fun q => by have := DD1.out.lt q; omega⟩
  have LT' : lenE (ev i) + Z.length < 1073741824 := by have := HS.out.len i i3; have := HA.out.2.2.2.2; omega
  have LT : Hid (lenE (ev i) + Z.length < 1073741824) := LT'
  clear LT'
  have PW := P_write (c := Z.length + 200) P4.out LT.out (Nat.le_add_right _ _) (.inr rfl) ng.out.1 (fun q => by have := (HS.out.lowP i i3 _ q).1; have := TL.out.1; omega) (fun q => by have := (HS.out.lowP i i3 _ q).1; have := TL.out.2; omega) (H4.out.2.1.1.front) (TB.out _ B4.out).1 (TB.out _ B4.out).2.1
  rw [← ezn.out] at PW
  clear hb4 R8 gl0 LE x0 x1 x2
  go_wp2_with fail
  with_reducible refine PW.mono ?_
  rintro r1 w5 ⟨rfl, pp5, ch5⟩
  replace y1 := ch5.cell y1 NBS.out.1
  replace x3 := ch5.cell x3 NBO.out.1
  have P5 : Hid (PP w5 v1 (wrE Z (ev i)) (oP i) ∧ Chg (oP i) w4 w5) := ⟨pp5, ch5⟩
  have D5 : Hid (DD w5 w.heap.size v2 (ev i) (oD i)) := D4.out.same (fun k hk => ch5.block k (D4.out.lt hk) (fun hp => HS.out.apPD i i i3 i3 k hp hk))
  have B5 : Hid (Below w.heap.size w w5) := B4.out.trans (ch5.below B4.out.size (fun k hk => (HS.out.lowP i i3 k hk).1))
  have R5 : Hid (Byo w5 gl 0 (Z ++ List.replicate 200 195) ∧ Loose w5 gl (Z ++ List.replicate 200 195).length) := by
    have e := ch5.block gl H4.out.2.2.2 ng.out.1
    exact ⟨H4.out.2.1.1.same e, fun j hj => frozen_same e (H4.out.2.1.2 j hj)⟩
  have DW := D_write (c := c) D5.out B5.out.size LT.out HA.out.1 HA.out.2.1 (HA.out.2.2.1.keep B5.out)
  rw [← ezn.out] at DW
  clear pp5 ch5 PW y0
  go_wp2_with fail
  with_reducible refine DW.mono ?_
  rintro r1 w6 ⟨rfl, o6, dd6, ch6, n6⟩
  replace x3 := ch6.cell x3 NBO.out.2
  have D6 : Hid (DD w6 w.heap.size v2 (wrE Z (ev i)) o6 ∧ Chg (oD i) w5 w6 ∧ ∀ k, o6 k → oD i k ∨ w5.heap.size ≤ k) := ⟨dd6, ch6, n6⟩
  have P6 : Hid (PP w6 v1 (wrE Z (ev i)) (oP i)) := P5.out.1.same (fun k hk => ch6.block k (P5.out.1.lt hk) (fun hd => HS.out.apPD i i i3 i3 k hk hd))
  have B6 : Hid (Below w.heap.size w w6) := B5.out.trans (ch6.below B5.out.size (fun k hk => (HS.out.lowD i i3 k hk).1))
  have g5 : Hid (gl < w5.heap.size) := Nat.lt_of_lt_of_le H4.out.2.2.2 P5.out.2.size
  have R6 : Hid (Byo w6 gl 0 (Z ++ List.replicate 200 195) ∧ Loose w6 gl (Z ++ List.replicate 200 195).length) := by
    have e := ch6.block gl g5.out ng.out.2
    exact ⟨R5.out.1.same e, fun j hj => frozen_same e (R5.out.2 j hj)⟩
  have SL := still_any (cd := c) (by have := HA.out.2.2.2.2; omega) HA.out.1 w6 R6.out.1 (HA.out.2.2.1.keep B6.out)
  rw [← ezn.out] at SL
  clear dd6 ch6 n6 DW y1
  go_wp2_with fail
  with_reducible refine SL.mono ?_
  rintro r1 w7 ⟨rfl, hb7⟩
  have H7 : Hid (Below w6.heap.size w6 w7) := hb7
  have g6 : Hid (gl < w6.heap.size) := Nat.lt_of_lt_of_le g5.out D6.out.2.1.size
  have R7 : Hid (Byo w7 gl 0 (Z ++ List.replicate 200 195) ∧ Loose w7 gl (Z ++ List.replicate 200 195).length) := ⟨R6.out.1.keep hb7, R6.out.2.keep hb7 g6.out⟩
  clear hb7 SL x3
  have y119 : Y 119 = 119 := by rw [Y_eq]; rfl
  have zb : (zn : Int) < 1073741824 := by have := HA.out.2.2.2.2; have := ezn.out; omega
  have FI : Hid (∀ wF, Off gl w7 wF → ∃ vp vd oP oD ev, St w wF ba vp vd oP oD ev (T + zn)) := fun wF hof => by
    have ppF : PP wF v1 (wrE Z (ev i)) (oP i) := P6.out.same (fun k hk => (hof.block k (Nat.lt_of_lt_of_le (P6.out.lt hk) H7.out.size) (fun e => ng.out.1 (by rw [← e]; exact hk))).trans (H7.out.block k (P6.out.lt hk)))
    have ddF : DD wF w.heap.size v2 (wrE Z (ev i)) o6 := D6.out.1.same (fun k hk => (hof.block k (Nat.lt_of_lt_of_le (D6.out.1.lt hk) H7.out.size) (fun e => by
      rcases D6.out.2.2 k hk with q | q
      · exact ng.out.2 (by rw [← e]; exact q)
      · have := g5.out; omega)).trans (H7.out.block k (D6.out.1.lt hk)))
    have s4 := H4.out.1.size
    have s5 := P5.out.2.size
    have hc : Chg (fun k => oP i k ∨ oD i k ∨ w3.heap.size ≤ k) w3 wF := (((((Chg.of_below (S := fun k => oP i k ∨ oD i k ∨ w3.heap.size ≤ k) H4.out.1).trans P5.out.2 (fun k hk => .inl (.inl hk))).trans D6.out.2.1 (fun k hk => .inl (.inr (.inl hk)))).trans (Chg.of_below (S := fun _ => False) H7.out) (fun k hk => hk.elim))).trans (Chg.of_off hof) (fun k hk => .inr (by rw [hk]; exact H4.out.2.2.1))
    have nb : ¬ (oP i ba ∨ oD i ba ∨ w3.heap.size ≤ ba) := fun q => by
      rcases q with q | q | q
      · exact (HS.out.lowP i i3 ba q).2 rfl
      · exact (HS.out.lowD i i3 ba q).2 rfl
      · have := HS.out.balt; omega
    have eb := hc.block ba HS.out.balt nb
    have LL := lenE_wr Z (ev i)
    have LI := HS.out.len i i3
    have EZ := ezn.out
    exact ⟨_, _, _, _, _, HS.out.upd (T' := T + zn) i3 hc (fun k hk => by
      rcases hk with q | q | q
      · exact .inl q
      · exact .inr (.inl q)
      · exact .inr (.inr (.inr q))) (fun j hj => by
      have := HS.out.cell j hj
      rw [World.cell?_of_block (w := w3) (a := ⟨ba, j * 2, none⟩) eb, World.cell?_of_block (w := w3) (a := ⟨ba, j * 2 + 1, none⟩) eb, this.1, this.2]
      by_cases e : j = i
      · subst e; rw [upN_at, upN_at, ev1.out, ev2.out]; exact ⟨rfl, rfl⟩
      · rw [upN_ne _ _ e, upN_ne _ _ e]; exact ⟨rfl, rfl⟩) (fun j => frozen_same eb (HS.out.free j)) ppF ddF (fun k hk => .inl hk) (fun k hk => (D6.out.2.2 k hk).imp_right (fun q => by omega)) (fun k hk hk2 => by
        rcases D6.out.2.2 k hk2 with q | q
        · exact HS.out.apPD i i i3 i3 k hk q
        · have := PP1.out.lt hk; omega) (Nat.le_add_right _ _) (by omega)⟩
  go_wp2_with fail
  go_loopg [13] zn (fun k iv wr => ∃ j : Nat, k = zn - j ∧ j ≤ zn ∧ iv = .int .i64 (j : Int) ∧ (∃ L, L.length = zn + 200 ∧ Row8 wr gl L) ∧ Off gl w7 wr)
  case atStart => exact ⟨0, rfl, Nat.zero_le _, rfl, ⟨_, by rw [List.length_append, List.length_replicate, ← ezn.out], R7.out⟩, Off.refl _ _⟩
  case round =>
    obtain ⟨j, hk, hj, rfl, ⟨L, lL, R8⟩, hof⟩ := hrel
    have HK : Hid (gk = zn - j ∧ j ≤ zn) := ⟨hk, hj⟩
    clear hk
    by_cases h8 : j = zn
    · subst h8
      have HF := FI.out wr hof
      have HG : Hid (∃ vp vd oP oD ev, St w wr ba vp vd oP oD ev (T + j)) := HF
      clear HF R8 hof
      go_wp2
      simp [bodyPost, results, Tryd.results4, go_sem]
      exact HG.out
    · have hlt : (j : Int) < (zn : Int) := by omega
      have g1 := R8.1 j (by omega)
      have f1 := R8.2 j (by omega)
      rw [Nat.zero_add] at g1
      have NX : Hid ((∃ L, L.length = zn + 200 ∧ Row8 (wr.setCell ⟨gl, j, none⟩ (.int .u8 119)) gl L) ∧ Off gl w7 (wr.setCell ⟨gl, j, none⟩ (.int .u8 119))) := by
        have := R8.set j (by omega) 119
        rw [y119] at this
        exact ⟨⟨_, by rw [List.length_set, lL], this⟩, hof.setCell _⟩
      generalize Y (L.getD j 0) = yv at *
      clear R8 hof lL h8
      go_wp2
      go_roundg (zn - (j + 1))
      case measure => have := HK.out; omega
      case rel => exact ⟨j + 1, rfl, by have := HK.out; omega, by go_num, NX.out⟩
end Go.Proofs.YtjhljoanhlodeaaDoor
