import Derived.Test.YtjhljoanhlodeaaDoorKsG
/- Layer 2: one step of a script: the zero value, Reset, Copy. -/
namespace Go.Proofs.YtjhljoanhlodeaaDoor
open Go.RowKit Go.Sort
theorem Sp.zero {W : World} {t : TypeId} {M : List Value} (e : M = spV 0 (List.replicate 25 0) 0) : Sp (W.alloc (.cells M.toArray t)) W.heap.size 0 (List.replicate 25 0) 0 := Sp.of (by simp) (by rw [← e]; exact rng_newK) (Loose.new _ _ _ rfl)
set_option maxRecDepth 100000 in
set_option maxHeartbeats 16000000 in
theorem play_reset {w W : World} {ba : Nat} {vp vd : Nat → Value} {oP oD : Nat → Nat → Prop} {ev : Nat → Option (Int × List (BitVec 8))} {T : Nat} {kd on ot : Int} {a : Option Addr} {g p c : Nat} {Z : List (BitVec 8)} (hk : kd = 5) (n0 : -9223372036854775808 ≤ on) (n1 : on < 9223372036854775808) (t0 : -9223372036854775808 ≤ ot) (t1 : ot < 9223372036854775808) (hT : T + Z.length < 1073741824) (hc : Z.length ≤ c) (ha : At a g p Z) (hnc : a = none → c = 0) (hZ : Byo w g p Z) (tb1 : Tab w 2 turnsN) (tb2 : Lns w 0 marksN) (tb3 : Tab w 3 turnsN) (tb4 : Lns w 1 marksN) (h : St w W ba vp vd oP oD ev T) :
    Calls Tryd.prog 4 #[.pointer (some ⟨ba, 0, none⟩), .agg #[.int .i64 kd, .int .i64 on, .int .i64 ot, .slice a Z.length c]] W fun e w' => e = .returned (.bool true) ∧ ∃ vp vd oP oD ev, St w w' ba vp vd oP oD ev (T + Z.length) := by
  subst hk
  obtain ⟨i, ei⟩ : ∃ i, i = wh on := ⟨_, rfl⟩
  have i3 : i < 3 := by rw [ei]; exact wh_lt on
  have WH : Hid (∀ w', Calls Tryd.prog 9 #[.int .i64 on] w' fun e w2 => e = .returned (.int .i64 (i : Int)) ∧ w2 = w') := fun w' => by rw [ei]; exact which_any n0 n1 w'
  have WO : Hid (∀ w', Calls Tryd.prog 9 #[.int .i64 ot] w' fun e w2 => e = .returned (.int .i64 (wh ot : Int)) ∧ Below w'.heap.size w' w2) := fun w' => (which_any t0 t1 w').mono fun e w2 ⟨q1, q2⟩ => ⟨q1, by rw [q2]; exact Below.refl _ _⟩
  obtain ⟨zn, ezn⟩ : ∃ zn, Hid (zn = Z.length) := ⟨_, rfl⟩
  have HA : Hid (At a g p Z ∧ (a = none → c = 0) ∧ Byo w g p Z ∧ Z.length ≤ c ∧ T + Z.length < 1073741824) := ⟨ha, hnc, hZ, hc, hT⟩
  have TB : Hid (∀ W', Below w.heap.size w W' → Tab W' 2 turnsN ∧ Lns W' 0 marksN ∧ Tab W' 3 turnsN ∧ Lns W' 1 marksN) := fun W' B => ⟨tb1.keep B, tb2.keep B, tb3.keep B, tb4.keep B⟩
  have TL : Hid (2 < w.heap.size ∧ 0 < w.heap.size) := ⟨tb1.lt (by decide), tb2.lt (by decide)⟩
  rw [← ezn.out]
  clear ei n0 n1 t0 t1 hT hc ha hnc hZ tb1 tb2 tb3 tb4
  have i3' : (i : Int) < 3 := by omega
  have i0' : ¬ (i : Int) < 0 := by omega
  obtain ⟨v1, ev1⟩ : ∃ v1, Hid (v1 = vp i) := ⟨_, rfl⟩
  obtain ⟨v2, ev2⟩ : ∃ v2, Hid (v2 = vd i) := ⟨_, rfl⟩
  have onv : ([v1, v2] : List Value).toArray.all (·.oneCell') = true := all_oneCell_toArray (fun v hv => by
    rw [ev1.out, ev2.out] at hv
    simp only [List.mem_cons, List.not_mem_nil, or_false] at hv
    rcases hv with rfl | rfl
    · exact (h.pp i i3).cell1
    · exact (h.dd i i3).cell1)
  go_enter Tryd.func4, Tryd.ntmps4
  refine wp_seq_k fun K0 h0 => ?_
  have H0 : Hid _ := h0
  clear h0
  go_wp2
  refine H0.out _ _ ?_
  clear H0
  refine wp_world (fun W1 => St w W1 ba vp vd oP oD ev T ∧ W1.rangeAt W.heap.size 0 [.int .i64 5, .int .i64 on, .int .i64 ot, .slice a zn c] ∧ W.heap.size < W1.heap.size) ⟨h.keep ((Below.refl _ _).alloc (Nat.le_refl _) _), rng_newK, by simp⟩ ?_
  have NBO : Hid (¬ oP i W.heap.size ∧ ¬ oD i W.heap.size) := ⟨fun q => Nat.lt_irrefl _ ((h.pp i i3).lt q), fun q => Nat.lt_irrefl _ ((h.dd i i3).lt q)⟩
  clear h
  rintro w1 ⟨h1, R0, l1⟩
  generalize W.heap.size = bo at *
  have x0 : w1.cell? ⟨bo, 0, none⟩ = some (.int .i64 5) := R0 0 _ rfl
  have x1 : w1.cell? ⟨bo, 1, none⟩ = some (.int .i64 on) := R0 1 _ rfl
  have x2 : w1.cell? ⟨bo, 2, none⟩ = some (.int .i64 ot) := R0 2 _ rfl
  have x3 : w1.cell? ⟨bo, 3, none⟩ = some (.slice a zn c) := R0 3 _ rfl
  refine wp_seq_k fun K1 h1 => ?_
  have H1 : Hid _ := h1
  clear h1
  go_wp2_with fail
  with_reducible refine (WH.out _).mono ?_
  rintro e1 w2 ⟨rfl, rfl⟩
  go_wp2
  refine H1.out _ _ ?_
  clear H1
  have RB : w2.rangeAt ba (i * 2) [v1, v2] := by
    have := h1.cell i i3
    rw [← ev1.out, ← ev2.out] at this
    exact pair_range this.1 this.2
  refine wp_seq_k fun K2 h2 => ?_
  have H2 : Hid _ := h2
  clear h2
  go_wp2_with first | (refine wpList_load_mid rfl 26 _ rfl ba (i * 2) rfl [v1, v2] _ RB Tryd.underlying26 rfl size_pair ?_) | (refine wpList_put_newK rfl 26 _ _ rfl [v1, v2] rfl rfl rfl size_pair onv ?_; intro w3 hb3 RX LX lt3; simp only [Act.put])
  refine H2.out _ _ ?_
  clear H2
  have NBS : Hid (¬ oP i w2.heap.size ∧ ¬ oD i w2.heap.size) := ⟨fun q => Nat.lt_irrefl _ ((h1.pp i i3).lt q), fun q => Nat.lt_irrefl _ ((h1.dd i i3).lt q)⟩
  replace h1 := h1.keep hb3
  replace x0 := cell_keep hb3 x0
  replace x1 := cell_keep hb3 x1
  replace x2 := cell_keep hb3 x2
  replace x3 := cell_keep hb3 x3
  generalize w2.heap.size = bs at *
  have y0 : w3.cell? ⟨bs, 0, none⟩ = some v1 := RX 0 _ rfl
  have y1 : w3.cell? ⟨bs, 1, none⟩ = some v2 := RX 1 _ rfl
  have PP1 : Hid (PP w3 v1 (ev i) (oP i)) := by rw [ev1.out]; exact h1.pp i i3
  have DD1 : Hid (DD w3 w.heap.size v2 (ev i) (oD i)) := by rw [ev2.out]; exact h1.dd i i3
  have HS : Hid (St w w3 ba vp vd oP oD ev T) := h1
  clear hb3 RX LX lt3 R0 RB l1 h1 onv WH w2
  have C1 := P_reset PP1.out
  have BS : Hid (bs < w3.heap.size ∧ w.heap.size ≤ w3.heap.size) := ⟨World.block_lt_of_cell? _ _ y0, HS.out.below.size⟩
  go_wp2_with fail
  with_reducible refine C1.mono ?_
  rintro r1 w4 ⟨rfl, pp4, ch4⟩
  have NB : Hid (¬ oP i bs ∧ ¬ oD i bs) := NBS.out
  have e4 : w4.heap[bs]? = w3.heap[bs]? := ch4.block bs BS.out.1 NB.out.1
  replace y1 : w4.cell? ⟨bs, 1, none⟩ = some v2 := by rw [World.cell?_of_block (w := w3) (a := ⟨bs, 1, none⟩) e4]; exact y1
  have D4 : Hid (DD w4 w.heap.size v2 (ev i) (oD i)) := DD1.out.same (fun k hk => ch4.block k (DD1.out.lt hk) (fun hp => HS.out.apPD i i i3 i3 k hp hk))
  have P4 : Hid (PP w4 v1 (rsE (ev i)) (oP i) ∧ Chg (oP i) w3 w4) := ⟨pp4, ch4⟩
  have C2 := D_reset D4.out
  clear pp4 ch4 e4 C1 x0 x1 x2 x3 y0
  go_wp2_with fail
  with_reducible refine C2.mono ?_
  rintro r1 w5 ⟨rfl, o5, dd5, ch5, n5⟩
  have FI : Hid (∃ vp vd oP oD ev, St w w5 ba vp vd oP oD ev (T + zn)) := by
    have pp5 : PP w5 v1 (rsE (ev i)) (oP i) := P4.out.1.same (fun k hk => ch5.block k (P4.out.1.lt hk) (fun hd => HS.out.apPD i i i3 i3 k hk hd))
    have hc : Chg (fun k => oP i k ∨ oD i k) w3 w5 := (P4.out.2.mono fun k hk => .inl hk).trans ch5 (fun k hk => .inl (.inr hk))
    have nb : ¬ (oP i ba ∨ oD i ba) := fun q => q.elim (fun q => (HS.out.lowP i i3 ba q).2 rfl) (fun q => (HS.out.lowD i i3 ba q).2 rfl)
    have eb := hc.block ba HS.out.balt nb
    exact ⟨_, _, _, _, _, HS.out.upd (T' := T + zn) i3 hc (fun k hk => hk.elim .inl (fun q => .inr (.inl q))) (fun j hj => by
      have := HS.out.cell j hj
      rw [World.cell?_of_block (w := w3) (a := ⟨ba, j * 2, none⟩) eb, World.cell?_of_block (w := w3) (a := ⟨ba, j * 2 + 1, none⟩) eb, this.1, this.2]
      by_cases e : j = i
      · subst e; rw [upN_at, upN_at, ev1.out, ev2.out]; exact ⟨rfl, rfl⟩
      · rw [upN_ne _ _ e, upN_ne _ _ e]; exact ⟨rfl, rfl⟩) (fun j => frozen_same eb (HS.out.free j)) pp5 dd5 (fun k hk => .inl hk) (fun k hk => (n5 k hk).imp_right (fun q => Nat.le_trans P4.out.2.size q)) (fun k hk hk2 => by
        rcases n5 k hk2 with q | q
        · exact HS.out.apPD i i i3 i3 k hk q
        · have := P4.out.1.lt hk; omega) (Nat.le_add_right _ _) (by rw [lenE_rs]; exact Nat.zero_le _)⟩
  clear dd5 ch5 n5 P4 D4 C2 y1
  go_wp2
  simp [bodyPost, results, Tryd.results4, go_sem]
  exact FI.out
set_option maxRecDepth 100000 in
set_option maxHeartbeats 16000000 in
theorem play_copy {w W : World} {ba : Nat} {vp vd : Nat → Value} {oP oD : Nat → Nat → Prop} {ev : Nat → Option (Int × List (BitVec 8))} {T : Nat} {kd on ot : Int} {a : Option Addr} {g p c : Nat} {Z : List (BitVec 8)} (hk : kd = 6) (n0 : -9223372036854775808 ≤ on) (n1 : on < 9223372036854775808) (t0 : -9223372036854775808 ≤ ot) (t1 : ot < 9223372036854775808) (hT : T + Z.length < 1073741824) (hc : Z.length ≤ c) (ha : At a g p Z) (hnc : a = none → c = 0) (hZ : Byo w g p Z) (tb1 : Tab w 2 turnsN) (tb2 : Lns w 0 marksN) (tb3 : Tab w 3 turnsN) (tb4 : Lns w 1 marksN) (h : St w W ba vp vd oP oD ev T) :
    Calls Tryd.prog 4 #[.pointer (some ⟨ba, 0, none⟩), .agg #[.int .i64 kd, .int .i64 on, .int .i64 ot, .slice a Z.length c]] W fun e w' => e = .returned (.bool true) ∧ ∃ vp vd oP oD ev, St w w' ba vp vd oP oD ev (T + Z.length) := by
  subst hk
  obtain ⟨i, ei⟩ : ∃ i, i = wh on := ⟨_, rfl⟩
  have i3 : i < 3 := by rw [ei]; exact wh_lt on
  have WH : Hid (∀ w', Calls Tryd.prog 9 #[.int .i64 on] w' fun e w2 => e = .returned (.int .i64 (i : Int)) ∧ w2 = w') := fun w' => by rw [ei]; exact which_any n0 n1 w'
  have WO : Hid (∀ w', Calls Tryd.prog 9 #[.int .i64 ot] w' fun e w2 => e = .returned (.int .i64 (wh ot : Int)) ∧ Below w'.heap.size w' w2) := fun w' => (which_any t0 t1 w').mono fun e w2 ⟨q1, q2⟩ => ⟨q1, by rw [q2]; exact Below.refl _ _⟩
  obtain ⟨zn, ezn⟩ : ∃ zn, Hid (zn = Z.length) := ⟨_, rfl⟩
  have HA : Hid (At a g p Z ∧ (a = none → c = 0) ∧ Byo w g p Z ∧ Z.length ≤ c ∧ T + Z.length < 1073741824) := ⟨ha, hnc, hZ, hc, hT⟩
  have TB : Hid (∀ W', Below w.heap.size w W' → Tab W' 2 turnsN ∧ Lns W' 0 marksN ∧ Tab W' 3 turnsN ∧ Lns W' 1 marksN) := fun W' B => ⟨tb1.keep B, tb2.keep B, tb3.keep B, tb4.keep B⟩
  have TL : Hid (2 < w.heap.size ∧ 0 < w.heap.size) := ⟨tb1.lt (by decide), tb2.lt (by decide)⟩
  rw [← ezn.out]
  clear ei n0 n1 t0 t1 hT hc ha hnc hZ tb1 tb2 tb3 tb4
  have i3' : (i : Int) < 3 := by omega
  have i0' : ¬ (i : Int) < 0 := by omega
  obtain ⟨v1, ev1⟩ : ∃ v1, Hid (v1 = vp i) := ⟨_, rfl⟩
  obtain ⟨v2, ev2⟩ : ∃ v2, Hid (v2 = vd i) := ⟨_, rfl⟩
  have onv : ([v1, v2] : List Value).toArray.all (·.oneCell') = true := all_oneCell_toArray (fun v hv => by
    rw [ev1.out, ev2.out] at hv
    simp only [List.mem_cons, List.not_mem_nil, or_false] at hv
    rcases hv with rfl | rfl
    · exact (h.pp i i3).cell1
    · exact (h.dd i i3).cell1)
  go_enter Tryd.func4, Tryd.ntmps4
  refine wp_seq_k fun K0 h0 => ?_
  have H0 : Hid _ := h0
  clear h0
  go_wp2
  refine H0.out _ _ ?_
  clear H0
  refine wp_world (fun W1 => St w W1 ba vp vd oP oD ev T ∧ W1.rangeAt W.heap.size 0 [.int .i64 6, .int .i64 on, .int .i64 ot, .slice a zn c] ∧ W.heap.size < W1.heap.size) ⟨h.keep ((Below.refl _ _).alloc (Nat.le_refl _) _), rng_newK, by simp⟩ ?_
  have NBO : Hid (¬ oP i W.heap.size ∧ ¬ oD i W.heap.size) := ⟨fun q => Nat.lt_irrefl _ ((h.pp i i3).lt q), fun q => Nat.lt_irrefl _ ((h.dd i i3).lt q)⟩
  clear h
  rintro w1 ⟨h1, R0, l1⟩
  generalize W.heap.size = bo at *
  have x0 : w1.cell? ⟨bo, 0, none⟩ = some (.int .i64 6) := R0 0 _ rfl
  have x1 : w1.cell? ⟨bo, 1, none⟩ = some (.int .i64 on) := R0 1 _ rfl
  have x2 : w1.cell? ⟨bo, 2, none⟩ = some (.int .i64 ot) := R0 2 _ rfl
  have x3 : w1.cell? ⟨bo, 3, none⟩ = some (.slice a zn c) := R0 3 _ rfl
  refine wp_seq_k fun K1 h1 => ?_
  have H1 : Hid _ := h1
  clear h1
  go_wp2_with fail
  with_reducible refine (WH.out _).mono ?_
  rintro e1 w2 ⟨rfl, rfl⟩
  go_wp2
  refine H1.out _ _ ?_
  clear H1
  have RB : w2.rangeAt ba (i * 2) [v1, v2] := by
    have := h1.cell i i3
    rw [← ev1.out, ← ev2.out] at this
    exact pair_range this.1 this.2
  refine wp_seq_k fun K2 h2 => ?_
  have H2 : Hid _ := h2
  clear h2
  go_wp2_with first | (refine wpList_load_mid rfl 26 _ rfl ba (i * 2) rfl [v1, v2] _ RB Tryd.underlying26 rfl size_pair ?_) | (refine wpList_put_newK rfl 26 _ _ rfl [v1, v2] rfl rfl rfl size_pair onv ?_; intro w3 hb3 RX LX lt3; simp only [Act.put])
  refine H2.out _ _ ?_
  clear H2
  have NBS : Hid (¬ oP i w2.heap.size ∧ ¬ oD i w2.heap.size) := ⟨fun q => Nat.lt_irrefl _ ((h1.pp i i3).lt q), fun q => Nat.lt_irrefl _ ((h1.dd i i3).lt q)⟩
  replace h1 := h1.keep hb3
  replace x0 := cell_keep hb3 x0
  replace x1 := cell_keep hb3 x1
  replace x2 := cell_keep hb3 x2
  replace x3 := cell_keep hb3 x3
  generalize w2.heap.size = bs at *
  have y0 : w3.cell? ⟨bs, 0, none⟩ = some v1 := RX 0 _ rfl
  have y1 : w3.cell? ⟨bs, 1, none⟩ = some v2 := RX 1 _ rfl
  have PP1 : Hid (PP w3 v1 (ev i) (oP i)) := by rw [ev1.out]; exact h1.pp i i3
  have DD1 : Hid (DD w3 w.heap.size v2 (ev i) (oD i)) := by rw [ev2.out]; exact h1.dd i i3
  have HS : Hid (St w w3 ba vp vd oP oD ev T) := h1
  clear hb3 RX LX lt3 R0 RB l1 h1 onv WH w2
  have C1 := P_copy PP1.out
  have C2 : Hid (∀ W', Below w3.heap.size w3 W' → Calls Tryd.prog 20 #[v2] W' fun r w' => ∃ vd' o', r = .returned vd' ∧ DD w' w.heap.size vd' (ev i) o' ∧ (∀ k, o' k → W'.heap.size ≤ k) ∧ Below W'.heap.size W' w') := fun W' hb => D_copy (DD1.out.same (fun k hk => hb.block k (DD1.out.lt hk))) (Nat.le_trans HS.out.below.size hb.size) (Nat.lt_of_le_of_lt (HS.out.len i i3) (by have := HA.out; omega))
  have HL : Hid (lenE (ev i) ≤ T) := HS.out.len i i3
  generalize ev i = E at PP1 DD1 C1 C2 HL
  go_wp2_with fail
  with_reducible refine C1.mono ?_
  rintro r1 w4 ⟨u1, o1, rfl, pp4, n4, hb4⟩
  replace x2 := cell_keep hb4 x2
  replace y1 := cell_keep hb4 y1
  have B4 : Hid (Below w3.heap.size w3 w4) := hb4
  have P4 : Hid (PP w4 u1 E o1 ∧ ∀ k, o1 k → w3.heap.size ≤ k) := ⟨pp4, n4⟩
  clear hb4 pp4 n4 C1 x0 x1 x3 y0
  go_wp2_with fail
  with_reducible refine (C2.out _ B4.out).mono ?_
  rintro r1 w5 ⟨u2, o2, rfl, dd5, n5, hb5⟩
  replace x2 := cell_keep hb5 x2
  have D5 : Hid (DD w5 w.heap.size u2 E o2 ∧ ∀ k, o2 k → w4.heap.size ≤ k) := ⟨dd5, n5⟩
  have B5 : Hid (Below w4.heap.size w4 w5) := hb5
  have P5 : Hid (PP w5 u1 E o1) := P4.out.1.same (fun k hk => hb5.block k (P4.out.1.lt hk))
  clear hb5 dd5 n5 C2 y1
  obtain ⟨j, ej⟩ : ∃ j, j = wh ot := ⟨_, rfl⟩
  have j3 : j < 3 := by rw [ej]; exact wh_lt ot
  rw [← ej] at WO
  clear ej
  have j3' : (j : Int) < 3 := by omega
  have j0' : ¬ (j : Int) < 0 := by omega
  have FI : Hid (∀ w6 W2, Below w5.heap.size w5 w6 → W2 = w6.setCells ba (j * 2) [u1, u2] → ∃ vp vd oP oD ev, St w W2 ba vp vd oP oD ev (T + zn)) := fun w6 W2 hb6 e => by
    subst e
    have B6 : Below w3.heap.size w3 w6 := (B4.out.trans (B5.out.mono B4.out.size)).trans (hb6.mono (Nat.le_trans B4.out.size B5.out.size))
    exact ⟨_, _, _, _, _, (HS.out.put j3 B6 (P5.out.same (fun k hk => hb6.block k (P5.out.lt hk))) (D5.out.1.same (fun k hk => hb6.block k (D5.out.1.lt hk))) P4.out.2 (fun k hk => Nat.le_trans B4.out.size (D5.out.2 k hk)) (fun k hk hk2 => by have := P4.out.1.lt hk; have := D5.out.2 k hk2; omega) HL.out).more (Nat.le_add_right _ _)⟩
  have TR0 : Hid (∀ w6, Below w5.heap.size w5 w6 → w6.there ba (j * 2) 2) := fun w6 hb6 => (HS.out.keep ((B4.out.trans (B5.out.mono B4.out.size)).trans (hb6.mono (Nat.le_trans B4.out.size B5.out.size)))).there j3
  have r2 := fun d os => cell_regrown x2 d os
  have oo : (#[u1, u2] : Array Value).all (·.oneCell') = true := all_oneCell_toArray (cs := [u1, u2]) (fun v hv => by
    simp only [List.mem_cons, List.not_mem_nil, or_false] at hv
    rcases hv with rfl | rfl
    · exact P5.out.cell1
    · exact D5.out.1.cell1)
  rcases P5.out.one with ⟨rfl, e1⟩ | ⟨b1, rfl, e1⟩
  · rcases D5.out.1.one with ⟨rfl, _⟩ | ⟨b2, rfl, e2⟩
    rotate_left
    · exact absurd e1 e2
    clear HS PP1 DD1
    go_wp2_with fail
    (try simp only [Act.put])
    refine below_tail 9 (by kernel_rfl) (by kernel_rfl) ?_
    simp only [List.take_succ_cons, List.take_zero, List.drop_succ_cons, List.drop_zero]
    repeat
      first
        | go_big_quiet_skip
        | (go_big_quiet_want; go_big_quiet_op; go_big_quiet_on)
        | (go_big_quiet_want
           go_big_quiet_op
           apply Exists.intro
           refine ⟨fun p => ?_, ?_⟩
           · (first | (go_at_call 9; with_reducible exact Calls.regrown_of (WO.out _)))
           go_big_quiet_on)
    refine wpQuiet_nil ?_
    rintro w6 ⟨q, rfl⟩
    have hb6 : Hid (Below w5.heap.size w5 (grow (redrawn w5 q.d) q.os)) := below_regrown w5 q.d q.os
    generalize grow (redrawn w5 q.d) q.os = w6 at *
    have TR := TR0.out w6 hb6.out
    clear r2 x2
    go_wp2_with (refine wpList_store_mid rfl 26 _ _ rfl ba (j * 2) #[.pointer none, .pointer none] rfl rfl TR size_pair oo ?_; simp only [Act.put])
    simp [bodyPost, results, Tryd.results4, go_sem]
    exact FI.out _ _ hb6.out rfl
  · rcases D5.out.1.one with ⟨rfl, e2⟩ | ⟨b2, rfl, e2⟩
    · exact absurd e2 e1
    clear HS PP1 DD1
    go_wp2_with fail
    (try simp only [Act.put])
    refine below_tail 9 (by kernel_rfl) (by kernel_rfl) ?_
    simp only [List.take_succ_cons, List.take_zero, List.drop_succ_cons, List.drop_zero]
    repeat
      first
        | go_big_quiet_skip
        | (go_big_quiet_want; go_big_quiet_op; go_big_quiet_on)
        | (go_big_quiet_want
           go_big_quiet_op
           apply Exists.intro
           refine ⟨fun p => ?_, ?_⟩
           · (first | (go_at_call 9; with_reducible exact Calls.regrown_of (WO.out _)))
           go_big_quiet_on)
    refine wpQuiet_nil ?_
    rintro w6 ⟨q, rfl⟩
    have hb6 : Hid (Below w5.heap.size w5 (grow (redrawn w5 q.d) q.os)) := below_regrown w5 q.d q.os
    generalize grow (redrawn w5 q.d) q.os = w6 at *
    have TR := TR0.out w6 hb6.out
    clear r2 x2
    go_wp2_with (refine wpList_store_mid rfl 26 _ _ rfl ba (j * 2) #[.pointer (some ⟨b1, 0, none⟩), .pointer (some ⟨b2, 0, none⟩)] rfl rfl TR size_pair oo ?_; simp only [Act.put])
    simp [bodyPost, results, Tryd.results4, go_sem]
    exact FI.out _ _ hb6.out rfl
end Go.Proofs.YtjhljoanhlodeaaDoor
