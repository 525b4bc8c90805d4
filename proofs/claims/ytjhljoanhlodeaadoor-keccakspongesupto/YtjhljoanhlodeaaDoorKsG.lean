import Derived.Test.YtjhljoanhlodeaaDoorKsF
import Derived.Test.YtjhljoanhlodeaaDoorQTail
/- Layer 2: one step of a script, further. -/
namespace Go.Proofs.YtjhljoanhlodeaaDoor
open Go.RowKit Go.Sort
theorem range_pair {W : World} {b o : Nat} {v1 v2 : Value} (h : W.rangeAt b o [v1, v2]) : W.cell? ⟨b, o, none⟩ = some v1 ∧ W.cell? ⟨b, o + 1, none⟩ = some v2 := ⟨h 0 _ rfl, h 1 _ rfl⟩
theorem St.there {w W : World} {ba : Nat} {vp vd : Nat → Value} {oP oD : Nat → Nat → Prop} {ev : Nat → Option (Int × List (BitVec 8))} {T : Nat} (h : St w W ba vp vd oP oD ev T) {i : Nat} (hi : i < 3) : W.there ba (i * 2) 2 := fun j hj => by
  refine ⟨?_, h.free _⟩
  have : j = 0 ∨ j = 1 := by omega
  rcases this with rfl | rfl
  · rw [Nat.add_zero, (h.cell i hi).1]; rfl
  · rw [(h.cell i hi).2]; rfl
/-- A new pair put in one's place. -/
theorem St.put {w W0 W1 : World} {ba : Nat} {vp vd : Nat → Value} {oP oD : Nat → Nat → Prop} {ev : Nat → Option (Int × List (BitVec 8))} {T : Nat} (h : St w W0 ba vp vd oP oD ev T) {i : Nat} (hi : i < 3) (hb : Below W0.heap.size W0 W1)
    {vp' vd' : Value} {oP' oD' : Nat → Prop} {e' : Option (Int × List (BitVec 8))} (hp : PP W1 vp' e' oP') (hd : DD W1 w.heap.size vd' e' oD') (nP : ∀ k, oP' k → W0.heap.size ≤ k) (nD : ∀ k, oD' k → W0.heap.size ≤ k) (nn : ∀ k, oP' k → ¬ oD' k) (hl : lenE e' ≤ T) :
    St w (W1.setCells ba (i * 2) [vp', vd']) ba (upN vp i vp') (upN vd i vd') (upN oP i oP') (upN oD i oD') (upN ev i e') T := by
  have h1 := h.keep hb
  have OF : Off ba W1 (W1.setCells ba (i * 2) [vp', vd']) := (Off.refl ba W1).setCells _
  have hc : Chg (fun k => k = ba) W0 (W1.setCells ba (i * 2) [vp', vd']) := (Chg.of_below hb).trans (Chg.of_off OF) (fun k hk => .inl hk)
  have bl := h.balt
  refine h.upd hi hc (fun k hk => .inr (.inr (.inl hk))) (fun j hj => ?_) (fun j => by rw [World.frozen?_setCells]; exact h1.free j) (hp.same fun k hk => ?_) (hd.same fun k hk => ?_) (fun k hk => .inr (nP k hk)) (fun k hk => .inr (nD k hk)) nn (Nat.le_refl _) hl
  · by_cases e : j = i
    · subst e
      rw [upN_at, upN_at]
      exact range_pair (World.rangeAt_setCells_same _ _ _ _ (h1.there hj))
    · rw [upN_ne _ _ e, upN_ne _ _ e]
      exact range_pair (World.rangeAt_setCells_apart (pair_range (h1.cell j hj).1 (h1.cell j hj).2) ba (i * 2) [vp', vd'] (.inr (by show j * 2 + 2 ≤ i * 2 ∨ i * 2 + 2 ≤ j * 2; omega)))
  · exact OF.block k (hp.lt hk) (fun e => by have := nP k hk; omega)
  · exact OF.block k (hd.lt hk) (fun e => by have := nD k hk; omega)
theorem num_below (n : Int) (w : World) : Calls Tryd.prog 12 #[.int .i64 n] w fun e w' => e = .returned (.int .i64 n) ∧ Below w.heap.size w w' := (num_any n w).mono fun e w' ⟨h1, h2⟩ => ⟨h1, by rw [h2]; exact Below.refl _ _⟩
set_option maxRecDepth 100000 in
set_option maxHeartbeats 16000000 in
theorem play_new {w W : World} {ba : Nat} {vp vd : Nat → Value} {oP oD : Nat → Nat → Prop} {ev : Nat → Option (Int × List (BitVec 8))} {T : Nat} {kd on ot : Int} {a : Option Addr} {g p c : Nat} {Z : List (BitVec 8)} (hk : kd = 1) (n0 : -9223372036854775808 ≤ on) (n1 : on < 9223372036854775808) (t0 : -9223372036854775808 ≤ ot) (t1 : ot < 9223372036854775808) (hT : T + Z.length < 1073741824) (hc : Z.length ≤ c) (ha : At a g p Z) (hnc : a = none → c = 0) (hZ : Byo w g p Z) (tb1 : Tab w 2 turnsN) (tb2 : Lns w 0 marksN) (tb3 : Tab w 3 turnsN) (tb4 : Lns w 1 marksN) (h : St w W ba vp vd oP oD ev T) :
    Calls Tryd.prog 4 #[.pointer (some ⟨ba, 0, none⟩), .agg #[.int .i64 kd, .int .i64 on, .int .i64 ot, .slice a Z.length c]] W fun e w' => e = .returned (.bool true) ∧ ∃ vp vd oP oD ev, St w w' ba vp vd oP oD ev (T + Z.length) := by
  subst hk
  obtain ⟨i, ei⟩ : ∃ i, i = wh on := ⟨_, rfl⟩
  have i3 : i < 3 := by rw [ei]; exact wh_lt on
  have WH : Hid (∀ w', Calls Tryd.prog 9 #[.int .i64 on] w' fun e w2 => e = .returned (.int .i64 (i : Int)) ∧ w2 = w') := fun w' => by rw [ei]; exact which_any n0 n1 w'
  have WO : Hid (∀ w', Calls Tryd.prog 9 #[.int .i64 ot] w' fun e w2 => e = .returned (.int .i64 (wh ot : Int)) ∧ Below w'.heap.size w' w2) := fun w' => (which_any t0 t1 w').mono fun e w2 ⟨q1, q2⟩ => ⟨q1, by rw [q2]; exact Below.refl _ _⟩
  obtain ⟨zn, ezn⟩ : ∃ zn, Hid (zn = Z.length) := ⟨_, rfl⟩
  have HA : Hid (At a g p Z ∧ (a = none → c = 0) ∧ Byo w g p Z ∧ Z.length ≤ c ∧ T + Z.length < 1073741824) := ⟨ha, hnc, hZ, hc, hT⟩
  have TB : Hid (∀ W', Below w.heap.size w W' → Tab W' 2 turnsN ∧ Lns W' 0 marksN ∧ Tab W' 3 turnsN ∧ Lns W' 1 marksN) := fun W' B => ⟨tb1.keep B, tb2.keep B, tb3.keep B, tb4.keep B⟩
  have TL : Hid (2 < w.heap.size ∧ 0 < w.heap.size) := ⟨tb1.lt (by decide), tb2.lt (by decide)⟩
  rw [← ezn.out]
  clear ei n0 n1 t0 t1 hT hc ha hnc hZ tb1 tb2 tb3 tb4
  have i3' : (i : Int) < 3 := by omega
  have i0' : ¬ (i : Int) < 0 := by omega
  obtain ⟨v1, ev1⟩ : ∃ v1, Hid (v1 = vp i) := ⟨_, rfl⟩
  obtain ⟨v2, ev2⟩ : ∃ v2, Hid (v2 = vd i) := ⟨_, rfl⟩
  have onv : ([v1, v2] : List Value).toArray.all (·.oneCell') = true := all_oneCell_toArray (fun v hv => by
    rw [ev1.out, ev2.out] at hv
    simp only [List.mem_cons, List.not_mem_nil, or_false] at hv
    rcases hv with rfl | rfl
    · exact (h.pp i i3).cell1
    · exact (h.dd i i3).cell1)
  go_enter Tryd.func4, Tryd.ntmps4
  refine wp_seq_k fun K0 h0 => ?_
  have H0 : Hid _ := h0
  clear h0
  go_wp2
  refine H0.out _ _ ?_
  clear H0
  refine wp_world (fun W1 => St w W1 ba vp vd oP oD ev T ∧ W1.rangeAt W.heap.size 0 [.int .i64 1, .int .i64 on, .int .i64 ot, .slice a zn c] ∧ W.heap.size < W1.heap.size) ⟨h.keep ((Below.refl _ _).alloc (Nat.le_refl _) _), rng_newK, by simp⟩ ?_
  have NBO : Hid (¬ oP i W.heap.size ∧ ¬ oD i W.heap.size) := ⟨fun q => Nat.lt_irrefl _ ((h.pp i i3).lt q), fun q => Nat.lt_irrefl _ ((h.dd i i3).lt q)⟩
  clear h
  rintro w1 ⟨h1, R0, l1⟩
  generalize W.heap.size = bo at *
  have x0 : w1.cell? ⟨bo, 0, none⟩ = some (.int .i64 1) := R0 0 _ rfl
  have x1 : w1.cell? ⟨bo, 1, none⟩ = some (.int .i64 on) := R0 1 _ rfl
  have x2 : w1.cell? ⟨bo, 2, none⟩ = some (.int .i64 ot) := R0 2 _ rfl
  have x3 : w1.cell? ⟨bo, 3, none⟩ = some (.slice a zn c) := R0 3 _ rfl
  refine wp_seq_k fun K1 h1 => ?_
  have H1 : Hid _ := h1
  clear h1
  go_wp2_with fail
  with_reducible refine (WH.out _).mono ?_
  rintro e1 w2 ⟨rfl, rfl⟩
  go_wp2
  refine H1.out _ _ ?_
  clear H1
  have RB : w2.rangeAt ba (i * 2) [v1, v2] := by
    have := h1.cell i i3
    rw [← ev1.out, ← ev2.out] at this
    exact pair_range this.1 this.2
  refine wp_seq_k fun K2 h2 => ?_
  have H2 : Hid _ := h2
  clear h2
  go_wp2_with first | (refine wpList_load_mid rfl 26 _ rfl ba (i * 2) rfl [v1, v2] _ RB Tryd.underlying26 rfl size_pair ?_) | (refine wpList_put_newK rfl 26 _ _ rfl [v1, v2] rfl rfl rfl size_pair onv ?_; intro w3 hb3 RX LX lt3; simp only [Act.put])
  refine H2.out _ _ ?_
  clear H2
  have NBS : Hid (¬ oP i w2.heap.size ∧ ¬ oD i w2.heap.size) := ⟨fun q => Nat.lt_irrefl _ ((h1.pp i i3).lt q), fun q => Nat.lt_irrefl _ ((h1.dd i i3).lt q)⟩
  replace h1 := h1.keep hb3
  replace x0 := cell_keep hb3 x0
  replace x1 := cell_keep hb3 x1
  replace x2 := cell_keep hb3 x2
  replace x3 := cell_keep hb3 x3
  generalize w2.heap.size = bs at *
  have y0 : w3.cell? ⟨bs, 0, none⟩ = some v1 := RX 0 _ rfl
  have y1 : w3.cell? ⟨bs, 1, none⟩ = some v2 := RX 1 _ rfl
  have PP1 : Hid (PP w3 v1 (ev i) (oP i)) := by rw [ev1.out]; exact h1.pp i i3
  have DD1 : Hid (DD w3 w.heap.size v2 (ev i) (oD i)) := by rw [ev2.out]; exact h1.dd i i3
  have HS : Hid (St w w3 ba vp vd oP oD ev T) := h1
  clear hb3 RX LX lt3 R0 RB l1 h1 onv WH w2
  have CN : Hid (∀ W', Calls Tryd.prog 10 #[.int .i64 ot] W' fun r w' => ∃ vp' o', r = .returned (.tuple #[vp', .int .i64 (nwN ot)]) ∧ PP w' vp' (nwE ot) o' ∧ (∀ k, o' k → W'.heap.size ≤ k) ∧ Below W'.heap.size W' w') := fun W' => P_new ot W'
  have CD : Hid (∀ W', w.heap.size ≤ W'.heap.size → Calls Tryd.prog 11 #[.int .i64 ot] W' fun r w' => ∃ vp' o', r = .returned (.tuple #[vp', .int .i64 (nwN ot)]) ∧ DD w' w.heap.size vp' (nwE ot) o' ∧ (∀ k, o' k → W'.heap.size ≤ k) ∧ Below W'.heap.size W' w') := fun W' hB => D_new ot W' hB
  have HL : Hid (lenE (nwE ot) ≤ T) := by rw [lenE_nw]; exact Nat.zero_le _
  have NU : Hid (∀ n w', Calls Tryd.prog 12 #[.int .i64 n] w' fun e w2 => e = .returned (.int .i64 n) ∧ Below w'.heap.size w' w2) := num_below
  generalize nwE ot = E at *
  generalize nwN ot = N at *
  go_wp2_with fail
  with_reducible refine (CN.out _).mono ?_
  rintro r1 w4 ⟨u1, o1, rfl, pp4, n4, hb4⟩
  replace x2 := cell_keep hb4 x2
  have B4 : Hid (Below w3.heap.size w3 w4) := hb4
  have P4 : Hid (PP w4 u1 E o1 ∧ ∀ k, o1 k → w3.heap.size ≤ k) := ⟨pp4, n4⟩
  clear hb4 pp4 n4 CN x0 x1 x3 y0 y1
  go_wp2_with fail
  with_reducible refine (CD.out _ (Nat.le_trans HS.out.below.size B4.out.size)).mono ?_
  rintro r1 w5 ⟨u2, o2, rfl, dd5, n5, hb5⟩
  have D5 : Hid (DD w5 w.heap.size u2 E o2 ∧ ∀ k, o2 k → w4.heap.size ≤ k) := ⟨dd5, n5⟩
  have B5 : Hid (Below w4.heap.size w4 w5) := hb5
  clear hb5 dd5 n5 CD x2
  go_wp2_with fail
  with_reducible refine (NU.out _ _).mono ?_
  rintro r1 w6 ⟨rfl, hb6⟩
  have B6 : Hid (Below w3.heap.size w3 w6) := (B4.out.trans (B5.out.mono B4.out.size)).trans (hb6.mono (Nat.le_trans B4.out.size B5.out.size))
  have P6 : Hid (PP w6 u1 E o1) := P4.out.1.same (fun k hk => (hb6.block k (Nat.lt_of_lt_of_le (P4.out.1.lt hk) B5.out.size)).trans (B5.out.block k (P4.out.1.lt hk)))
  have D6 : Hid (DD w6 w.heap.size u2 E o2) := D5.out.1.same (fun k hk => hb6.block k (D5.out.1.lt hk))
  have FI : Hid (∀ W2, W2 = w6.setCells ba (i * 2) [u1, u2] → ∃ vp vd oP oD ev, St w W2 ba vp vd oP oD ev (T + zn)) := fun W2 e => by
    subst e
    exact ⟨_, _, _, _, _, (HS.out.put i3 B6.out P6.out D6.out P4.out.2 (fun k hk => Nat.le_trans B4.out.size (D5.out.2 k hk)) (fun k hk hk2 => by have := P4.out.1.lt hk; have := D5.out.2 k hk2; omega) HL.out).more (Nat.le_add_right _ _)⟩
  have TR : w6.there ba (i * 2) (#[u1, u2] : Array Value).size := (HS.out.keep B6.out).there i3
  have oo : (#[u1, u2] : Array Value).all (·.oneCell') = true := all_oneCell_toArray (cs := [u1, u2]) (fun v hv => by
    simp only [List.mem_cons, List.not_mem_nil, or_false] at hv
    rcases hv with rfl | rfl
    · exact P6.out.cell1
    · exact D6.out.cell1)
  rcases P6.out.one with ⟨rfl, e1⟩ | ⟨b1, rfl, e1⟩
  · rcases D6.out.one with ⟨rfl, _⟩ | ⟨b2, rfl, e2⟩
    · clear hb6
      go_wp2_with (refine wpList_store_mid rfl 26 _ _ rfl ba (i * 2) #[.pointer none, .pointer none] rfl rfl TR size_pair oo ?_; simp only [Act.put])
      simp [bodyPost, results, Tryd.results4, go_sem]
      exact FI.out _ rfl
    · exact absurd e1 e2
  · rcases D6.out.one with ⟨rfl, e2⟩ | ⟨b2, rfl, e2⟩
    · exact absurd e2 e1
    · clear hb6
      go_wp2_with (refine wpList_store_mid rfl 26 _ _ rfl ba (i * 2) #[.pointer (some ⟨b1, 0, none⟩), .pointer (some ⟨b2, 0, none⟩)] rfl rfl TR size_pair oo ?_; simp only [Act.put])
      simp [bodyPost, results, Tryd.results4, go_sem]
      exact FI.out _ rfl
end Go.Proofs.YtjhljoanhlodeaaDoor
