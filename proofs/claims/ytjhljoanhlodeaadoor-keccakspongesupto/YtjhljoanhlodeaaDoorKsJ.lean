import Derived.Test.YtjhljoanhlodeaaDoorKsI
/- Layer 2: one step of a script: the zero value. -/
namespace Go.Proofs.YtjhljoanhlodeaaDoor
open Go.RowKit Go.Sort
set_option maxRecDepth 100000 in
set_option maxHeartbeats 16000000 in
theorem play_zero {w W : World} {ba : Nat} {vp vd : Nat → Value} {oP oD : Nat → Nat → Prop} {ev : Nat → Option (Int × List (BitVec 8))} {T : Nat} {kd on ot : Int} {a : Option Addr} {g p c : Nat} {Z : List (BitVec 8)} (hk : kd = 7) (n0 : -9223372036854775808 ≤ on) (n1 : on < 9223372036854775808) (t0 : -9223372036854775808 ≤ ot) (t1 : ot < 9223372036854775808) (hT : T + Z.length < 1073741824) (hc : Z.length ≤ c) (ha : At a g p Z) (hnc : a = none → c = 0) (hZ : Byo w g p Z) (tb1 : Tab w 2 turnsN) (tb2 : Lns w 0 marksN) (tb3 : Tab w 3 turnsN) (tb4 : Lns w 1 marksN) (h : St w W ba vp vd oP oD ev T) :
    Calls Tryd.prog 4 #[.pointer (some ⟨ba, 0, none⟩), .agg #[.int .i64 kd, .int .i64 on, .int .i64 ot, .slice a Z.length c]] W fun e w' => e = .returned (.bool true) ∧ ∃ vp vd oP oD ev, St w w' ba vp vd oP oD ev (T + Z.length) := by
  subst hk
  obtain ⟨i, ei⟩ : ∃ i, i = wh on := ⟨_, rfl⟩
  have i3 : i < 3 := by rw [ei]; exact wh_lt on
  have WH : Hid (∀ w', Calls Tryd.prog 9 #[.int .i64 on] w' fun e w2 => e = .returned (.int .i64 (i : Int)) ∧ w2 = w') := fun w' => by rw [ei]; exact which_any n0 n1 w'
  have WO : Hid (∀ w', Calls Tryd.prog 9 #[.int .i64 ot] w' fun e w2 => e = .returned (.int .i64 (wh ot : Int)) ∧ Below w'.heap.size w' w2) := fun w' => (which_any t0 t1 w').mono fun e w2 ⟨q1, q2⟩ => ⟨q1, by rw [q2]; exact Below.refl _ _⟩
  obtain ⟨zn, ezn⟩ : ∃ zn, Hid (zn = Z.length) := ⟨_, rfl⟩
  have HA : Hid (At a g p Z ∧ (a = none → c = 0) ∧ Byo w g p Z ∧ Z.length ≤ c ∧ T + Z.length < 1073741824) := ⟨ha, hnc, hZ, hc, hT⟩
  have TB : Hid (∀ W', Below w.heap.size w W' → Tab W' 2 turnsN ∧ Lns W' 0 marksN ∧ Tab W' 3 turnsN ∧ Lns W' 1 marksN) := fun W' B => ⟨tb1.keep B, tb2.keep B, tb3.keep B, tb4.keep B⟩
  have TL : Hid (2 < w.heap.size ∧ 0 < w.heap.size) := ⟨tb1.lt (by decide), tb2.lt (by decide)⟩
  rw [← ezn.out]
  clear ei n0 n1 t0 t1 hT hc ha hnc hZ tb1 tb2 tb3 tb4
  have i3' : (i : Int) < 3 := by omega
  have i0' : ¬ (i : Int) < 0 := by omega
  obtain ⟨v1, ev1⟩ : ∃ v1, Hid (v1 = vp i) := ⟨_, rfl⟩
  obtain ⟨v2, ev2⟩ : ∃ v2, Hid (v2 = vd i) := ⟨_, rfl⟩
  have onv : ([v1, v2] : List Value).toArray.all (·.oneCell') = true := all_oneCell_toArray (fun v hv => by
    rw [ev1.out, ev2.out] at hv
    simp only [List.mem_cons, List.not_mem_nil, or_false] at hv
    rcases hv with rfl | rfl
    · exact (h.pp i i3).cell1
    · exact (h.dd i i3).cell1)
  go_enter Tryd.func4, Tryd.ntmps4
  refine wp_seq_k fun K0 h0 => ?_
  have H0 : Hid _ := h0
  clear h0
  go_wp2
  refine H0.out _ _ ?_
  clear H0
  refine wp_world (fun W1 => St w W1 ba vp vd oP oD ev T ∧ W1.rangeAt W.heap.size 0 [.int .i64 7, .int .i64 on, .int .i64 ot, .slice a zn c] ∧ W.heap.size < W1.heap.size) ⟨h.keep ((Below.refl _ _).alloc (Nat.le_refl _) _), rng_newK, by simp⟩ ?_
  have NBO : Hid (¬ oP i W.heap.size ∧ ¬ oD i W.heap.size) := ⟨fun q => Nat.lt_irrefl _ ((h.pp i i3).lt q), fun q => Nat.lt_irrefl _ ((h.dd i i3).lt q)⟩
  clear h
  rintro w1 ⟨h1, R0, l1⟩
  generalize W.heap.size = bo at *
  have x0 : w1.cell? ⟨bo, 0, none⟩ = some (.int .i64 7) := R0 0 _ rfl
  have x1 : w1.cell? ⟨bo, 1, none⟩ = some (.int .i64 on) := R0 1 _ rfl
  have x2 : w1.cell? ⟨bo, 2, none⟩ = some (.int .i64 ot) := R0 2 _ rfl
  have x3 : w1.cell? ⟨bo, 3, none⟩ = some (.slice a zn c) := R0 3 _ rfl
  refine wp_seq_k fun K1 h1 => ?_
  have H1 : Hid _ := h1
  clear h1
  go_wp2_with fail
  with_reducible refine (WH.out _).mono ?_
  rintro e1 w2 ⟨rfl, rfl⟩
  go_wp2
  refine H1.out _ _ ?_
  clear H1
  have RB : w2.rangeAt ba (i * 2) [v1, v2] := by
    have := h1.cell i i3
    rw [← ev1.out, ← ev2.out] at this
    exact pair_range this.1 this.2
  refine wp_seq_k fun K2 h2 => ?_
  have H2 : Hid _ := h2
  clear h2
  go_wp2_with first | (refine wpList_load_mid rfl 26 _ rfl ba (i * 2) rfl [v1, v2] _ RB Tryd.underlying26 rfl size_pair ?_) | (refine wpList_put_newK rfl 26 _ _ rfl [v1, v2] rfl rfl rfl size_pair onv ?_; intro w3 hb3 RX LX lt3; simp only [Act.put])
  refine H2.out _ _ ?_
  clear H2
  have NBS : Hid (¬ oP i w2.heap.size ∧ ¬ oD i w2.heap.size) := ⟨fun q => Nat.lt_irrefl _ ((h1.pp i i3).lt q), fun q => Nat.lt_irrefl _ ((h1.dd i i3).lt q)⟩
  replace h1 := h1.keep hb3
  replace x0 := cell_keep hb3 x0
  replace x1 := cell_keep hb3 x1
  replace x2 := cell_keep hb3 x2
  replace x3 := cell_keep hb3 x3
  generalize w2.heap.size = bs at *
  have y0 : w3.cell? ⟨bs, 0, none⟩ = some v1 := RX 0 _ rfl
  have y1 : w3.cell? ⟨bs, 1, none⟩ = some v2 := RX 1 _ rfl
  have PP1 : Hid (PP w3 v1 (ev i) (oP i)) := by rw [ev1.out]; exact h1.pp i i3
  have DD1 : Hid (DD w3 w.heap.size v2 (ev i) (oD i)) := by rw [ev2.out]; exact h1.dd i i3
  have HS : Hid (St w w3 ba vp vd oP oD ev T) := h1
  clear hb3 RX LX lt3 R0 RB l1 h1 onv WH w2
  have zero := (spV_zero 0).symm
  obtain ⟨M, eM⟩ : ∃ M, Hid (M = spV 0 (List.replicate 25 0) 0) := ⟨_, rfl⟩
  rw [← eM.out] at zero
  obtain ⟨w4, ew4⟩ : ∃ w4, Hid (w4 = (w3.alloc (.cells M.toArray 48)).alloc (.cells #[.int .i64 0, .slice none 0 0] 50)) := ⟨_, rfl⟩
  have s1 : (w3.alloc (.cells M.toArray 48)).heap.size = w3.heap.size + 1 := by simp
  have B4 : Hid (Below w3.heap.size w3 w4) := by rw [ew4.out]; exact ((Below.refl _ _).alloc (Nat.le_refl _) _).alloc (by simp) _
  have P4 : Hid (PP w4 (.pointer (some ⟨w3.heap.size, 0, none⟩)) (some (0, [])) (fun k => k = w3.heap.size)) := by
    rw [ew4.out]
    exact ⟨_, rfl, .inl rfl, (Sp.zero eM.out).keep ((Below.refl _ _).alloc (Nat.le_refl _) _), fun j => Iff.rfl⟩
  have D4 : Hid (DD w4 w.heap.size (.pointer (some ⟨w3.heap.size + 1, 0, none⟩)) (some (0, [])) (fun k => k = w3.heap.size + 1 ∨ Value.ownBlock (.slice none 0 0) = some k)) := by
    rw [ew4.out, ← s1]
    exact ⟨_, _, rfl, .inl rfl, Dp.nil _, fun j => Iff.rfl⟩
  have FI : Hid (∀ W2, W2 = w4.setCells ba (i * 2) [.pointer (some ⟨w3.heap.size, 0, none⟩), .pointer (some ⟨w3.heap.size + 1, 0, none⟩)] → ∃ vp vd oP oD ev, St w W2 ba vp vd oP oD ev (T + zn)) := fun W2 e => by
    subst e
    exact ⟨_, _, _, _, _, (HS.out.put i3 B4.out P4.out D4.out (fun k hk => Nat.le_of_eq hk.symm) (fun k hk => hk.elim (fun q => by omega) (fun q => by cases q)) (fun k hk hk2 => hk2.elim (fun q => by omega) (fun q => by cases q)) (Nat.zero_le _)).more (Nat.le_add_right _ _)⟩
  have TR0 : Hid (w4.there ba (i * 2) 2) := (HS.out.keep B4.out).there i3
  have oo : (#[.pointer (some ⟨w3.heap.size, 0, none⟩), .pointer (some ⟨w3.heap.size + 1, 0, none⟩)] : Array Value).all (·.oneCell') = true := all_oneCell_toArray (cs := [.pointer (some ⟨w3.heap.size, 0, none⟩), .pointer (some ⟨w3.heap.size + 1, 0, none⟩)]) (fun v hv => by
    simp only [List.mem_cons, List.not_mem_nil, or_false] at hv
    rcases hv with rfl | rfl
    · exact P4.out.cell1
    · exact D4.out.cell1)
  rw [ew4.out] at FI TR0
  have TR := TR0.out
  clear s1 TR0 x1 x2 x3 y0 y1
  go_wp2_with (refine wpList_store_mid rfl 26 _ _ rfl ba (i * 2) #[.pointer (some ⟨w3.heap.size, 0, none⟩), .pointer (some ⟨w3.heap.size + 1, 0, none⟩)] rfl rfl TR size_pair oo ?_; simp only [Act.put])
  simp [bodyPost, results, Tryd.results4, go_sem]
  exact FI.out _ rfl
end Go.Proofs.YtjhljoanhlodeaaDoor
