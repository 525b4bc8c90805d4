import Derived.Test.YtjhljoanhlodeaaDoorKsE
/- Layer 2: one step of a script. -/
namespace Go.Proofs.YtjhljoanhlodeaaDoor
open Go.RowKit Go.Sort
theorem pair_range {W : World} {b o : Nat} {v1 v2 : Value} (h1 : W.cell? ⟨b, o, none⟩ = some v1) (h2 : W.cell? ⟨b, o + 1, none⟩ = some v2) : W.rangeAt b o [v1, v2] := fun j v hv => by
  cases j with
  | zero => simp at hv; subst hv; exact h1
  | succ j =>
    cases j with
    | zero => simp at hv; subst hv; exact h2
    | succ j => simp at hv
theorem size_pair : (Tryd.prog.info? 26).map (·.size) = some 2 := by kernel_rfl
theorem PP.one {W : World} {vp : Value} {e : Option (Int × List (BitVec 8))} {o : Nat → Prop} (h : PP W vp e o) : vp = .pointer none ∧ e = none ∨ ∃ b, vp = .pointer (some ⟨b, 0, none⟩) ∧ e ≠ none := by
  match e, h with
  | none, h => exact .inl ⟨h.1, rfl⟩
  | some (k, X), ⟨b, h1, _⟩ => exact .inr ⟨b, h1, fun x => by cases x⟩
theorem DD.one {W : World} {B : Nat} {vp : Value} {e : Option (Int × List (BitVec 8))} {o : Nat → Prop} (h : DD W B vp e o) : vp = .pointer none ∧ e = none ∨ ∃ b, vp = .pointer (some ⟨b, 0, none⟩) ∧ e ≠ none := by
  match e, h with
  | none, h => exact .inl ⟨h.1, rfl⟩
  | some (k, X), ⟨b, v, h1, _⟩ => exact .inr ⟨b, h1, fun x => by cases x⟩
theorem PP.cell1 {W : World} {vp : Value} {e : Option (Int × List (BitVec 8))} {o : Nat → Prop} (h : PP W vp e o) : vp.oneCell' = true := by
  rcases h.one with ⟨rfl, _⟩ | ⟨b, rfl, _⟩ <;> rfl
theorem DD.cell1 {W : World} {B : Nat} {vp : Value} {e : Option (Int × List (BitVec 8))} {o : Nat → Prop} (h : DD W B vp e o) : vp.oneCell' = true := by
  rcases h.one with ⟨rfl, _⟩ | ⟨b, rfl, _⟩ <;> rfl
set_option maxRecDepth 100000 in
set_option maxHeartbeats 16000000 in
theorem play_else {w W : World} {ba : Nat} {vp vd : Nat → Value} {oP oD : Nat → Nat → Prop} {ev : Nat → Option (Int × List (BitVec 8))} {T : Nat} {kd on ot : Int} {a : Option Addr} {g p c : Nat} {Z : List (BitVec 8)} (hk1 : kd ≠ 1) (hk2 : kd ≠ 2) (hk3 : kd ≠ 3) (hk4 : kd ≠ 4) (hk5 : kd ≠ 5) (hk6 : kd ≠ 6) (hk7 : kd ≠ 7) (n0 : -9223372036854775808 ≤ on) (n1 : on < 9223372036854775808) (t0 : -9223372036854775808 ≤ ot) (t1 : ot < 9223372036854775808) (hT : T + Z.length < 1073741824) (hc : Z.length ≤ c) (ha : At a g p Z) (hnc : a = none → c = 0) (hZ : Byo w g p Z) (tb1 : Tab w 2 turnsN) (tb2 : Lns w 0 marksN) (tb3 : Tab w 3 turnsN) (tb4 : Lns w 1 marksN) (h : St w W ba vp vd oP oD ev T) :
    Calls Tryd.prog 4 #[.pointer (some ⟨ba, 0, none⟩), .agg #[.int .i64 kd, .int .i64 on, .int .i64 ot, .slice a Z.length c]] W fun e w' => e = .returned (.bool true) ∧ ∃ vp vd oP oD ev, St w w' ba vp vd oP oD ev (T + Z.length) := by
  have k1 : (kd == 1) = false := by simpa using hk1
  have k2 : (kd == 2) = false := by simpa using hk2
  have k3 : (kd == 3) = false := by simpa using hk3
  have k4 : (kd == 4) = false := by simpa using hk4
  have k5 : (kd == 5) = false := by simpa using hk5
  have k6 : (kd == 6) = false := by simpa using hk6
  have k7 : (kd == 7) = false := by simpa using hk7
  clear hk1 hk2 hk3 hk4 hk5 hk6 hk7
  obtain ⟨i, ei⟩ : ∃ i, i = wh on := ⟨_, rfl⟩
  have i3 : i < 3 := by rw [ei]; exact wh_lt on
  have WH : Hid (∀ w', Calls Tryd.prog 9 #[.int .i64 on] w' fun e w2 => e = .returned (.int .i64 (i : Int)) ∧ w2 = w') := fun w' => by rw [ei]; exact which_any n0 n1 w'
  have WO : Hid (∀ w', Calls Tryd.prog 9 #[.int .i64 ot] w' fun e w2 => e = .returned (.int .i64 (wh ot : Int)) ∧ Below w'.heap.size w' w2) := fun w' => (which_any t0 t1 w').mono fun e w2 ⟨q1, q2⟩ => ⟨q1, by rw [q2]; exact Below.refl _ _⟩
  obtain ⟨zn, ezn⟩ : ∃ zn, Hid (zn = Z.length) := ⟨_, rfl⟩
  have HA : Hid (At a g p Z ∧ (a = none → c = 0) ∧ Byo w g p Z ∧ Z.length ≤ c ∧ T + Z.length < 1073741824) := ⟨ha, hnc, hZ, hc, hT⟩
  have TB : Hid (∀ W', Below w.heap.size w W' → Tab W' 2 turnsN ∧ Lns W' 0 marksN ∧ Tab W' 3 turnsN ∧ Lns W' 1 marksN) := fun W' B => ⟨tb1.keep B, tb2.keep B, tb3.keep B, tb4.keep B⟩
  have TL : Hid (2 < w.heap.size ∧ 0 < w.heap.size) := ⟨tb1.lt (by decide), tb2.lt (by decide)⟩
  rw [← ezn.out]
  clear ei n0 n1 t0 t1 hT hc ha hnc hZ tb1 tb2 tb3 tb4
  have i3' : (i : Int) < 3 := by omega
  have i0' : ¬ (i : Int) < 0 := by omega
  obtain ⟨v1, ev1⟩ : ∃ v1, Hid (v1 = vp i) := ⟨_, rfl⟩
  obtain ⟨v2, ev2⟩ : ∃ v2, Hid (v2 = vd i) := ⟨_, rfl⟩
  have onv : ([v1, v2] : List Value).toArray.all (·.oneCell') = true := all_oneCell_toArray (fun v hv => by
    rw [ev1.out, ev2.out] at hv
    simp only [List.mem_cons, List.not_mem_nil, or_false] at hv
    rcases hv with rfl | rfl
    · exact (h.pp i i3).cell1
    · exact (h.dd i i3).cell1)
  go_enter Tryd.func4, Tryd.ntmps4
  refine wp_seq_k fun K0 h0 => ?_
  have H0 : Hid _ := h0
  clear h0
  go_wp2
  refine H0.out _ _ ?_
  clear H0
  refine wp_world (fun W1 => St w W1 ba vp vd oP oD ev T ∧ W1.rangeAt W.heap.size 0 [.int .i64 kd, .int .i64 on, .int .i64 ot, .slice a zn c] ∧ W.heap.size < W1.heap.size) ⟨h.keep ((Below.refl _ _).alloc (Nat.le_refl _) _), rng_newK, by simp⟩ ?_
  have NBO : Hid (¬ oP i W.heap.size ∧ ¬ oD i W.heap.size) := ⟨fun q => Nat.lt_irrefl _ ((h.pp i i3).lt q), fun q => Nat.lt_irrefl _ ((h.dd i i3).lt q)⟩
  clear h
  rintro w1 ⟨h1, R0, l1⟩
  generalize W.heap.size = bo at *
  have x0 : w1.cell? ⟨bo, 0, none⟩ = some (.int .i64 kd) := R0 0 _ rfl
  have x1 : w1.cell? ⟨bo, 1, none⟩ = some (.int .i64 on) := R0 1 _ rfl
  have x2 : w1.cell? ⟨bo, 2, none⟩ = some (.int .i64 ot) := R0 2 _ rfl
  have x3 : w1.cell? ⟨bo, 3, none⟩ = some (.slice a zn c) := R0 3 _ rfl
  refine wp_seq_k fun K1 h1 => ?_
  have H1 : Hid _ := h1
  clear h1
  go_wp2_with fail
  with_reducible refine (WH.out _).mono ?_
  rintro e1 w2 ⟨rfl, rfl⟩
  go_wp2
  refine H1.out _ _ ?_
  clear H1
  have RB : w2.rangeAt ba (i * 2) [v1, v2] := by
    have := h1.cell i i3
    rw [← ev1.out, ← ev2.out] at this
    exact pair_range this.1 this.2
  refine wp_seq_k fun K2 h2 => ?_
  have H2 : Hid _ := h2
  clear h2
  go_wp2_with first | (refine wpList_load_mid rfl 26 _ rfl ba (i * 2) rfl [v1, v2] _ RB Tryd.underlying26 rfl size_pair ?_) | (refine wpList_put_newK rfl 26 _ _ rfl [v1, v2] rfl rfl rfl size_pair onv ?_; intro w3 hb3 RX LX lt3; simp only [Act.put])
  refine H2.out _ _ ?_
  clear H2
  have NBS : Hid (¬ oP i w2.heap.size ∧ ¬ oD i w2.heap.size) := ⟨fun q => Nat.lt_irrefl _ ((h1.pp i i3).lt q), fun q => Nat.lt_irrefl _ ((h1.dd i i3).lt q)⟩
  replace h1 := h1.keep hb3
  replace x0 := cell_keep hb3 x0
  replace x1 := cell_keep hb3 x1
  replace x2 := cell_keep hb3 x2
  replace x3 := cell_keep hb3 x3
  generalize w2.heap.size = bs at *
  have y0 : w3.cell? ⟨bs, 0, none⟩ = some v1 := RX 0 _ rfl
  have y1 : w3.cell? ⟨bs, 1, none⟩ = some v2 := RX 1 _ rfl
  have PP1 : Hid (PP w3 v1 (ev i) (oP i)) := by rw [ev1.out]; exact h1.pp i i3
  have DD1 : Hid (DD w3 w.heap.size v2 (ev i) (oD i)) := by rw [ev2.out]; exact h1.dd i i3
  have HS : Hid (St w w3 ba vp vd oP oD ev T) := h1
  clear hb3 RX LX lt3 R0 RB l1 h1 onv WH w2
  go_wp2
  simp [bodyPost, results, Tryd.results4, go_sem]
  exact ⟨_, _, _, _, _, HS.out.more (Nat.le_add_right _ _)⟩
set_option maxRecDepth 100000 in
set_option maxHeartbeats 16000000 in
theorem play_sum {w W : World} {ba : Nat} {vp vd : Nat → Value} {oP oD : Nat → Nat → Prop} {ev : Nat → Option (Int × List (BitVec 8))} {T : Nat} {kd on ot : Int} {a : Option Addr} {g p c : Nat} {Z : List (BitVec 8)} (hk : kd = 3) (n0 : -9223372036854775808 ≤ on) (n1 : on < 9223372036854775808) (t0 : -9223372036854775808 ≤ ot) (t1 : ot < 9223372036854775808) (hT : T + Z.length < 1073741824) (hc : Z.length ≤ c) (ha : At a g p Z) (hnc : a = none → c = 0) (hZ : Byo w g p Z) (tb1 : Tab w 2 turnsN) (tb2 : Lns w 0 marksN) (tb3 : Tab w 3 turnsN) (tb4 : Lns w 1 marksN) (h : St w W ba vp vd oP oD ev T) :
    Calls Tryd.prog 4 #[.pointer (some ⟨ba, 0, none⟩), .agg #[.int .i64 kd, .int .i64 on, .int .i64 ot, .slice a Z.length c]] W fun e w' => e = .returned (.bool true) ∧ ∃ vp vd oP oD ev, St w w' ba vp vd oP oD ev (T + Z.length) := by
  subst hk
  obtain ⟨i, ei⟩ : ∃ i, i = wh on := ⟨_, rfl⟩
  have i3 : i < 3 := by rw [ei]; exact wh_lt on
  have WH : Hid (∀ w', Calls Tryd.prog 9 #[.int .i64 on] w' fun e w2 => e = .returned (.int .i64 (i : Int)) ∧ w2 = w') := fun w' => by rw [ei]; exact which_any n0 n1 w'
  have WO : Hid (∀ w', Calls Tryd.prog 9 #[.int .i64 ot] w' fun e w2 => e = .returned (.int .i64 (wh ot : Int)) ∧ Below w'.heap.size w' w2) := fun w' => (which_any t0 t1 w').mono fun e w2 ⟨q1, q2⟩ => ⟨q1, by rw [q2]; exact Below.refl _ _⟩
  obtain ⟨zn, ezn⟩ : ∃ zn, Hid (zn = Z.length) := ⟨_, rfl⟩
  have HA : Hid (At a g p Z ∧ (a = none → c = 0) ∧ Byo w g p Z ∧ Z.length ≤ c ∧ T + Z.length < 1073741824) := ⟨ha, hnc, hZ, hc, hT⟩
  have TB : Hid (∀ W', Below w.heap.size w W' → Tab W' 2 turnsN ∧ Lns W' 0 marksN ∧ Tab W' 3 turnsN ∧ Lns W' 1 marksN) := fun W' B => ⟨tb1.keep B, tb2.keep B, tb3.keep B, tb4.keep B⟩
  have TL : Hid (2 < w.heap.size ∧ 0 < w.heap.size) := ⟨tb1.lt (by decide), tb2.lt (by decide)⟩
  rw [← ezn.out]
  clear ei n0 n1 t0 t1 hT hc ha hnc hZ tb1 tb2 tb3 tb4
  have i3' : (i : Int) < 3 := by omega
  have i0' : ¬ (i : Int) < 0 := by omega
  obtain ⟨v1, ev1⟩ : ∃ v1, Hid (v1 = vp i) := ⟨_, rfl⟩
  obtain ⟨v2, ev2⟩ : ∃ v2, Hid (v2 = vd i) := ⟨_, rfl⟩
  have onv : ([v1, v2] : List Value).toArray.all (·.oneCell') = true := all_oneCell_toArray (fun v hv => by
    rw [ev1.out, ev2.out] at hv
    simp only [List.mem_cons, List.not_mem_nil, or_false] at hv
    rcases hv with rfl | rfl
    · exact (h.pp i i3).cell1
    · exact (h.dd i i3).cell1)
  go_enter Tryd.func4, Tryd.ntmps4
  refine wp_seq_k fun K0 h0 => ?_
  have H0 : Hid _ := h0
  clear h0
  go_wp2
  refine H0.out _ _ ?_
  clear H0
  refine wp_world (fun W1 => St w W1 ba vp vd oP oD ev T ∧ W1.rangeAt W.heap.size 0 [.int .i64 3, .int .i64 on, .int .i64 ot, .slice a zn c] ∧ W.heap.size < W1.heap.size) ⟨h.keep ((Below.refl _ _).alloc (Nat.le_refl _) _), rng_newK, by simp⟩ ?_
  have NBO : Hid (¬ oP i W.heap.size ∧ ¬ oD i W.heap.size) := ⟨fun q => Nat.lt_irrefl _ ((h.pp i i3).lt q), fun q => Nat.lt_irrefl _ ((h.dd i i3).lt q)⟩
  clear h
  rintro w1 ⟨h1, R0, l1⟩
  generalize W.heap.size = bo at *
  have x0 : w1.cell? ⟨bo, 0, none⟩ = some (.int .i64 3) := R0 0 _ rfl
  have x1 : w1.cell? ⟨bo, 1, none⟩ = some (.int .i64 on) := R0 1 _ rfl
  have x2 : w1.cell? ⟨bo, 2, none⟩ = some (.int .i64 ot) := R0 2 _ rfl
  have x3 : w1.cell? ⟨bo, 3, none⟩ = some (.slice a zn c) := R0 3 _ rfl
  refine wp_seq_k fun K1 h1 => ?_
  have H1 : Hid _ := h1
  clear h1
  go_wp2_with fail
  with_reducible refine (WH.out _).mono ?_
  rintro e1 w2 ⟨rfl, rfl⟩
  go_wp2
  refine H1.out _ _ ?_
  clear H1
  have RB : w2.rangeAt ba (i * 2) [v1, v2] := by
    have := h1.cell i i3
    rw [← ev1.out, ← ev2.out] at this
    exact pair_range this.1 this.2
  refine wp_seq_k fun K2 h2 => ?_
  have H2 : Hid _ := h2
  clear h2
  go_wp2_with first | (refine wpList_load_mid rfl 26 _ rfl ba (i * 2) rfl [v1, v2] _ RB Tryd.underlying26 rfl size_pair ?_) | (refine wpList_put_newK rfl 26 _ _ rfl [v1, v2] rfl rfl rfl size_pair onv ?_; intro w3 hb3 RX LX lt3; simp only [Act.put])
  refine H2.out _ _ ?_
  clear H2
  have NBS : Hid (¬ oP i w2.heap.size ∧ ¬ oD i w2.heap.size) := ⟨fun q => Nat.lt_irrefl _ ((h1.pp i i3).lt q), fun q => Nat.lt_irrefl _ ((h1.dd i i3).lt q)⟩
  replace h1 := h1.keep hb3
  replace x0 := cell_keep hb3 x0
  replace x1 := cell_keep hb3 x1
  replace x2 := cell_keep hb3 x2
  replace x3 := cell_keep hb3 x3
  generalize w2.heap.size = bs at *
  have y0 : w3.cell? ⟨bs, 0, none⟩ = some v1 := RX 0 _ rfl
  have y1 : w3.cell? ⟨bs, 1, none⟩ = some v2 := RX 1 _ rfl
  have PP1 : Hid (PP w3 v1 (ev i) (oP i)) := by rw [ev1.out]; exact h1.pp i i3
  have DD1 : Hid (DD w3 w.heap.size v2 (ev i) (oD i)) := by rw [ev2.out]; exact h1.dd i i3
  have HS : Hid (St w w3 ba vp vd oP oD ev T) := h1
  clear hb3 RX LX lt3 R0 RB l1 h1 onv WH w2
  have r0 := fun d os => cell_regrown y0 d os
  have r1 := fun d os => cell_regrown y1 d os
  have C1 : Hid (∀ d os, Calls Tryd.prog 5 #[v1] (grow (redrawn w3 d) os) fun r w' => r = .returned (.agg (byts (sumE (ev i))).toArray) ∧ Below (grow (redrawn w3 d) os).heap.size (grow (redrawn w3 d) os) w') := fun d os => by
    have hb := below_regrown w3 d os
    have hB := HS.out.below.trans (hb.mono HS.out.below.size)
    exact P_sum (PP1.out.same (fun k hk => hb.block k (PP1.out.lt hk))) (Nat.lt_of_le_of_lt (HS.out.len i i3) (by have := HA.out; omega)) (TB.out _ hB).1 (TB.out _ hB).2.1
  have C2 : Hid (∀ d os, Calls Tryd.prog 6 #[v2] (grow (redrawn w3 d) os) fun r w' => r = .returned (.agg (byts (sumE (ev i))).toArray) ∧ Below (grow (redrawn w3 d) os).heap.size (grow (redrawn w3 d) os) w') := fun d os => by
    have hb := below_regrown w3 d os
    have hB := HS.out.below.trans (hb.mono HS.out.below.size)
    exact D_sum (DD1.out.same (fun k hk => hb.block k (DD1.out.lt hk))) (Nat.lt_of_le_of_lt (HS.out.len i i3) (by have := HA.out; omega)) (TB.out _ hB).2.2.1 (TB.out _ hB).2.2.2
  have EQ := eq_hash (sumE_len (ev i)) (sumE_len (ev i))
  rw [decide_eq_true rfl] at EQ
  generalize byts (sumE (ev i)) = M at *
  go_wp2_with fail
  (try simp only [Act.put])
  refine wp_region_quiet_below (by kernel_rfl) (by kernel_rfl) ?_
  repeat
    first
      | go_big_quiet_skip
      | (go_big_quiet_want; go_big_quiet_op; go_big_quiet_on)
      | (go_big_quiet_want
         go_big_quiet_op
         apply Exists.intro
         refine ⟨fun p => ?_, ?_⟩
         · (first | (go_at_call 5; with_reducible exact Calls.regrown_of (C1.out p.d p.os)) | (go_at_call 6; with_reducible exact Calls.regrown_of (C2.out p.d p.os)))
         go_big_quiet_on)
  refine wpQuiet_nil ?_
  rintro w4 ⟨r, rfl⟩
  have hb1 := below_regrown w3 r.d r.os
  generalize grow (redrawn w3 r.d) r.os = w4 at *
  have HF : Hid (St w w4 ba vp vd oP oD ev (T + zn)) := (HS.out.keep hb1).more (Nat.le_add_right _ _)
  clear hb1 r0 r1 C1 C2 EQ
  go_wp2
  simp [bodyPost, results, Tryd.results4, go_sem]
  exact ⟨_, _, _, _, _, HF.out⟩
set_option maxRecDepth 100000 in
set_option maxHeartbeats 16000000 in
theorem play_len {w W : World} {ba : Nat} {vp vd : Nat → Value} {oP oD : Nat → Nat → Prop} {ev : Nat → Option (Int × List (BitVec 8))} {T : Nat} {kd on ot : Int} {a : Option Addr} {g p c : Nat} {Z : List (BitVec 8)} (hk : kd = 4) (n0 : -9223372036854775808 ≤ on) (n1 : on < 9223372036854775808) (t0 : -9223372036854775808 ≤ ot) (t1 : ot < 9223372036854775808) (hT : T + Z.length < 1073741824) (hc : Z.length ≤ c) (ha : At a g p Z) (hnc : a = none → c = 0) (hZ : Byo w g p Z) (tb1 : Tab w 2 turnsN) (tb2 : Lns w 0 marksN) (tb3 : Tab w 3 turnsN) (tb4 : Lns w 1 marksN) (h : St w W ba vp vd oP oD ev T) :
    Calls Tryd.prog 4 #[.pointer (some ⟨ba, 0, none⟩), .agg #[.int .i64 kd, .int .i64 on, .int .i64 ot, .slice a Z.length c]] W fun e w' => e = .returned (.bool true) ∧ ∃ vp vd oP oD ev, St w w' ba vp vd oP oD ev (T + Z.length) := by
  subst hk
  obtain ⟨i, ei⟩ : ∃ i, i = wh on := ⟨_, rfl⟩
  have i3 : i < 3 := by rw [ei]; exact wh_lt on
  have WH : Hid (∀ w', Calls Tryd.prog 9 #[.int .i64 on] w' fun e w2 => e = .returned (.int .i64 (i : Int)) ∧ w2 = w') := fun w' => by rw [ei]; exact which_any n0 n1 w'
  have WO : Hid (∀ w', Calls Tryd.prog 9 #[.int .i64 ot] w' fun e w2 => e = .returned (.int .i64 (wh ot : Int)) ∧ Below w'.heap.size w' w2) := fun w' => (which_any t0 t1 w').mono fun e w2 ⟨q1, q2⟩ => ⟨q1, by rw [q2]; exact Below.refl _ _⟩
  obtain ⟨zn, ezn⟩ : ∃ zn, Hid (zn = Z.length) := ⟨_, rfl⟩
  have HA : Hid (At a g p Z ∧ (a = none → c = 0) ∧ Byo w g p Z ∧ Z.length ≤ c ∧ T + Z.length < 1073741824) := ⟨ha, hnc, hZ, hc, hT⟩
  have TB : Hid (∀ W', Below w.heap.size w W' → Tab W' 2 turnsN ∧ Lns W' 0 marksN ∧ Tab W' 3 turnsN ∧ Lns W' 1 marksN) := fun W' B => ⟨tb1.keep B, tb2.keep B, tb3.keep B, tb4.keep B⟩
  have TL : Hid (2 < w.heap.size ∧ 0 < w.heap.size) := ⟨tb1.lt (by decide), tb2.lt (by decide)⟩
  rw [← ezn.out]
  clear ei n0 n1 t0 t1 hT hc ha hnc hZ tb1 tb2 tb3 tb4
  have i3' : (i : Int) < 3 := by omega
  have i0' : ¬ (i : Int) < 0 := by omega
  obtain ⟨v1, ev1⟩ : ∃ v1, Hid (v1 = vp i) := ⟨_, rfl⟩
  obtain ⟨v2, ev2⟩ : ∃ v2, Hid (v2 = vd i) := ⟨_, rfl⟩
  have onv : ([v1, v2] : List Value).toArray.all (·.oneCell') = true := all_oneCell_toArray (fun v hv => by
    rw [ev1.out, ev2.out] at hv
    simp only [List.mem_cons, List.not_mem_nil, or_false] at hv
    rcases hv with rfl | rfl
    · exact (h.pp i i3).cell1
    · exact (h.dd i i3).cell1)
  go_enter Tryd.func4, Tryd.ntmps4
  refine wp_seq_k fun K0 h0 => ?_
  have H0 : Hid _ := h0
  clear h0
  go_wp2
  refine H0.out _ _ ?_
  clear H0
  refine wp_world (fun W1 => St w W1 ba vp vd oP oD ev T ∧ W1.rangeAt W.heap.size 0 [.int .i64 4, .int .i64 on, .int .i64 ot, .slice a zn c] ∧ W.heap.size < W1.heap.size) ⟨h.keep ((Below.refl _ _).alloc (Nat.le_refl _) _), rng_newK, by simp⟩ ?_
  have NBO : Hid (¬ oP i W.heap.size ∧ ¬ oD i W.heap.size) := ⟨fun q => Nat.lt_irrefl _ ((h.pp i i3).lt q), fun q => Nat.lt_irrefl _ ((h.dd i i3).lt q)⟩
  clear h
  rintro w1 ⟨h1, R0, l1⟩
  generalize W.heap.size = bo at *
  have x0 : w1.cell? ⟨bo, 0, none⟩ = some (.int .i64 4) := R0 0 _ rfl
  have x1 : w1.cell? ⟨bo, 1, none⟩ = some (.int .i64 on) := R0 1 _ rfl
  have x2 : w1.cell? ⟨bo, 2, none⟩ = some (.int .i64 ot) := R0 2 _ rfl
  have x3 : w1.cell? ⟨bo, 3, none⟩ = some (.slice a zn c) := R0 3 _ rfl
  refine wp_seq_k fun K1 h1 => ?_
  have H1 : Hid _ := h1
  clear h1
  go_wp2_with fail
  with_reducible refine (WH.out _).mono ?_
  rintro e1 w2 ⟨rfl, rfl⟩
  go_wp2
  refine H1.out _ _ ?_
  clear H1
  have RB : w2.rangeAt ba (i * 2) [v1, v2] := by
    have := h1.cell i i3
    rw [← ev1.out, ← ev2.out] at this
    exact pair_range this.1 this.2
  refine wp_seq_k fun K2 h2 => ?_
  have H2 : Hid _ := h2
  clear h2
  go_wp2_with first | (refine wpList_load_mid rfl 26 _ rfl ba (i * 2) rfl [v1, v2] _ RB Tryd.underlying26 rfl size_pair ?_) | (refine wpList_put_newK rfl 26 _ _ rfl [v1, v2] rfl rfl rfl size_pair onv ?_; intro w3 hb3 RX LX lt3; simp only [Act.put])
  refine H2.out _ _ ?_
  clear H2
  have NBS : Hid (¬ oP i w2.heap.size ∧ ¬ oD i w2.heap.size) := ⟨fun q => Nat.lt_irrefl _ ((h1.pp i i3).lt q), fun q => Nat.lt_irrefl _ ((h1.dd i i3).lt q)⟩
  replace h1 := h1.keep hb3
  replace x0 := cell_keep hb3 x0
  replace x1 := cell_keep hb3 x1
  replace x2 := cell_keep hb3 x2
  replace x3 := cell_keep hb3 x3
  generalize w2.heap.size = bs at *
  have y0 : w3.cell? ⟨bs, 0, none⟩ = some v1 := RX 0 _ rfl
  have y1 : w3.cell? ⟨bs, 1, none⟩ = some v2 := RX 1 _ rfl
  have PP1 : Hid (PP w3 v1 (ev i) (oP i)) := by rw [ev1.out]; exact h1.pp i i3
  have DD1 : Hid (DD w3 w.heap.size v2 (ev i) (oD i)) := by rw [ev2.out]; exact h1.dd i i3
  have HS : Hid (St w w3 ba vp vd oP oD ev T) := h1
  clear hb3 RX LX lt3 R0 RB l1 h1 onv WH w2
  have r0 := fun d os => cell_regrown y0 d os
  have r1 := fun d os => cell_regrown y1 d os
  have C1 : Hid (∀ d os, Calls Tryd.prog 7 #[v1] (grow (redrawn w3 d) os) fun r w' => r = .returned (.int .i64 (lenE (ev i) : Int)) ∧ Below (grow (redrawn w3 d) os).heap.size (grow (redrawn w3 d) os) w') := fun d os => by
    have hb := below_regrown w3 d os
    exact P_len (PP1.out.same (fun k hk => hb.block k (PP1.out.lt hk)))
  have C2 : Hid (∀ d os, Calls Tryd.prog 8 #[v2] (grow (redrawn w3 d) os) fun r w' => r = .returned (.int .i64 (lenE (ev i) : Int)) ∧ Below (grow (redrawn w3 d) os).heap.size (grow (redrawn w3 d) os) w') := fun d os => by
    have hb := below_regrown w3 d os
    exact D_len (DD1.out.same (fun k hk => hb.block k (DD1.out.lt hk)))
  generalize (lenE (ev i) : Int) = M at *
  go_wp2_with fail
  (try simp only [Act.put])
  refine wp_region_quiet_below (by kernel_rfl) (by kernel_rfl) ?_
  repeat
    first
      | go_big_quiet_skip
      | (go_big_quiet_want; go_big_quiet_op; go_big_quiet_on)
      | (go_big_quiet_want
         go_big_quiet_op
         apply Exists.intro
         refine ⟨fun p => ?_, ?_⟩
         · (first | (go_at_call 7; with_reducible exact Calls.regrown_of (C1.out p.d p.os)) | (go_at_call 8; with_reducible exact Calls.regrown_of (C2.out p.d p.os)))
         go_big_quiet_on)
  refine wpQuiet_nil ?_
  rintro w4 ⟨r, rfl⟩
  have hb1 := below_regrown w3 r.d r.os
  generalize grow (redrawn w3 r.d) r.os = w4 at *
  have HF : Hid (St w w4 ba vp vd oP oD ev (T + zn)) := (HS.out.keep hb1).more (Nat.le_add_right _ _)
  clear hb1 r0 r1 C1 C2
  go_wp2
  simp [bodyPost, results, Tryd.results4, go_sem]
  exact ⟨_, _, _, _, _, HF.out⟩
end Go.Proofs.YtjhljoanhlodeaaDoor
