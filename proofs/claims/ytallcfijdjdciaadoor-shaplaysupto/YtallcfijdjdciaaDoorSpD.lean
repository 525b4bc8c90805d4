import Derived.Test.YtallcfijdjdciaaDoorSpC
/- Layer 3: one step with a hasher. -/
namespace Go.Proofs.YtallcfijdjdciaaDoor
open Go.RowKit Go.Sort
set_option maxRecDepth 100000 in
set_option maxHeartbeats 16000000 in
theorem step_else {w W : World} {bp bq : Nat} {vp vd : Nat → Value} {oP oD : Nat → Nat → Prop} {ev : Nat → List (BitVec 8)} {T i : Nat} {kd at' : Int} {a : Option Addr} {g p c : Nat} {Z : List (BitVec 8)} (hk1 : kd ≠ 1) (hk2 : kd ≠ 2) (hk3 : kd ≠ 3) (hk4 : kd ≠ 4) (i3 : i < 3) (hT : T + Z.length < 1073740000) (hc : Z.length ≤ c) (ha : At a g p Z) (hZ : Byo w g p Z) (tb1 : Wds w 0 0 hN) (tb2 : Wds w 1 0 kN) (h : St3 w W bp bq vp vd oP oD ev T) :
    Calls Tryd.prog 9 #[vp i, vd i, .agg #[.int .i64 kd, .int .i64 at', .slice a Z.length c]] W fun e w' => e = .returned (.bool true) ∧ ∃ vp vd oP oD ev, St3 w w' bp bq vp vd oP oD ev (T + Z.length) := by
  have k1 : (kd == 1) = false := by simpa using hk1
  have k2 : (kd == 2) = false := by simpa using hk2
  have k3 : (kd == 3) = false := by simpa using hk3
  have k4 : (kd == 4) = false := by simpa using hk4
  clear hk1 hk2 hk3 hk4
  obtain ⟨zn, ezn⟩ : ∃ zn, Hid (zn = Z.length) := ⟨_, rfl⟩
  have HA : Hid (At a g p Z ∧ Byo w g p Z ∧ Z.length ≤ c ∧ T + Z.length < 1073740000) := ⟨ha, hZ, hc, hT⟩
  have TB : Hid (∀ W', Below w.heap.size w W' → Wds W' 0 0 hN ∧ Wds W' 1 0 kN) := fun W' B => ⟨tb1.keep B, tb2.keep B⟩
  have TL : Hid (0 < w.heap.size ∧ 1 < w.heap.size) := ⟨World.block_lt_of_cell? _ _ (tb1 0 (by decide)), World.block_lt_of_cell? _ _ (tb2 0 (by decide))⟩
  rw [← ezn.out]
  clear hT hc ha hZ tb1 tb2
  obtain ⟨v1, ev1⟩ : ∃ v1, Hid (v1 = vp i) := ⟨_, rfl⟩
  obtain ⟨v2, ev2⟩ : ∃ v2, Hid (v2 = vd i) := ⟨_, rfl⟩
  rw [← ev1.out, ← ev2.out]
  go_enter Tryd.func9, Tryd.ntmps9
  refine wp_seq_k fun K0 h0 => ?_
  have H0 : Hid _ := h0
  clear h0
  go_wp2
  refine H0.out _ _ ?_
  clear H0
  refine wp_world (fun W1 => St3 w W1 bp bq vp vd oP oD ev T ∧ W1.rangeAt W.heap.size 0 [.int .i64 kd, .int .i64 at', .slice a zn c] ∧ W.heap.size < W1.heap.size) ⟨h.keep ((Below.refl _ _).alloc (Nat.le_refl _) _), rng_newK, by simp⟩ ?_
  have NBO : Hid (¬ oP i W.heap.size ∧ ¬ oD i W.heap.size) := ⟨fun q => Nat.lt_irrefl _ ((h.pp i i3).lt q), fun q => Nat.lt_irrefl _ ((h.dd i i3).lt q)⟩
  clear h
  rintro w3 ⟨h1, R0, l1⟩
  generalize W.heap.size = bo at *
  have x0 : w3.cell? ⟨bo, 0, none⟩ = some (.int .i64 kd) := R0 0 _ rfl
  have x3 : w3.cell? ⟨bo, 2, none⟩ = some (.slice a zn c) := R0 2 _ rfl
  have PP1 : Hid (PP w3 v1 (ev i) (oP i)) := by rw [ev1.out]; exact h1.pp i i3
  have DD1 : Hid (DD w3 w.heap.size v2 (ev i) (oD i)) := by rw [ev2.out]; exact h1.dd i i3
  have HS : Hid (St3 w w3 bp bq vp vd oP oD ev T) := h1
  clear R0 l1 h1
  go_wp2
  simp [bodyPost, results, Tryd.results9, go_sem]
  exact ⟨_, _, _, _, _, HS.out.more (Nat.le_add_right _ _)⟩
set_option maxRecDepth 100000 in
set_option maxHeartbeats 16000000 in
theorem step_sum {w W : World} {bp bq : Nat} {vp vd : Nat → Value} {oP oD : Nat → Nat → Prop} {ev : Nat → List (BitVec 8)} {T i : Nat} {kd at' : Int} {a : Option Addr} {g p c : Nat} {Z : List (BitVec 8)} (hk : kd = 2) (i3 : i < 3) (hT : T + Z.length < 1073740000) (hc : Z.length ≤ c) (ha : At a g p Z) (hZ : Byo w g p Z) (tb1 : Wds w 0 0 hN) (tb2 : Wds w 1 0 kN) (h : St3 w W bp bq vp vd oP oD ev T) :
    Calls Tryd.prog 9 #[vp i, vd i, .agg #[.int .i64 kd, .int .i64 at', .slice a Z.length c]] W fun e w' => e = .returned (.bool true) ∧ ∃ vp vd oP oD ev, St3 w w' bp bq vp vd oP oD ev (T + Z.length) := by
  subst hk
  obtain ⟨zn, ezn⟩ : ∃ zn, Hid (zn = Z.length) := ⟨_, rfl⟩
  have HA : Hid (At a g p Z ∧ Byo w g p Z ∧ Z.length ≤ c ∧ T + Z.length < 1073740000) := ⟨ha, hZ, hc, hT⟩
  have TB : Hid (∀ W', Below w.heap.size w W' → Wds W' 0 0 hN ∧ Wds W' 1 0 kN) := fun W' B => ⟨tb1.keep B, tb2.keep B⟩
  have TL : Hid (0 < w.heap.size ∧ 1 < w.heap.size) := ⟨World.block_lt_of_cell? _ _ (tb1 0 (by decide)), World.block_lt_of_cell? _ _ (tb2 0 (by decide))⟩
  rw [← ezn.out]
  clear hT hc ha hZ tb1 tb2
  obtain ⟨v1, ev1⟩ : ∃ v1, Hid (v1 = vp i) := ⟨_, rfl⟩
  obtain ⟨v2, ev2⟩ : ∃ v2, Hid (v2 = vd i) := ⟨_, rfl⟩
  rw [← ev1.out, ← ev2.out]
  go_enter Tryd.func9, Tryd.ntmps9
  refine wp_seq_k fun K0 h0 => ?_
  have H0 : Hid _ := h0
  clear h0
  go_wp2
  refine H0.out _ _ ?_
  clear H0
  refine wp_world (fun W1 => St3 w W1 bp bq vp vd oP oD ev T ∧ W1.rangeAt W.heap.size 0 [.int .i64 2, .int .i64 at', .slice a zn c] ∧ W.heap.size < W1.heap.size) ⟨h.keep ((Below.refl _ _).alloc (Nat.le_refl _) _), rng_newK, by simp⟩ ?_
  have NBO : Hid (¬ oP i W.heap.size ∧ ¬ oD i W.heap.size) := ⟨fun q => Nat.lt_irrefl _ ((h.pp i i3).lt q), fun q => Nat.lt_irrefl _ ((h.dd i i3).lt q)⟩
  clear h
  rintro w3 ⟨h1, R0, l1⟩
  generalize W.heap.size = bo at *
  have x0 : w3.cell? ⟨bo, 0, none⟩ = some (.int .i64 2) := R0 0 _ rfl
  have x3 : w3.cell? ⟨bo, 2, none⟩ = some (.slice a zn c) := R0 2 _ rfl
  have PP1 : Hid (PP w3 v1 (ev i) (oP i)) := by rw [ev1.out]; exact h1.pp i i3
  have DD1 : Hid (DD w3 w.heap.size v2 (ev i) (oD i)) := by rw [ev2.out]; exact h1.dd i i3
  have HS : Hid (St3 w w3 bp bq vp vd oP oD ev T) := h1
  clear R0 l1 h1
  have LT : Hid ((ev i).length < 1073740000) := Nat.lt_of_le_of_lt (HS.out.len i i3) (by have := HA.out; omega)
  have C1 := P_sum PP1.out LT.out (TB.out _ HS.out.below).1 (TB.out _ HS.out.below).2
  have C2 : Hid (∀ W', Below w3.heap.size w3 W' → Calls Tryd.prog 11 #[v2] W' fun r w' => r = .returned (.agg (byts (shaL (ev i))).toArray) ∧ Below W'.heap.size W' w') := fun W' hb => D_sum (DD1.out.same (fun k hk => hb.block k (DD1.out.lt hk))) LT.out
  have EQ := eq_hash (shaL_len (ev i)) (shaL_len (ev i))
  rw [decide_eq_true rfl] at EQ
  generalize byts (shaL (ev i)) = M at *
  go_wp2_with fail
  with_reducible refine C1.mono ?_
  rintro r1 w4 ⟨rfl, hb4⟩
  have B4 : Hid (Below w3.heap.size w3 w4) := hb4
  clear hb4 C1
  go_wp2_with fail
  with_reducible refine (C2.out _ B4.out).mono ?_
  rintro r1 w5 ⟨rfl, hb5⟩
  have HF : Hid (St3 w w5 bp bq vp vd oP oD ev (T + zn)) := ((HS.out.keep B4.out).keep hb5).more (Nat.le_add_right _ _)
  clear hb5 C2
  go_wp2
  simp [bodyPost, results, Tryd.results9, go_sem]
  exact ⟨_, _, _, _, _, HF.out⟩
set_option maxRecDepth 100000 in
set_option maxHeartbeats 16000000 in
theorem step_len {w W : World} {bp bq : Nat} {vp vd : Nat → Value} {oP oD : Nat → Nat → Prop} {ev : Nat → List (BitVec 8)} {T i : Nat} {kd at' : Int} {a : Option Addr} {g p c : Nat} {Z : List (BitVec 8)} (hk : kd = 3) (i3 : i < 3) (hT : T + Z.length < 1073740000) (hc : Z.length ≤ c) (ha : At a g p Z) (hZ : Byo w g p Z) (tb1 : Wds w 0 0 hN) (tb2 : Wds w 1 0 kN) (h : St3 w W bp bq vp vd oP oD ev T) :
    Calls Tryd.prog 9 #[vp i, vd i, .agg #[.int .i64 kd, .int .i64 at', .slice a Z.length c]] W fun e w' => e = .returned (.bool true) ∧ ∃ vp vd oP oD ev, St3 w w' bp bq vp vd oP oD ev (T + Z.length) := by
  subst hk
  obtain ⟨zn, ezn⟩ : ∃ zn, Hid (zn = Z.length) := ⟨_, rfl⟩
  have HA : Hid (At a g p Z ∧ Byo w g p Z ∧ Z.length ≤ c ∧ T + Z.length < 1073740000) := ⟨ha, hZ, hc, hT⟩
  have TB : Hid (∀ W', Below w.heap.size w W' → Wds W' 0 0 hN ∧ Wds W' 1 0 kN) := fun W' B => ⟨tb1.keep B, tb2.keep B⟩
  have TL : Hid (0 < w.heap.size ∧ 1 < w.heap.size) := ⟨World.block_lt_of_cell? _ _ (tb1 0 (by decide)), World.block_lt_of_cell? _ _ (tb2 0 (by decide))⟩
  rw [← ezn.out]
  clear hT hc ha hZ tb1 tb2
  obtain ⟨v1, ev1⟩ : ∃ v1, Hid (v1 = vp i) := ⟨_, rfl⟩
  obtain ⟨v2, ev2⟩ : ∃ v2, Hid (v2 = vd i) := ⟨_, rfl⟩
  rw [← ev1.out, ← ev2.out]
  go_enter Tryd.func9, Tryd.ntmps9
  refine wp_seq_k fun K0 h0 => ?_
  have H0 : Hid _ := h0
  clear h0
  go_wp2
  refine H0.out _ _ ?_
  clear H0
  refine wp_world (fun W1 => St3 w W1 bp bq vp vd oP oD ev T ∧ W1.rangeAt W.heap.size 0 [.int .i64 3, .int .i64 at', .slice a zn c] ∧ W.heap.size < W1.heap.size) ⟨h.keep ((Below.refl _ _).alloc (Nat.le_refl _) _), rng_newK, by simp⟩ ?_
  have NBO : Hid (¬ oP i W.heap.size ∧ ¬ oD i W.heap.size) := ⟨fun q => Nat.lt_irrefl _ ((h.pp i i3).lt q), fun q => Nat.lt_irrefl _ ((h.dd i i3).lt q)⟩
  clear h
  rintro w3 ⟨h1, R0, l1⟩
  generalize W.heap.size = bo at *
  have x0 : w3.cell? ⟨bo, 0, none⟩ = some (.int .i64 3) := R0 0 _ rfl
  have x3 : w3.cell? ⟨bo, 2, none⟩ = some (.slice a zn c) := R0 2 _ rfl
  have PP1 : Hid (PP w3 v1 (ev i) (oP i)) := by rw [ev1.out]; exact h1.pp i i3
  have DD1 : Hid (DD w3 w.heap.size v2 (ev i) (oD i)) := by rw [ev2.out]; exact h1.dd i i3
  have HS : Hid (St3 w w3 bp bq vp vd oP oD ev T) := h1
  clear R0 l1 h1
  have C1 := P_len PP1.out
  have C2 : Hid (∀ W', Below w3.heap.size w3 W' → Calls Tryd.prog 13 #[v2] W' fun r w' => r = .returned (.int .i64 ((ev i).length : Int)) ∧ Below W'.heap.size W' w') := fun W' hb => D_len (DD1.out.same (fun k hk => hb.block k (DD1.out.lt hk)))
  generalize ((ev i).length : Int) = M at *
  go_wp2_with fail
  with_reducible refine C1.mono ?_
  rintro r1 w4 ⟨rfl, hb4⟩
  have B4 : Hid (Below w3.heap.size w3 w4) := hb4
  clear hb4 C1
  go_wp2_with fail
  with_reducible refine (C2.out _ B4.out).mono ?_
  rintro r1 w5 ⟨rfl, hb5⟩
  have HF : Hid (St3 w w5 bp bq vp vd oP oD ev (T + zn)) := ((HS.out.keep B4.out).keep hb5).more (Nat.le_add_right _ _)
  clear hb5 C2
  go_wp2
  simp [bodyPost, results, Tryd.results9, go_sem]
  exact ⟨_, _, _, _, _, HF.out⟩
set_option maxRecDepth 100000 in
set_option maxHeartbeats 16000000 in
theorem step_reset {w W : World} {bp bq : Nat} {vp vd : Nat → Value} {oP oD : Nat → Nat → Prop} {ev : Nat → List (BitVec 8)} {T i : Nat} {kd at' : Int} {a : Option Addr} {g p c : Nat} {Z : List (BitVec 8)} (hk : kd = 4) (i3 : i < 3) (hT : T + Z.length < 1073740000) (hc : Z.length ≤ c) (ha : At a g p Z) (hZ : Byo w g p Z) (tb1 : Wds w 0 0 hN) (tb2 : Wds w 1 0 kN) (h : St3 w W bp bq vp vd oP oD ev T) :
    Calls Tryd.prog 9 #[vp i, vd i, .agg #[.int .i64 kd, .int .i64 at', .slice a Z.length c]] W fun e w' => e = .returned (.bool true) ∧ ∃ vp vd oP oD ev, St3 w w' bp bq vp vd oP oD ev (T + Z.length) := by
  subst hk
  obtain ⟨zn, ezn⟩ : ∃ zn, Hid (zn = Z.length) := ⟨_, rfl⟩
  have HA : Hid (At a g p Z ∧ Byo w g p Z ∧ Z.length ≤ c ∧ T + Z.length < 1073740000) := ⟨ha, hZ, hc, hT⟩
  have TB : Hid (∀ W', Below w.heap.size w W' → Wds W' 0 0 hN ∧ Wds W' 1 0 kN) := fun W' B => ⟨tb1.keep B, tb2.keep B⟩
  have TL : Hid (0 < w.heap.size ∧ 1 < w.heap.size) := ⟨World.block_lt_of_cell? _ _ (tb1 0 (by decide)), World.block_lt_of_cell? _ _ (tb2 0 (by decide))⟩
  rw [← ezn.out]
  clear hT hc ha hZ tb1 tb2
  obtain ⟨v1, ev1⟩ : ∃ v1, Hid (v1 = vp i) := ⟨_, rfl⟩
  obtain ⟨v2, ev2⟩ : ∃ v2, Hid (v2 = vd i) := ⟨_, rfl⟩
  rw [← ev1.out, ← ev2.out]
  go_enter Tryd.func9, Tryd.ntmps9
  refine wp_seq_k fun K0 h0 => ?_
  have H0 : Hid _ := h0
  clear h0
  go_wp2
  refine H0.out _ _ ?_
  clear H0
  refine wp_world (fun W1 => St3 w W1 bp bq vp vd oP oD ev T ∧ W1.rangeAt W.heap.size 0 [.int .i64 4, .int .i64 at', .slice a zn c] ∧ W.heap.size < W1.heap.size) ⟨h.keep ((Below.refl _ _).alloc (Nat.le_refl _) _), rng_newK, by simp⟩ ?_
  have NBO : Hid (¬ oP i W.heap.size ∧ ¬ oD i W.heap.size) := ⟨fun q => Nat.lt_irrefl _ ((h.pp i i3).lt q), fun q => Nat.lt_irrefl _ ((h.dd i i3).lt q)⟩
  clear h
  rintro w3 ⟨h1, R0, l1⟩
  generalize W.heap.size = bo at *
  have x0 : w3.cell? ⟨bo, 0, none⟩ = some (.int .i64 4) := R0 0 _ rfl
  have x3 : w3.cell? ⟨bo, 2, none⟩ = some (.slice a zn c) := R0 2 _ rfl
  have PP1 : Hid (PP w3 v1 (ev i) (oP i)) := by rw [ev1.out]; exact h1.pp i i3
  have DD1 : Hid (DD w3 w.heap.size v2 (ev i) (oD i)) := by rw [ev2.out]; exact h1.dd i i3
  have HS : Hid (St3 w w3 bp bq vp vd oP oD ev T) := h1
  clear R0 l1 h1
  have C1 := P_reset PP1.out
  go_wp2_with fail
  with_reducible refine C1.mono ?_
  rintro r1 w4 ⟨rfl, pp4, ch4⟩
  have D4 : Hid (DD w4 w.heap.size v2 (ev i) (oD i)) := DD1.out.same (fun k hk => ch4.block k (DD1.out.lt hk) (fun hp => HS.out.apPD i i i3 i3 k hp hk))
  have P4 : Hid (PP w4 v1 [] (oP i) ∧ Chg (oP i) w3 w4) := ⟨pp4, ch4⟩
  have C2 := D_reset D4.out
  clear pp4 ch4 C1 x0 x3
  go_wp2_with fail
  with_reducible refine C2.mono ?_
  rintro r1 w5 ⟨rfl, o5, dd5, ch5, n5⟩
  have FI : Hid (∃ vp vd oP oD ev, St3 w w5 bp bq vp vd oP oD ev (T + zn)) := by
    have pp5 : PP w5 v1 [] (oP i) := P4.out.1.same (fun k hk => ch5.block k (P4.out.1.lt hk) (fun hd => HS.out.apPD i i i3 i3 k hk hd))
    have hc : Chg (fun k => oP i k ∨ oD i k) w3 w5 := (P4.out.2.mono fun k hk => .inl hk).trans ch5 (fun k hk => .inl (.inr hk))
    have nb : ∀ b, b = bp ∨ b = bq → ¬ (oP i b ∨ oD i b) := fun b hb q => by
      rcases q with q | q
      · have := (HS.out.lowP i i3 b q).2; rcases hb with rfl | rfl <;> simp_all
      · have := (HS.out.lowD i i3 b q).2; rcases hb with rfl | rfl <;> simp_all
    have ep := hc.block bp HS.out.plt (nb bp (.inl rfl))
    have eq' := hc.block bq HS.out.qlt (nb bq (.inr rfl))
    have CELL : ∀ j, j < 3 → w5.cell? ⟨bp, j, none⟩ = some (upN vp i v1 j) ∧ w5.cell? ⟨bq, j, none⟩ = some (upN vd i v2 j) := fun j hj => by
      have := HS.out.cell j hj
      rw [World.cell?_of_block (w := w3) (a := ⟨bp, j, none⟩) ep, World.cell?_of_block (w := w3) (a := ⟨bq, j, none⟩) eq', this.1, this.2]
      by_cases e : j = i
      · subst e; rw [upN_at, upN_at, ev1.out, ev2.out]; exact ⟨rfl, rfl⟩
      · rw [upN_ne _ _ e, upN_ne _ _ e]; exact ⟨rfl, rfl⟩
    have FREE : ∀ j, w5.frozen? ⟨bp, j, none⟩ = false ∧ w5.frozen? ⟨bq, j, none⟩ = false := fun j => ⟨frozen_same ep (HS.out.free j).1, frozen_same eq' (HS.out.free j).2⟩
    exact ⟨_, _, _, _, _, HS.out.upd (T' := T + zn) (e' := []) i3 hc (fun k hk => hk.elim .inl (fun q => .inr (.inl q))) CELL FREE pp5 dd5 (fun k hk => .inl hk) (fun k hk => (n5 k hk).imp_right (fun q => Nat.le_trans P4.out.2.size q)) (fun k hk hk2 => by
        rcases n5 k hk2 with q | q
        · exact HS.out.apPD i i i3 i3 k hk q
        · have := P4.out.1.lt hk; omega) (Nat.le_add_right _ _) (Nat.zero_le _)⟩
  clear dd5 ch5 n5 P4 D4 C2
  go_wp2
  simp [bodyPost, results, Tryd.results9, go_sem]
  exact FI.out
set_option maxRecDepth 100000 in
set_option maxHeartbeats 16000000 in
theorem step_write {w W : World} {bp bq : Nat} {vp vd : Nat → Value} {oP oD : Nat → Nat → Prop} {ev : Nat → List (BitVec 8)} {T i : Nat} {kd at' : Int} {a : Option Addr} {g p c : Nat} {Z : List (BitVec 8)} (hk : kd = 1) (i3 : i < 3) (hT : T + Z.length < 1073740000) (hc : Z.length ≤ c) (ha : At a g p Z) (hZ : Byo w g p Z) (tb1 : Wds w 0 0 hN) (tb2 : Wds w 1 0 kN) (h : St3 w W bp bq vp vd oP oD ev T) :
    Calls Tryd.prog 9 #[vp i, vd i, .agg #[.int .i64 kd, .int .i64 at', .slice a Z.length c]] W fun e w' => e = .returned (.bool true) ∧ ∃ vp vd oP oD ev, St3 w w' bp bq vp vd oP oD ev (T + Z.length) := by
  subst hk
  obtain ⟨zn, ezn⟩ : ∃ zn, Hid (zn = Z.length) := ⟨_, rfl⟩
  have HA : Hid (At a g p Z ∧ Byo w g p Z ∧ Z.length ≤ c ∧ T + Z.length < 1073740000) := ⟨ha, hZ, hc, hT⟩
  have TB : Hid (∀ W', Below w.heap.size w W' → Wds W' 0 0 hN ∧ Wds W' 1 0 kN) := fun W' B => ⟨tb1.keep B, tb2.keep B⟩
  have TL : Hid (0 < w.heap.size ∧ 1 < w.heap.size) := ⟨World.block_lt_of_cell? _ _ (tb1 0 (by decide)), World.block_lt_of_cell? _ _ (tb2 0 (by decide))⟩
  rw [← ezn.out]
  clear hT hc ha hZ tb1 tb2
  obtain ⟨v1, ev1⟩ : ∃ v1, Hid (v1 = vp i) := ⟨_, rfl⟩
  obtain ⟨v2, ev2⟩ : ∃ v2, Hid (v2 = vd i) := ⟨_, rfl⟩
  rw [← ev1.out, ← ev2.out]
  go_enter Tryd.func9, Tryd.ntmps9
  refine wp_seq_k fun K0 h0 => ?_
  have H0 : Hid _ := h0
  clear h0
  go_wp2
  refine H0.out _ _ ?_
  clear H0
  refine wp_world (fun W1 => St3 w W1 bp bq vp vd oP oD ev T ∧ W1.rangeAt W.heap.size 0 [.int .i64 1, .int .i64 at', .slice a zn c] ∧ W.heap.size < W1.heap.size) ⟨h.keep ((Below.refl _ _).alloc (Nat.le_refl _) _), rng_newK, by simp⟩ ?_
  have NBO : Hid (¬ oP i W.heap.size ∧ ¬ oD i W.heap.size) := ⟨fun q => Nat.lt_irrefl _ ((h.pp i i3).lt q), fun q => Nat.lt_irrefl _ ((h.dd i i3).lt q)⟩
  clear h
  rintro w3 ⟨h1, R0, l1⟩
  generalize W.heap.size = bo at *
  have x0 : w3.cell? ⟨bo, 0, none⟩ = some (.int .i64 1) := R0 0 _ rfl
  have x3 : w3.cell? ⟨bo, 2, none⟩ = some (.slice a zn c) := R0 2 _ rfl
  have PP1 : Hid (PP w3 v1 (ev i) (oP i)) := by rw [ev1.out]; exact h1.pp i i3
  have DD1 : Hid (DD w3 w.heap.size v2 (ev i) (oD i)) := by rw [ev2.out]; exact h1.dd i i3
  have HS : Hid (St3 w w3 bp bq vp vd oP oD ev T) := h1
  clear R0 l1 h1
  have B3 : Hid (Below w.heap.size w w3) := HS.out.below
  have LE := lentR_any (cd := c) (by have := HA.out.2.2.2; omega) HA.out.1 w3 (HA.out.2.1.keep B3.out)
  rw [← ezn.out] at LE
  have BL : Hid (bo < w3.heap.size) := World.block_lt_of_cell? _ _ x0
  go_wp2_with fail
  with_reducible refine LE.mono ?_
  rintro r1 w4 ⟨gl, cl, rfl, lcl, gl0, glt, R8, hb4⟩
  have H4 : Hid (Below w3.heap.size w3 w4 ∧ Gb w4 gl (Z ++ List.replicate 70 165) ∧ w3.heap.size ≤ gl ∧ gl < w4.heap.size ∧ zn + 70 ≤ cl) := ⟨hb4, R8, gl0, glt, lcl⟩
  have P4 : Hid (PP w4 v1 (ev i) (oP i)) := PP1.out.same (fun k hk => hb4.block k (PP1.out.lt hk))
  have D4 : Hid (DD w4 w.heap.size v2 (ev i) (oD i)) := DD1.out.same (fun k hk => hb4.block k (DD1.out.lt hk))
  have B4 : Hid (Below w.heap.size w w4) := B3.out.trans (hb4.mono B3.out.size)
  replace x3 := cell_keep hb4 x3
  have ng : Hid (¬ oP i gl ∧ ¬ oD i gl) := ⟨fun q => by have := PP1.out.lt q; omega, fun q => by have := DD1.out.lt q; omega⟩
  have LT' : (ev i).length + Z.length < 1073741824 := by have := HS.out.len i i3; have := HA.out.2.2.2; omega
  have LT : Hid ((ev i).length + Z.length < 1073741824) := LT'
  clear LT'
  have PW := P_write (c := cl) P4.out LT.out (by have := ezn.out; omega) (.inr rfl) ng.out.1 (fun q => by have := (HS.out.lowP i i3 _ q).1; have := TL.out.1; omega) (fun q => by have := (HS.out.lowP i i3 _ q).1; have := TL.out.2; omega) (H4.out.2.1.front) (TB.out _ B4.out).1 (TB.out _ B4.out).2
  rw [← ezn.out] at PW
  clear hb4 R8 gl0 glt LE x0
  go_wp2_with fail
  with_reducible refine PW.mono ?_
  rintro r1 w5 ⟨rfl, pp5, ch5⟩
  replace x3 := ch5.cell x3 NBO.out.1
  have P5 : Hid (PP w5 v1 (ev i ++ Z) (oP i) ∧ Chg (oP i) w4 w5) := ⟨pp5, ch5⟩
  have D5 : Hid (DD w5 w.heap.size v2 (ev i) (oD i)) := D4.out.same (fun k hk => ch5.block k (D4.out.lt hk) (fun hp => HS.out.apPD i i i3 i3 k hp hk))
  have B5 : Hid (Below w.heap.size w w5) := B4.out.trans (ch5.below B4.out.size (fun k hk => (HS.out.lowP i i3 k hk).1))
  have R5 : Hid (Gb w5 gl (Z ++ List.replicate 70 165)) := by
    have e := ch5.block gl H4.out.2.2.2.1 ng.out.1
    exact ⟨H4.out.2.1.1.same e, fun j hj => frozen_same e (H4.out.2.1.2 j hj)⟩
  have DW := D_write (c := c) D5.out B5.out.size LT.out HA.out.2.2.1 HA.out.1 (HA.out.2.1.keep B5.out)
  rw [← ezn.out] at DW
  clear pp5 ch5 PW
  go_wp2_with fail
  with_reducible refine DW.mono ?_
  rintro r1 w6 ⟨rfl, o6, dd6, ch6, n6⟩
  replace x3 := ch6.cell x3 NBO.out.2
  have D6 : Hid (DD w6 w.heap.size v2 (ev i ++ Z) o6 ∧ Chg (oD i) w5 w6 ∧ ∀ k, o6 k → oD i k ∨ w5.heap.size ≤ k) := ⟨dd6, ch6, n6⟩
  have P6 : Hid (PP w6 v1 (ev i ++ Z) (oP i)) := P5.out.1.same (fun k hk => ch6.block k (P5.out.1.lt hk) (fun hd => HS.out.apPD i i i3 i3 k hk hd))
  have B6 : Hid (Below w.heap.size w w6) := B5.out.trans (ch6.below B5.out.size (fun k hk => (HS.out.lowD i i3 k hk).1))
  have g5 : Hid (gl < w5.heap.size) := Nat.lt_of_lt_of_le H4.out.2.2.2.1 P5.out.2.size
  have R6 : Hid (Gb w6 gl (Z ++ List.replicate 70 165)) := by
    have e := ch6.block gl g5.out ng.out.2
    exact ⟨R5.out.1.same e, fun j hj => frozen_same e (R5.out.2 j hj)⟩
  have SL := still_any (cd := c) (cg := cl) (by have := HA.out.2.2.2; omega) (by have := ezn.out; omega) HA.out.1 w6 R6.out.1 (HA.out.2.1.keep B6.out)
  rw [← ezn.out] at SL
  clear dd6 ch6 n6 DW
  go_wp2_with fail
  with_reducible refine SL.mono ?_
  rintro r1 w7 ⟨rfl, hb7⟩
  have H7 : Hid (Below w6.heap.size w6 w7) := hb7
  have g6 : Hid (gl < w6.heap.size) := Nat.lt_of_lt_of_le g5.out D6.out.2.1.size
  have R7 : Hid (Gb w7 gl (Z ++ List.replicate 70 165)) := R6.out.keep g6.out hb7
  clear hb7 SL x3 lcl
  have y77 : Y 77 = 77 := by rw [Y_eq]; rfl
  have zb : (zn : Int) < 1073741824 := by have := HA.out.2.2.2; have := ezn.out; omega
  have FI : Hid (∀ wF, Off gl w7 wF → ∃ vp vd oP oD ev, St3 w wF bp bq vp vd oP oD ev (T + zn)) := fun wF hof => by
    have ppF : PP wF v1 (ev i ++ Z) (oP i) := P6.out.same (fun k hk => (hof.block k (Nat.lt_of_lt_of_le (P6.out.lt hk) H7.out.size) (fun e => ng.out.1 (by rw [← e]; exact hk))).trans (H7.out.block k (P6.out.lt hk)))
    have ddF : DD wF w.heap.size v2 (ev i ++ Z) o6 := D6.out.1.same (fun k hk => (hof.block k (Nat.lt_of_lt_of_le (D6.out.1.lt hk) H7.out.size) (fun e => by
      rcases D6.out.2.2 k hk with q | q
      · exact ng.out.2 (by rw [← e]; exact q)
      · have := g5.out; omega)).trans (H7.out.block k (D6.out.1.lt hk)))
    have s4 := H4.out.1.size
    have s5 := P5.out.2.size
    have hc : Chg (fun k => oP i k ∨ oD i k ∨ w3.heap.size ≤ k) w3 wF := (((((Chg.of_below (S := fun k => oP i k ∨ oD i k ∨ w3.heap.size ≤ k) H4.out.1).trans P5.out.2 (fun k hk => .inl (.inl hk))).trans D6.out.2.1 (fun k hk => .inl (.inr (.inl hk)))).trans (Chg.of_below (S := fun _ => False) H7.out) (fun k hk => hk.elim))).trans (Chg.of_off hof) (fun k hk => .inr (by rw [hk]; exact H4.out.2.2.1))
    have nb : ∀ b, b = bp ∨ b = bq → ¬ (oP i b ∨ oD i b ∨ w3.heap.size ≤ b) := fun b hb q => by
      rcases q with q | q | q
      · have := (HS.out.lowP i i3 b q).2; rcases hb with rfl | rfl <;> simp_all
      · have := (HS.out.lowD i i3 b q).2; rcases hb with rfl | rfl <;> simp_all
      · have := HS.out.plt; have := HS.out.qlt; rcases hb with rfl | rfl <;> omega
    have ep := hc.block bp HS.out.plt (nb bp (.inl rfl))
    have eq' := hc.block bq HS.out.qlt (nb bq (.inr rfl))
    have CELL : ∀ j, j < 3 → wF.cell? ⟨bp, j, none⟩ = some (upN vp i v1 j) ∧ wF.cell? ⟨bq, j, none⟩ = some (upN vd i v2 j) := fun j hj => by
      have := HS.out.cell j hj
      rw [World.cell?_of_block (w := w3) (a := ⟨bp, j, none⟩) ep, World.cell?_of_block (w := w3) (a := ⟨bq, j, none⟩) eq', this.1, this.2]
      by_cases e : j = i
      · subst e; rw [upN_at, upN_at, ev1.out, ev2.out]; exact ⟨rfl, rfl⟩
      · rw [upN_ne _ _ e, upN_ne _ _ e]; exact ⟨rfl, rfl⟩
    have FREE : ∀ j, wF.frozen? ⟨bp, j, none⟩ = false ∧ wF.frozen? ⟨bq, j, none⟩ = false := fun j => ⟨frozen_same ep (HS.out.free j).1, frozen_same eq' (HS.out.free j).2⟩
    have LI := HS.out.len i i3
    have EZ := ezn.out
    exact ⟨_, _, _, _, _, HS.out.upd (T' := T + zn) i3 hc (fun k hk => by
      rcases hk with q | q | q
      · exact .inl q
      · exact .inr (.inl q)
      · exact .inr (.inr (.inr (.inr q)))) CELL FREE ppF ddF (fun k hk => .inl hk) (fun k hk => (D6.out.2.2 k hk).imp_right (fun q => by omega)) (fun k hk hk2 => by
        rcases D6.out.2.2 k hk2 with q | q
        · exact HS.out.apPD i i i3 i3 k hk q
        · have := PP1.out.lt hk; omega) (Nat.le_add_right _ _) (by rw [List.length_append]; omega)⟩
  go_wp2_with fail
  go_loopg [9] zn (fun k iv wr => ∃ j : Nat, k = zn - j ∧ j ≤ zn ∧ iv = .int .i64 (j : Int) ∧ (∃ L, L.length = zn + 70 ∧ Gb wr gl L) ∧ Off gl w7 wr)
  case atStart => exact ⟨0, rfl, Nat.zero_le _, rfl, ⟨_, by rw [List.length_append, List.length_replicate, ← ezn.out], R7.out⟩, Off.refl _ _⟩
  case round =>
    obtain ⟨j, hk, hj, rfl, ⟨L, lL, R8⟩, hof⟩ := hrel
    have HK : Hid (gk = zn - j ∧ j ≤ zn) := ⟨hk, hj⟩
    clear hk
    by_cases h8 : j = zn
    · subst h8
      have HF := FI.out wr hof
      have HG : Hid (∃ vp vd oP oD ev, St3 w wr bp bq vp vd oP oD ev (T + j)) := HF
      clear HF R8 hof
      go_wp2
      simp [bodyPost, results, Tryd.results9, go_sem]
      exact HG.out
    · have hlt : (j : Int) < (zn : Int) := by omega
      have g1 := R8.1 j (by omega)
      have f1 := R8.2 j (by omega)
      rw [Nat.zero_add] at g1
      have NX : Hid ((∃ L, L.length = zn + 70 ∧ Gb (wr.setCell ⟨gl, j, none⟩ (.int .u8 77)) gl L) ∧ Off gl w7 (wr.setCell ⟨gl, j, none⟩ (.int .u8 77))) := by
        have := R8.set (i := j) (by omega) 77
        rw [y77] at this
        exact ⟨⟨_, by rw [List.length_set, lL], this⟩, hof.setCell _⟩
      generalize Y (L.getD j 0) = yv at *
      clear R8 hof lL h8
      go_wp2
      go_roundg (zn - (j + 1))
      case measure => have := HK.out; omega
      case rel => exact ⟨j + 1, rfl, by have := HK.out; omega, by go_num, NX.out⟩
end Go.Proofs.YtallcfijdjdciaaDoor
