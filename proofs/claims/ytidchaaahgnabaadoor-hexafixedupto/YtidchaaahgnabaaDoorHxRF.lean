import Derived.Test.YtidchaaahgnabaaDoorHxR
/- Layer 8: the law HexaFixed. -/
namespace Go.Proofs.YtidchaaahgnabaaDoor
open Go.RowKit Go.Sort
set_option maxRecDepth 100000 in
set_option maxHeartbeats 4000000 in
theorem fixed_any {s : ByteArray} (hs : s.size < 1073741824) (w : World) (tb1 : Tab w 4 turnsN) (tb2 : Lns w 2 marksN) (tb3 : Tab w 3 turnsN) (tb4 : Lns w 0 marksN) :
    Calls Tryd.prog 5 #[.string s] w fun e w' => e = .returned (.bool true) ∧ Below w.heap.size w w' := by
  obtain ⟨A, eA⟩ : ∃ A, Hid (A = (paX s).map (Value.int .u8)) := ⟨_, rfl⟩
  obtain ⟨H, eH⟩ : ∃ H, Hid (H = (phX s).map (Value.int .u8)) := ⟨_, rfl⟩
  have P1 : Hid (∀ W, Below w.heap.size w W → Calls Tryd.prog 9 #[.string s] W fun e w' => e = .returned (.tuple #[.agg A.toArray, .int .i64 (paE s)]) ∧ Below W.heap.size W w') := fun W B => by
    rw [eA.out]; exact pa_any hs W (tb1.keep B) (tb2.keep B)
  have P2 : Hid (∀ W, Below w.heap.size w W → Calls Tryd.prog 24 #[.string s] W fun e w' => e = .returned (.tuple #[.agg A.toArray, .int .i64 (paE s)]) ∧ Below W.heap.size W w') := fun W B => by
    rw [eA.out]; exact rpa_any hs W (tb3.keep B) (tb4.keep B)
  have P3 : Hid (∀ W, Calls Tryd.prog 25 #[.string s] W fun e w' => e = .returned (.tuple #[.agg H.toArray, .int .i64 (phE s)]) ∧ Below W.heap.size W w') := fun W => by
    rw [eH.out]; exact ph_any hs W
  have P4 : Hid (∀ W, Calls Tryd.prog 26 #[.string s] W fun e w' => e = .returned (.tuple #[.agg H.toArray, .int .i64 (phE s)]) ∧ Below W.heap.size W w') := fun W => by
    rw [eH.out]; exact rph_any hs W
  have NU : Hid (∀ v w, Calls Tryd.prog 11 #[.int .i64 v] w fun e w' => e = .returned (.int .i64 v) ∧ Below w.heap.size w w') := fun v w => hnum_any v w
  have E1 := eq_adr (paX_len s) (paX_len s)
  have E2 := eq_hsh (phX_len s) (phX_len s)
  rw [decide_eq_true rfl, ← eA.out] at E1
  rw [decide_eq_true rfl, ← eH.out] at E2
  have LA : Hid (20 = A.length) := by rw [eA.out, List.length_map, paX_len]; exact rfl
  have LH : Hid (32 = H.length) := by rw [eH.out, List.length_map, phX_len]; exact rfl
  have lA : (Tryd.prog.info? 23).map (·.size) = some A.length := by rw [← LA.out]; kernel_rfl
  have lH : (Tryd.prog.info? 36).map (·.size) = some H.length := by rw [← LH.out]; kernel_rfl
  have oA : A.toArray.all (·.oneCell') = true := by rw [eA.out]; exact one_u8 _
  have oH : H.toArray.all (·.oneCell') = true := by rw [eH.out]; exact one_u8 _
  generalize paE s = ea at *
  generalize phE s = eh at *
  clear tb1 tb2 tb3 tb4 hs eA eH
  go_enter Tryd.func5, Tryd.ntmps5
  go_wp2_with fail
  with_reducible refine (P1.out w (Below.refl _ _)).mono ?_
  rintro e1 w1 ⟨rfl, B⟩
  go_wp2_with (refine wpList_put_new rfl 23 _ _ rfl A rfl rfl LA.out lA oA ?_; intro w2 hb2 R1; simp only [Act.put])
  refine calls_world (fun W => Below w.heap.size w W ∧ W.rangeAt w1.heap.size 0 A) ⟨B.trans (hb2.mono B.size), R1⟩ ?_
  clear B hb2 R1
  rintro W ⟨B, R1⟩
  generalize w1.heap.size = b1 at *
  clear w2 w1 P1
  with_reducible refine (P2.out W B).mono ?_
  rintro e1 w3 ⟨rfl, hb⟩
  replace B := B.trans (hb.mono B.size)
  replace R1 := range_keepV R1 hb
  clear hb W P2
  go_wp2_with (refine wpList_put_new rfl 23 _ _ rfl A rfl rfl LA.out lA oA ?_; intro w4 hb2 R2; simp only [Act.put])
  refine calls_world (fun W => Below w.heap.size w W ∧ W.rangeAt b1 0 A ∧ W.rangeAt w3.heap.size 0 A) ⟨B.trans (hb2.mono B.size), range_keepV R1 hb2, R2⟩ ?_
  clear B hb2 R1 R2
  rintro W ⟨B, R1, R2⟩
  generalize w3.heap.size = b2 at *
  clear w4 w3
  with_reducible refine (P3.out W).mono ?_
  rintro e1 w5 ⟨rfl, hb⟩
  replace B := B.trans (hb.mono B.size)
  replace R1 := range_keepV R1 hb
  replace R2 := range_keepV R2 hb
  clear hb W P3
  go_wp2_with (refine wpList_put_new rfl 36 _ _ rfl H rfl rfl LH.out lH oH ?_; intro w6 hb2 R3; simp only [Act.put])
  refine calls_world (fun W => Below w.heap.size w W ∧ W.rangeAt b1 0 A ∧ W.rangeAt b2 0 A ∧ W.rangeAt w5.heap.size 0 H) ⟨B.trans (hb2.mono B.size), range_keepV R1 hb2, range_keepV R2 hb2, R3⟩ ?_
  clear B hb2 R1 R2 R3
  rintro W ⟨B, R1, R2, R3⟩
  generalize w5.heap.size = b3 at *
  clear w6 w5
  with_reducible refine (P4.out W).mono ?_
  rintro e1 w7 ⟨rfl, hb⟩
  replace B := B.trans (hb.mono B.size)
  replace R1 := range_keepV R1 hb
  replace R2 := range_keepV R2 hb
  replace R3 := range_keepV R3 hb
  clear hb W P4
  have RF : Hid (∀ W, Below w7.heap.size w7 W → Below w.heap.size w W ∧ W.rangeAt b1 0 A ∧ W.rangeAt b2 0 A ∧ W.rangeAt b3 0 H) := fun W b => ⟨B.trans (b.mono B.size), range_keepV R1 b, range_keepV R2 b, range_keepV R3 b⟩
  clear B R1 R2 R3
  go_wp2_with first | ((refine wpList_put_new rfl 36 _ _ rfl H rfl rfl LH.out lH oH ?_); intro w8 hb8 R4; (obtain ⟨B, R1, R2, R3⟩ := RF.out w8 hb8); simp only [Act.put]) | (refine wpList_load_mid rfl 23 _ rfl b1 0 rfl A _ R1 Tryd.underlying23 rfl lA ?_) | (refine wpList_load_mid rfl 23 _ rfl b2 0 rfl A _ R2 Tryd.underlying23 rfl lA ?_)
  with_reducible refine (NU.out _ _).mono ?_
  rintro e1 w9 ⟨rfl, hb⟩
  replace B := B.trans (hb.mono B.size)
  replace R3 := range_keepV R3 hb
  replace R4 := range_keepV R4 hb
  clear hb R1 R2 hb8
  generalize w7.heap.size = b4 at *
  go_wp2_with first | ((with_reducible refine wpList_load_wantH (ty := 36) b3 0 H _ R3 Tryd.underlying36 ?_ lH ?_ ?_ ?_); rfl; rfl; rfl; simp only [Act.put, List.setIfInBounds_toArray, List.set_cons_succ, List.set_cons_zero]) | ((with_reducible refine wpList_load_wantH (ty := 36) b4 0 H _ R4 Tryd.underlying36 ?_ lH ?_ ?_ ?_); rfl; rfl; rfl; simp only [Act.put, List.setIfInBounds_toArray, List.set_cons_succ, List.set_cons_zero])
  with_reducible refine (NU.out _ _).mono ?_
  rintro e1 w10 ⟨rfl, hb⟩
  replace B := B.trans (hb.mono B.size)
  go_wp2
  simp [bodyPost, results, Tryd.results5, go_sem]
  exact B
end Go.Proofs.YtidchaaahgnabaaDoor
