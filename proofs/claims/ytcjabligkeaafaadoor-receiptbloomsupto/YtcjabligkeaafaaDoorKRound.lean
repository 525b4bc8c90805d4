import Derived.Test.YtcjabligkeaafaaDoorKSpec
import Derived.Test.YtcjabligkeaafaaDoorKBend
namespace Go.Proofs.YtcjabligkeaafaaDoor.K
open Go.RowKit Go.Sort

theorem set_all {T : List (BitVec 64)} (h : T.length = 25) (v0 v1 v2 v3 v4 v5 v6 v7 v8 v9 v10 v11 v12 v13 v14 v15 v16 v17 v18 v19 v20 v21 v22 v23 v24 : BitVec 64) :
    (((((((((((((((((((((((((T.set 0 v0).set (0 + 1) v1).set (0 + 2) v2).set (0 + 3) v3).set (0 + 4) v4).set 5 v5).set (5 + 1) v6).set (5 + 2) v7).set (5 + 3) v8).set (5 + 4) v9).set 10 v10).set (10 + 1) v11).set (10 + 2) v12).set (10 + 3) v13).set (10 + 4) v14).set 15 v15).set (15 + 1) v16).set (15 + 2) v17).set (15 + 3) v18).set (15 + 4) v19).set 20 v20).set (20 + 1) v21).set (20 + 2) v22).set (20 + 3) v23).set (20 + 4) v24) = [v0, v1, v2, v3, v4, v5, v6, v7, v8, v9, v10, v11, v12, v13, v14, v15, v16, v17, v18, v19, v20, v21, v22, v23, v24] := by
  obtain ⟨x0, x1, x2, x3, x4, x5, x6, x7, x8, x9, x10, x11, x12, x13, x14, x15, x16, x17, x18, x19, x20, x21, x22, x23, x24, rfl⟩ := len25 h
  simp only [Nat.reduceAdd, List.set_cons_zero, List.set_cons_succ]

set_option maxRecDepth 100000 in
set_option maxHeartbeats 4000000 in
theorem round_any {bt ba : Nat} (ne : ba ≠ bt) (nt : 1 ≠ bt) {A T : List (BitVec 64)} (lA : A.length = 25) (lT : T.length = 25) (m : BitVec 64) (w : World) (hA : Lns w ba A) (hT : Lns w bt T) (fT : Loose w bt 25) (ht : Tab w 1 turnsN) :
    Calls Tryd.prog 27 #[.pointer (some ⟨bt, 0, none⟩), .pointer (some ⟨ba, 0, none⟩), .int .u64 (V m)] w fun e w' => e = .returned (.tuple #[]) ∧ Lns w' bt (rnd A m) ∧ Loose w' bt 25 ∧ Off bt w w' := by
  have HO : Hid (Off bt w w) := Off.refl bt w
  have LA : Hid (A.length = 25) := lA
  have LT : Hid (T.length = 25) := lT
  have LTT : Hid (T.length = 25) := lT
  have NE : Hid (ba ≠ bt ∧ 1 ≠ bt) := ⟨ne, nt⟩
  have HA : Hid (Lns w ba A) := hA
  have HT : Hid (Lns w bt T ∧ Loose w bt 25) := ⟨hT, fT⟩
  have HH : Hid (Tab w 1 turnsN) := ht
  clear lA lT ne nt hA hT fT ht
  go_enter Tryd.func27, Tryd.ntmps27
  have g0 := HA.out 0 (by rw [LA.out]; decide)
  have g1 := HA.out 5 (by rw [LA.out]; decide)
  have g2 := HA.out 10 (by rw [LA.out]; decide)
  have g3 := HA.out 15 (by rw [LA.out]; decide)
  have g4 := HA.out 20 (by rw [LA.out]; decide)
  obtain ⟨a0, k0⟩ : ∃ a, a = A.getD 0 0 := ⟨_, rfl⟩
  rw [← k0] at g0
  obtain ⟨a1, k1⟩ : ∃ a, a = A.getD 5 0 := ⟨_, rfl⟩
  rw [← k1] at g1
  obtain ⟨a2, k2⟩ : ∃ a, a = A.getD 10 0 := ⟨_, rfl⟩
  rw [← k2] at g2
  obtain ⟨a3, k3⟩ : ∃ a, a = A.getD 15 0 := ⟨_, rfl⟩
  rw [← k3] at g3
  obtain ⟨a4, k4⟩ : ∃ a, a = A.getD 20 0 := ⟨_, rfl⟩
  rw [← k4] at g4
  obtain ⟨c0, kc0⟩ : ∃ c, c = a0 ^^^ a1 ^^^ a2 ^^^ a3 ^^^ a4 := ⟨_, rfl⟩
  have KC0 : Hid (c0 = colX A 0) := by rw [kc0, k0, k1, k2, k3, k4]; exact rfl
  have v1 := V_xor a0 a1; have v2 := V_xor (a0 ^^^ a1) a2; have v3 := V_xor (a0 ^^^ a1 ^^^ a2) a3
  have v4 : bits .xor .u64 (V (a0 ^^^ a1 ^^^ a2 ^^^ a3)) (V a4) = V c0 := by rw [kc0]; exact V_xor _ _
  clear kc0 k0 k1 k2 k3 k4
  have h0 := fun d os => cell_regrown g0 d os
  have h1 := fun d os => cell_regrown g1 d os
  have h2 := fun d os => cell_regrown g2 d os
  have h3 := fun d os => cell_regrown g3 d os
  have h4 := fun d os => cell_regrown g4 d os
  clear g0 g1 g2 g3 g4
  go_wp2_with fail
  refine wp_region_quiet_below (by kernel_rfl) (by kernel_rfl) ?_
  repeat
    first
      | go_big_quiet_skip
      | (go_big_quiet_want; go_big_quiet_op; go_big_quiet_on)
  refine wpQuiet_nil ?_
  rintro w0 ⟨p, rfl⟩
  have hb := below_regrown w p.d p.os
  generalize grow (redrawn w p.d) p.os = w0 at *
  replace HO := HO.out.trans (.of_below hb)
  replace HA := HA.out.keep hb
  replace HT := And.intro (HT.out.1.keep hb) (HT.out.2.keep hb (HT.out.1.lt (by rw [LT.out]; decide)))
  replace HH := HH.out.keep hb
  replace HO : Hid (Off bt w w0) := HO
  replace HA : Hid (Lns w0 ba A) := HA
  replace HT : Hid (Lns w0 bt T ∧ Loose w0 bt 25) := HT
  replace HH : Hid (Tab w0 1 turnsN) := HH
  clear h0 h1 h2 h3 h4 v1 v2 v3 v4 hb
  have g0 := HA.out 1 (by rw [LA.out]; decide)
  have g1 := HA.out 6 (by rw [LA.out]; decide)
  have g2 := HA.out 11 (by rw [LA.out]; decide)
  have g3 := HA.out 16 (by rw [LA.out]; decide)
  have g4 := HA.out 21 (by rw [LA.out]; decide)
  obtain ⟨a0, k0⟩ : ∃ a, a = A.getD 1 0 := ⟨_, rfl⟩
  rw [← k0] at g0
  obtain ⟨a1, k1⟩ : ∃ a, a = A.getD 6 0 := ⟨_, rfl⟩
  rw [← k1] at g1
  obtain ⟨a2, k2⟩ : ∃ a, a = A.getD 11 0 := ⟨_, rfl⟩
  rw [← k2] at g2
  obtain ⟨a3, k3⟩ : ∃ a, a = A.getD 16 0 := ⟨_, rfl⟩
  rw [← k3] at g3
  obtain ⟨a4, k4⟩ : ∃ a, a = A.getD 21 0 := ⟨_, rfl⟩
  rw [← k4] at g4
  obtain ⟨c1, kc1⟩ : ∃ c, c = a0 ^^^ a1 ^^^ a2 ^^^ a3 ^^^ a4 := ⟨_, rfl⟩
  have KC1 : Hid (c1 = colX A 1) := by rw [kc1, k0, k1, k2, k3, k4]; exact rfl
  have v1 := V_xor a0 a1; have v2 := V_xor (a0 ^^^ a1) a2; have v3 := V_xor (a0 ^^^ a1 ^^^ a2) a3
  have v4 : bits .xor .u64 (V (a0 ^^^ a1 ^^^ a2 ^^^ a3)) (V a4) = V c1 := by rw [kc1]; exact V_xor _ _
  clear kc1 k0 k1 k2 k3 k4
  have h0 := fun d os => cell_regrown g0 d os
  have h1 := fun d os => cell_regrown g1 d os
  have h2 := fun d os => cell_regrown g2 d os
  have h3 := fun d os => cell_regrown g3 d os
  have h4 := fun d os => cell_regrown g4 d os
  clear g0 g1 g2 g3 g4
  go_wp2_with fail
  refine wp_region_quiet_below (by kernel_rfl) (by kernel_rfl) ?_
  repeat
    first
      | go_big_quiet_skip
      | (go_big_quiet_want; go_big_quiet_op; go_big_quiet_on)
  refine wpQuiet_nil ?_
  rintro w1 ⟨p, rfl⟩
  have hb := below_regrown w0 p.d p.os
  generalize grow (redrawn w0 p.d) p.os = w1 at *
  replace HO := HO.out.trans (.of_below hb)
  replace HA := HA.out.keep hb
  replace HT := And.intro (HT.out.1.keep hb) (HT.out.2.keep hb (HT.out.1.lt (by rw [LT.out]; decide)))
  replace HH := HH.out.keep hb
  replace HO : Hid (Off bt w w1) := HO
  replace HA : Hid (Lns w1 ba A) := HA
  replace HT : Hid (Lns w1 bt T ∧ Loose w1 bt 25) := HT
  replace HH : Hid (Tab w1 1 turnsN) := HH
  clear h0 h1 h2 h3 h4 v1 v2 v3 v4 hb
  have g0 := HA.out 2 (by rw [LA.out]; decide)
  have g1 := HA.out 7 (by rw [LA.out]; decide)
  have g2 := HA.out 12 (by rw [LA.out]; decide)
  have g3 := HA.out 17 (by rw [LA.out]; decide)
  have g4 := HA.out 22 (by rw [LA.out]; decide)
  obtain ⟨a0, k0⟩ : ∃ a, a = A.getD 2 0 := ⟨_, rfl⟩
  rw [← k0] at g0
  obtain ⟨a1, k1⟩ : ∃ a, a = A.getD 7 0 := ⟨_, rfl⟩
  rw [← k1] at g1
  obtain ⟨a2, k2⟩ : ∃ a, a = A.getD 12 0 := ⟨_, rfl⟩
  rw [← k2] at g2
  obtain ⟨a3, k3⟩ : ∃ a, a = A.getD 17 0 := ⟨_, rfl⟩
  rw [← k3] at g3
  obtain ⟨a4, k4⟩ : ∃ a, a = A.getD 22 0 := ⟨_, rfl⟩
  rw [← k4] at g4
  obtain ⟨c2, kc2⟩ : ∃ c, c = a0 ^^^ a1 ^^^ a2 ^^^ a3 ^^^ a4 := ⟨_, rfl⟩
  have KC2 : Hid (c2 = colX A 2) := by rw [kc2, k0, k1, k2, k3, k4]; exact rfl
  have v1 := V_xor a0 a1; have v2 := V_xor (a0 ^^^ a1) a2; have v3 := V_xor (a0 ^^^ a1 ^^^ a2) a3
  have v4 : bits .xor .u64 (V (a0 ^^^ a1 ^^^ a2 ^^^ a3)) (V a4) = V c2 := by rw [kc2]; exact V_xor _ _
  clear kc2 k0 k1 k2 k3 k4
  have h0 := fun d os => cell_regrown g0 d os
  have h1 := fun d os => cell_regrown g1 d os
  have h2 := fun d os => cell_regrown g2 d os
  have h3 := fun d os => cell_regrown g3 d os
  have h4 := fun d os => cell_regrown g4 d os
  clear g0 g1 g2 g3 g4
  go_wp2_with fail
  refine wp_region_quiet_below (by kernel_rfl) (by kernel_rfl) ?_
  repeat
    first
      | go_big_quiet_skip
      | (go_big_quiet_want; go_big_quiet_op; go_big_quiet_on)
  refine wpQuiet_nil ?_
  rintro w2 ⟨p, rfl⟩
  have hb := below_regrown w1 p.d p.os
  generalize grow (redrawn w1 p.d) p.os = w2 at *
  replace HO := HO.out.trans (.of_below hb)
  replace HA := HA.out.keep hb
  replace HT := And.intro (HT.out.1.keep hb) (HT.out.2.keep hb (HT.out.1.lt (by rw [LT.out]; decide)))
  replace HH := HH.out.keep hb
  replace HO : Hid (Off bt w w2) := HO
  replace HA : Hid (Lns w2 ba A) := HA
  replace HT : Hid (Lns w2 bt T ∧ Loose w2 bt 25) := HT
  replace HH : Hid (Tab w2 1 turnsN) := HH
  clear h0 h1 h2 h3 h4 v1 v2 v3 v4 hb
  have g0 := HA.out 3 (by rw [LA.out]; decide)
  have g1 := HA.out 8 (by rw [LA.out]; decide)
  have g2 := HA.out 13 (by rw [LA.out]; decide)
  have g3 := HA.out 18 (by rw [LA.out]; decide)
  have g4 := HA.out 23 (by rw [LA.out]; decide)
  obtain ⟨a0, k0⟩ : ∃ a, a = A.getD 3 0 := ⟨_, rfl⟩
  rw [← k0] at g0
  obtain ⟨a1, k1⟩ : ∃ a, a = A.getD 8 0 := ⟨_, rfl⟩
  rw [← k1] at g1
  obtain ⟨a2, k2⟩ : ∃ a, a = A.getD 13 0 := ⟨_, rfl⟩
  rw [← k2] at g2
  obtain ⟨a3, k3⟩ : ∃ a, a = A.getD 18 0 := ⟨_, rfl⟩
  rw [← k3] at g3
  obtain ⟨a4, k4⟩ : ∃ a, a = A.getD 23 0 := ⟨_, rfl⟩
  rw [← k4] at g4
  obtain ⟨c3, kc3⟩ : ∃ c, c = a0 ^^^ a1 ^^^ a2 ^^^ a3 ^^^ a4 := ⟨_, rfl⟩
  have KC3 : Hid (c3 = colX A 3) := by rw [kc3, k0, k1, k2, k3, k4]; exact rfl
  have v1 := V_xor a0 a1; have v2 := V_xor (a0 ^^^ a1) a2; have v3 := V_xor (a0 ^^^ a1 ^^^ a2) a3
  have v4 : bits .xor .u64 (V (a0 ^^^ a1 ^^^ a2 ^^^ a3)) (V a4) = V c3 := by rw [kc3]; exact V_xor _ _
  clear kc3 k0 k1 k2 k3 k4
  have h0 := fun d os => cell_regrown g0 d os
  have h1 := fun d os => cell_regrown g1 d os
  have h2 := fun d os => cell_regrown g2 d os
  have h3 := fun d os => cell_regrown g3 d os
  have h4 := fun d os => cell_regrown g4 d os
  clear g0 g1 g2 g3 g4
  go_wp2_with fail
  refine wp_region_quiet_below (by kernel_rfl) (by kernel_rfl) ?_
  repeat
    first
      | go_big_quiet_skip
      | (go_big_quiet_want; go_big_quiet_op; go_big_quiet_on)
  refine wpQuiet_nil ?_
  rintro w3 ⟨p, rfl⟩
  have hb := below_regrown w2 p.d p.os
  generalize grow (redrawn w2 p.d) p.os = w3 at *
  replace HO := HO.out.trans (.of_below hb)
  replace HA := HA.out.keep hb
  replace HT := And.intro (HT.out.1.keep hb) (HT.out.2.keep hb (HT.out.1.lt (by rw [LT.out]; decide)))
  replace HH := HH.out.keep hb
  replace HO : Hid (Off bt w w3) := HO
  replace HA : Hid (Lns w3 ba A) := HA
  replace HT : Hid (Lns w3 bt T ∧ Loose w3 bt 25) := HT
  replace HH : Hid (Tab w3 1 turnsN) := HH
  clear h0 h1 h2 h3 h4 v1 v2 v3 v4 hb
  have g0 := HA.out 4 (by rw [LA.out]; decide)
  have g1 := HA.out 9 (by rw [LA.out]; decide)
  have g2 := HA.out 14 (by rw [LA.out]; decide)
  have g3 := HA.out 19 (by rw [LA.out]; decide)
  have g4 := HA.out 24 (by rw [LA.out]; decide)
  obtain ⟨a0, k0⟩ : ∃ a, a = A.getD 4 0 := ⟨_, rfl⟩
  rw [← k0] at g0
  obtain ⟨a1, k1⟩ : ∃ a, a = A.getD 9 0 := ⟨_, rfl⟩
  rw [← k1] at g1
  obtain ⟨a2, k2⟩ : ∃ a, a = A.getD 14 0 := ⟨_, rfl⟩
  rw [← k2] at g2
  obtain ⟨a3, k3⟩ : ∃ a, a = A.getD 19 0 := ⟨_, rfl⟩
  rw [← k3] at g3
  obtain ⟨a4, k4⟩ : ∃ a, a = A.getD 24 0 := ⟨_, rfl⟩
  rw [← k4] at g4
  obtain ⟨c4, kc4⟩ : ∃ c, c = a0 ^^^ a1 ^^^ a2 ^^^ a3 ^^^ a4 := ⟨_, rfl⟩
  have KC4 : Hid (c4 = colX A 4) := by rw [kc4, k0, k1, k2, k3, k4]; exact rfl
  have v1 := V_xor a0 a1; have v2 := V_xor (a0 ^^^ a1) a2; have v3 := V_xor (a0 ^^^ a1 ^^^ a2) a3
  have v4 : bits .xor .u64 (V (a0 ^^^ a1 ^^^ a2 ^^^ a3)) (V a4) = V c4 := by rw [kc4]; exact V_xor _ _
  clear kc4 k0 k1 k2 k3 k4
  have h0 := fun d os => cell_regrown g0 d os
  have h1 := fun d os => cell_regrown g1 d os
  have h2 := fun d os => cell_regrown g2 d os
  have h3 := fun d os => cell_regrown g3 d os
  have h4 := fun d os => cell_regrown g4 d os
  clear g0 g1 g2 g3 g4
  go_wp2_with fail
  refine wp_region_quiet_below (by kernel_rfl) (by kernel_rfl) ?_
  repeat
    first
      | go_big_quiet_skip
      | (go_big_quiet_want; go_big_quiet_op; go_big_quiet_on)
  refine wpQuiet_nil ?_
  rintro w4 ⟨p, rfl⟩
  have hb := below_regrown w3 p.d p.os
  generalize grow (redrawn w3 p.d) p.os = w4 at *
  replace HO := HO.out.trans (.of_below hb)
  replace HA := HA.out.keep hb
  replace HT := And.intro (HT.out.1.keep hb) (HT.out.2.keep hb (HT.out.1.lt (by rw [LT.out]; decide)))
  replace HH := HH.out.keep hb
  replace HO : Hid (Off bt w w4) := HO
  replace HA : Hid (Lns w4 ba A) := HA
  replace HT : Hid (Lns w4 bt T ∧ Loose w4 bt 25) := HT
  replace HH : Hid (Tab w4 1 turnsN) := HH
  clear h0 h1 h2 h3 h4 v1 v2 v3 v4 hb
  obtain ⟨d0, kd0⟩ : ∃ d, d = c4 ^^^ c1.rotateLeft 1 := ⟨_, rfl⟩
  have KD0 : Hid (d0 = addX A 0) := by rw [kd0, KC4.out, KC1.out]; exact rfl
  have vd : bits .xor .u64 (V c4) (V (c1.rotateLeft 1)) = V d0 := by rw [kd0]; exact V_xor _ _
  go_wp2_with fail
  refine (rotl_any c1 (k := 1) (by decide) _).mono ?_
  rintro e u ⟨rfl, rfl⟩
  clear kd0


  obtain ⟨d1, kd1⟩ : ∃ d, d = c0 ^^^ c2.rotateLeft 1 := ⟨_, rfl⟩
  have KD1 : Hid (d1 = addX A 1) := by rw [kd1, KC0.out, KC2.out]; exact rfl
  have vd : bits .xor .u64 (V c0) (V (c2.rotateLeft 1)) = V d1 := by rw [kd1]; exact V_xor _ _
  go_wp2_with fail
  refine (rotl_any c2 (k := 1) (by decide) _).mono ?_
  rintro e u ⟨rfl, rfl⟩
  clear kd1


  obtain ⟨d2, kd2⟩ : ∃ d, d = c1 ^^^ c3.rotateLeft 1 := ⟨_, rfl⟩
  have KD2 : Hid (d2 = addX A 2) := by rw [kd2, KC1.out, KC3.out]; exact rfl
  have vd : bits .xor .u64 (V c1) (V (c3.rotateLeft 1)) = V d2 := by rw [kd2]; exact V_xor _ _
  go_wp2_with fail
  refine (rotl_any c3 (k := 1) (by decide) _).mono ?_
  rintro e u ⟨rfl, rfl⟩
  clear kd2


  obtain ⟨d3, kd3⟩ : ∃ d, d = c2 ^^^ c4.rotateLeft 1 := ⟨_, rfl⟩
  have KD3 : Hid (d3 = addX A 3) := by rw [kd3, KC2.out, KC4.out]; exact rfl
  have vd : bits .xor .u64 (V c2) (V (c4.rotateLeft 1)) = V d3 := by rw [kd3]; exact V_xor _ _
  go_wp2_with fail
  refine (rotl_any c4 (k := 1) (by decide) _).mono ?_
  rintro e u ⟨rfl, rfl⟩
  clear kd3


  obtain ⟨d4, kd4⟩ : ∃ d, d = c3 ^^^ c0.rotateLeft 1 := ⟨_, rfl⟩
  have KD4 : Hid (d4 = addX A 4) := by rw [kd4, KC3.out, KC0.out]; exact rfl
  have vd : bits .xor .u64 (V c3) (V (c0.rotateLeft 1)) = V d4 := by rw [kd4]; exact V_xor _ _
  go_wp2_with fail
  refine (rotl_any c0 (k := 1) (by decide) _).mono ?_
  rintro e u ⟨rfl, rfl⟩
  clear kd4
  go_wp2_with fail
  clear vd
  go_wp2_with fail
  refine (turn_any (x := A.getD 0 0) (k := turnsN.getD 0 0) d0 (i := 0) (by decide) (by decide) _ (HA.out 0 (by rw [LA.out]; decide)) (HH.out 0 (by decide))).mono ?_
  rintro e w5 ⟨rfl, hb⟩
  replace HO : Hid (Off bt w w5) := HO.out.trans (.of_below hb)
  replace HA : Hid (Lns w5 ba A) := HA.out.keep hb
  replace HT : Hid (Lns w5 bt T ∧ Loose w5 bt 25) := And.intro (HT.out.1.keep hb) (HT.out.2.keep hb (HT.out.1.lt (by rw [LT.out]; decide)))
  replace HH : Hid (Tab w5 1 turnsN) := HH.out.keep hb
  clear hb
  obtain ⟨u0, ku0⟩ : ∃ u, (A.getD 0 0 ^^^ d0).rotateLeft (turnsN.getD 0 0) = u := ⟨_, rfl⟩
  rw [ku0]
  have U0 : Hid (u0 = turX A 0) := by rw [← ku0, KD0.out]; exact rfl
  clear ku0
  go_wp2_with fail
  refine (turn_any (x := A.getD 6 0) (k := turnsN.getD 6 0) d1 (i := 6) (by decide) (by decide) _ (HA.out 6 (by rw [LA.out]; decide)) (HH.out 6 (by decide))).mono ?_
  rintro e w6 ⟨rfl, hb⟩
  replace HO : Hid (Off bt w w6) := HO.out.trans (.of_below hb)
  replace HA : Hid (Lns w6 ba A) := HA.out.keep hb
  replace HT : Hid (Lns w6 bt T ∧ Loose w6 bt 25) := And.intro (HT.out.1.keep hb) (HT.out.2.keep hb (HT.out.1.lt (by rw [LT.out]; decide)))
  replace HH : Hid (Tab w6 1 turnsN) := HH.out.keep hb
  clear hb
  obtain ⟨u6, ku6⟩ : ∃ u, (A.getD 6 0 ^^^ d1).rotateLeft (turnsN.getD 6 0) = u := ⟨_, rfl⟩
  rw [ku6]
  have U6 : Hid (u6 = turX A 6) := by rw [← ku6, KD1.out]; exact rfl
  clear ku6
  go_wp2_with fail
  refine (turn_any (x := A.getD 12 0) (k := turnsN.getD 12 0) d2 (i := 12) (by decide) (by decide) _ (HA.out 12 (by rw [LA.out]; decide)) (HH.out 12 (by decide))).mono ?_
  rintro e w7 ⟨rfl, hb⟩
  replace HO : Hid (Off bt w w7) := HO.out.trans (.of_below hb)
  replace HA : Hid (Lns w7 ba A) := HA.out.keep hb
  replace HT : Hid (Lns w7 bt T ∧ Loose w7 bt 25) := And.intro (HT.out.1.keep hb) (HT.out.2.keep hb (HT.out.1.lt (by rw [LT.out]; decide)))
  replace HH : Hid (Tab w7 1 turnsN) := HH.out.keep hb
  clear hb
  obtain ⟨u12, ku12⟩ : ∃ u, (A.getD 12 0 ^^^ d2).rotateLeft (turnsN.getD 12 0) = u := ⟨_, rfl⟩
  rw [ku12]
  have U12 : Hid (u12 = turX A 12) := by rw [← ku12, KD2.out]; exact rfl
  clear ku12
  go_wp2_with fail
  refine (turn_any (x := A.getD 18 0) (k := turnsN.getD 18 0) d3 (i := 18) (by decide) (by decide) _ (HA.out 18 (by rw [LA.out]; decide)) (HH.out 18 (by decide))).mono ?_
  rintro e w8 ⟨rfl, hb⟩
  replace HO : Hid (Off bt w w8) := HO.out.trans (.of_below hb)
  replace HA : Hid (Lns w8 ba A) := HA.out.keep hb
  replace HT : Hid (Lns w8 bt T ∧ Loose w8 bt 25) := And.intro (HT.out.1.keep hb) (HT.out.2.keep hb (HT.out.1.lt (by rw [LT.out]; decide)))
  replace HH : Hid (Tab w8 1 turnsN) := HH.out.keep hb
  clear hb
  obtain ⟨u18, ku18⟩ : ∃ u, (A.getD 18 0 ^^^ d3).rotateLeft (turnsN.getD 18 0) = u := ⟨_, rfl⟩
  rw [ku18]
  have U18 : Hid (u18 = turX A 18) := by rw [← ku18, KD3.out]; exact rfl
  clear ku18
  go_wp2_with fail
  refine (turn_any (x := A.getD 24 0) (k := turnsN.getD 24 0) d4 (i := 24) (by decide) (by decide) _ (HA.out 24 (by rw [LA.out]; decide)) (HH.out 24 (by decide))).mono ?_
  rintro e w9 ⟨rfl, hb⟩
  replace HO : Hid (Off bt w w9) := HO.out.trans (.of_below hb)
  replace HA : Hid (Lns w9 ba A) := HA.out.keep hb
  replace HT : Hid (Lns w9 bt T ∧ Loose w9 bt 25) := And.intro (HT.out.1.keep hb) (HT.out.2.keep hb (HT.out.1.lt (by rw [LT.out]; decide)))
  replace HH : Hid (Tab w9 1 turnsN) := HH.out.keep hb
  clear hb
  obtain ⟨u24, ku24⟩ : ∃ u, (A.getD 24 0 ^^^ d4).rotateLeft (turnsN.getD 24 0) = u := ⟨_, rfl⟩
  rw [ku24]
  have U24 : Hid (u24 = turX A 24) := by rw [← ku24, KD4.out]; exact rfl
  clear ku24
  go_wp2_with fail
  refine (bend_any (y := 0) u0 u6 u12 u18 u24 (by rw [LT.out]; decide) (by rw [LT.out]; decide) _ HT.out.1 (by rw [LT.out]; exact HT.out.2)).mono ?_
  rintro e w10 ⟨rfl, hl, hf, ho⟩
  replace HO : Hid (Off bt w w10) := HO.out.trans ho
  replace HA : Hid (Lns w10 ba A) := ho.lns NE.out.1 HA.out
  replace HH : Hid (Tab w10 1 turnsN) := ho.tab NE.out.2 HH.out
  rw [LT.out] at hf
  obtain ⟨T0, kT0⟩ : ∃ t, t = ((((T.set 0 (u0 ^^^ (~~~u6 &&& u12))).set (0 + 1) (u6 ^^^ (~~~u12 &&& u18))).set (0 + 2) (u12 ^^^ (~~~u18 &&& u24))).set (0 + 3) (u18 ^^^ (~~~u24 &&& u0))).set (0 + 4) (u24 ^^^ (~~~u0 &&& u6)) := ⟨_, rfl⟩
  replace HT : Hid (Lns w10 bt T0 ∧ Loose w10 bt 25) := ⟨by rw [kT0]; exact hl, hf⟩
  have E0 : Hid (T0 = ((((T.set 0 (u0 ^^^ (~~~u6 &&& u12))).set (0 + 1) (u6 ^^^ (~~~u12 &&& u18))).set (0 + 2) (u12 ^^^ (~~~u18 &&& u24))).set (0 + 3) (u18 ^^^ (~~~u24 &&& u0))).set (0 + 4) (u24 ^^^ (~~~u0 &&& u6))) := kT0
  have LT2 : Hid (T0.length = 25) := by rw [kT0]; simp only [List.length_set]; exact LT.out
  clear hl hf ho kT0 LT
  have LT : Hid (T0.length = 25) := LT2
  clear LT2
  go_wp2_with fail
  refine (turn_any (x := A.getD 3 0) (k := turnsN.getD 3 0) d3 (i := 3) (by decide) (by decide) _ (HA.out 3 (by rw [LA.out]; decide)) (HH.out 3 (by decide))).mono ?_
  rintro e w11 ⟨rfl, hb⟩
  replace HO : Hid (Off bt w w11) := HO.out.trans (.of_below hb)
  replace HA : Hid (Lns w11 ba A) := HA.out.keep hb
  replace HT : Hid (Lns w11 bt T0 ∧ Loose w11 bt 25) := And.intro (HT.out.1.keep hb) (HT.out.2.keep hb (HT.out.1.lt (by rw [LT.out]; decide)))
  replace HH : Hid (Tab w11 1 turnsN) := HH.out.keep hb
  clear hb
  obtain ⟨u3, ku3⟩ : ∃ u, (A.getD 3 0 ^^^ d3).rotateLeft (turnsN.getD 3 0) = u := ⟨_, rfl⟩
  rw [ku3]
  have U3 : Hid (u3 = turX A 3) := by rw [← ku3, KD3.out]; exact rfl
  clear ku3
  go_wp2_with fail
  refine (turn_any (x := A.getD 9 0) (k := turnsN.getD 9 0) d4 (i := 9) (by decide) (by decide) _ (HA.out 9 (by rw [LA.out]; decide)) (HH.out 9 (by decide))).mono ?_
  rintro e w12 ⟨rfl, hb⟩
  replace HO : Hid (Off bt w w12) := HO.out.trans (.of_below hb)
  replace HA : Hid (Lns w12 ba A) := HA.out.keep hb
  replace HT : Hid (Lns w12 bt T0 ∧ Loose w12 bt 25) := And.intro (HT.out.1.keep hb) (HT.out.2.keep hb (HT.out.1.lt (by rw [LT.out]; decide)))
  replace HH : Hid (Tab w12 1 turnsN) := HH.out.keep hb
  clear hb
  obtain ⟨u9, ku9⟩ : ∃ u, (A.getD 9 0 ^^^ d4).rotateLeft (turnsN.getD 9 0) = u := ⟨_, rfl⟩
  rw [ku9]
  have U9 : Hid (u9 = turX A 9) := by rw [← ku9, KD4.out]; exact rfl
  clear ku9
  go_wp2_with fail
  refine (turn_any (x := A.getD 10 0) (k := turnsN.getD 10 0) d0 (i := 10) (by decide) (by decide) _ (HA.out 10 (by rw [LA.out]; decide)) (HH.out 10 (by decide))).mono ?_
  rintro e w13 ⟨rfl, hb⟩
  replace HO : Hid (Off bt w w13) := HO.out.trans (.of_below hb)
  replace HA : Hid (Lns w13 ba A) := HA.out.keep hb
  replace HT : Hid (Lns w13 bt T0 ∧ Loose w13 bt 25) := And.intro (HT.out.1.keep hb) (HT.out.2.keep hb (HT.out.1.lt (by rw [LT.out]; decide)))
  replace HH : Hid (Tab w13 1 turnsN) := HH.out.keep hb
  clear hb
  obtain ⟨u10, ku10⟩ : ∃ u, (A.getD 10 0 ^^^ d0).rotateLeft (turnsN.getD 10 0) = u := ⟨_, rfl⟩
  rw [ku10]
  have U10 : Hid (u10 = turX A 10) := by rw [← ku10, KD0.out]; exact rfl
  clear ku10
  go_wp2_with fail
  refine (turn_any (x := A.getD 16 0) (k := turnsN.getD 16 0) d1 (i := 16) (by decide) (by decide) _ (HA.out 16 (by rw [LA.out]; decide)) (HH.out 16 (by decide))).mono ?_
  rintro e w14 ⟨rfl, hb⟩
  replace HO : Hid (Off bt w w14) := HO.out.trans (.of_below hb)
  replace HA : Hid (Lns w14 ba A) := HA.out.keep hb
  replace HT : Hid (Lns w14 bt T0 ∧ Loose w14 bt 25) := And.intro (HT.out.1.keep hb) (HT.out.2.keep hb (HT.out.1.lt (by rw [LT.out]; decide)))
  replace HH : Hid (Tab w14 1 turnsN) := HH.out.keep hb
  clear hb
  obtain ⟨u16, ku16⟩ : ∃ u, (A.getD 16 0 ^^^ d1).rotateLeft (turnsN.getD 16 0) = u := ⟨_, rfl⟩
  rw [ku16]
  have U16 : Hid (u16 = turX A 16) := by rw [← ku16, KD1.out]; exact rfl
  clear ku16
  go_wp2_with fail
  refine (turn_any (x := A.getD 22 0) (k := turnsN.getD 22 0) d2 (i := 22) (by decide) (by decide) _ (HA.out 22 (by rw [LA.out]; decide)) (HH.out 22 (by decide))).mono ?_
  rintro e w15 ⟨rfl, hb⟩
  replace HO : Hid (Off bt w w15) := HO.out.trans (.of_below hb)
  replace HA : Hid (Lns w15 ba A) := HA.out.keep hb
  replace HT : Hid (Lns w15 bt T0 ∧ Loose w15 bt 25) := And.intro (HT.out.1.keep hb) (HT.out.2.keep hb (HT.out.1.lt (by rw [LT.out]; decide)))
  replace HH : Hid (Tab w15 1 turnsN) := HH.out.keep hb
  clear hb
  obtain ⟨u22, ku22⟩ : ∃ u, (A.getD 22 0 ^^^ d2).rotateLeft (turnsN.getD 22 0) = u := ⟨_, rfl⟩
  rw [ku22]
  have U22 : Hid (u22 = turX A 22) := by rw [← ku22, KD2.out]; exact rfl
  clear ku22
  go_wp2_with fail
  refine (bend_any (y := 5) u3 u9 u10 u16 u22 (by rw [LT.out]; decide) (by rw [LT.out]; decide) _ HT.out.1 (by rw [LT.out]; exact HT.out.2)).mono ?_
  rintro e w16 ⟨rfl, hl, hf, ho⟩
  replace HO : Hid (Off bt w w16) := HO.out.trans ho
  replace HA : Hid (Lns w16 ba A) := ho.lns NE.out.1 HA.out
  replace HH : Hid (Tab w16 1 turnsN) := ho.tab NE.out.2 HH.out
  rw [LT.out] at hf
  obtain ⟨T5, kT5⟩ : ∃ t, t = ((((T0.set 5 (u3 ^^^ (~~~u9 &&& u10))).set (5 + 1) (u9 ^^^ (~~~u10 &&& u16))).set (5 + 2) (u10 ^^^ (~~~u16 &&& u22))).set (5 + 3) (u16 ^^^ (~~~u22 &&& u3))).set (5 + 4) (u22 ^^^ (~~~u3 &&& u9)) := ⟨_, rfl⟩
  replace HT : Hid (Lns w16 bt T5 ∧ Loose w16 bt 25) := ⟨by rw [kT5]; exact hl, hf⟩
  have E5 : Hid (T5 = ((((T0.set 5 (u3 ^^^ (~~~u9 &&& u10))).set (5 + 1) (u9 ^^^ (~~~u10 &&& u16))).set (5 + 2) (u10 ^^^ (~~~u16 &&& u22))).set (5 + 3) (u16 ^^^ (~~~u22 &&& u3))).set (5 + 4) (u22 ^^^ (~~~u3 &&& u9))) := kT5
  have LT2 : Hid (T5.length = 25) := by rw [kT5]; simp only [List.length_set]; exact LT.out
  clear hl hf ho kT5 LT
  have LT : Hid (T5.length = 25) := LT2
  clear LT2
  go_wp2_with fail
  refine (turn_any (x := A.getD 1 0) (k := turnsN.getD 1 0) d1 (i := 1) (by decide) (by decide) _ (HA.out 1 (by rw [LA.out]; decide)) (HH.out 1 (by decide))).mono ?_
  rintro e w17 ⟨rfl, hb⟩
  replace HO : Hid (Off bt w w17) := HO.out.trans (.of_below hb)
  replace HA : Hid (Lns w17 ba A) := HA.out.keep hb
  replace HT : Hid (Lns w17 bt T5 ∧ Loose w17 bt 25) := And.intro (HT.out.1.keep hb) (HT.out.2.keep hb (HT.out.1.lt (by rw [LT.out]; decide)))
  replace HH : Hid (Tab w17 1 turnsN) := HH.out.keep hb
  clear hb
  obtain ⟨u1, ku1⟩ : ∃ u, (A.getD 1 0 ^^^ d1).rotateLeft (turnsN.getD 1 0) = u := ⟨_, rfl⟩
  rw [ku1]
  have U1 : Hid (u1 = turX A 1) := by rw [← ku1, KD1.out]; exact rfl
  clear ku1
  go_wp2_with fail
  refine (turn_any (x := A.getD 7 0) (k := turnsN.getD 7 0) d2 (i := 7) (by decide) (by decide) _ (HA.out 7 (by rw [LA.out]; decide)) (HH.out 7 (by decide))).mono ?_
  rintro e w18 ⟨rfl, hb⟩
  replace HO : Hid (Off bt w w18) := HO.out.trans (.of_below hb)
  replace HA : Hid (Lns w18 ba A) := HA.out.keep hb
  replace HT : Hid (Lns w18 bt T5 ∧ Loose w18 bt 25) := And.intro (HT.out.1.keep hb) (HT.out.2.keep hb (HT.out.1.lt (by rw [LT.out]; decide)))
  replace HH : Hid (Tab w18 1 turnsN) := HH.out.keep hb
  clear hb
  obtain ⟨u7, ku7⟩ : ∃ u, (A.getD 7 0 ^^^ d2).rotateLeft (turnsN.getD 7 0) = u := ⟨_, rfl⟩
  rw [ku7]
  have U7 : Hid (u7 = turX A 7) := by rw [← ku7, KD2.out]; exact rfl
  clear ku7
  go_wp2_with fail
  refine (turn_any (x := A.getD 13 0) (k := turnsN.getD 13 0) d3 (i := 13) (by decide) (by decide) _ (HA.out 13 (by rw [LA.out]; decide)) (HH.out 13 (by decide))).mono ?_
  rintro e w19 ⟨rfl, hb⟩
  replace HO : Hid (Off bt w w19) := HO.out.trans (.of_below hb)
  replace HA : Hid (Lns w19 ba A) := HA.out.keep hb
  replace HT : Hid (Lns w19 bt T5 ∧ Loose w19 bt 25) := And.intro (HT.out.1.keep hb) (HT.out.2.keep hb (HT.out.1.lt (by rw [LT.out]; decide)))
  replace HH : Hid (Tab w19 1 turnsN) := HH.out.keep hb
  clear hb
  obtain ⟨u13, ku13⟩ : ∃ u, (A.getD 13 0 ^^^ d3).rotateLeft (turnsN.getD 13 0) = u := ⟨_, rfl⟩
  rw [ku13]
  have U13 : Hid (u13 = turX A 13) := by rw [← ku13, KD3.out]; exact rfl
  clear ku13
  go_wp2_with fail
  refine (turn_any (x := A.getD 19 0) (k := turnsN.getD 19 0) d4 (i := 19) (by decide) (by decide) _ (HA.out 19 (by rw [LA.out]; decide)) (HH.out 19 (by decide))).mono ?_
  rintro e w20 ⟨rfl, hb⟩
  replace HO : Hid (Off bt w w20) := HO.out.trans (.of_below hb)
  replace HA : Hid (Lns w20 ba A) := HA.out.keep hb
  replace HT : Hid (Lns w20 bt T5 ∧ Loose w20 bt 25) := And.intro (HT.out.1.keep hb) (HT.out.2.keep hb (HT.out.1.lt (by rw [LT.out]; decide)))
  replace HH : Hid (Tab w20 1 turnsN) := HH.out.keep hb
  clear hb
  obtain ⟨u19, ku19⟩ : ∃ u, (A.getD 19 0 ^^^ d4).rotateLeft (turnsN.getD 19 0) = u := ⟨_, rfl⟩
  rw [ku19]
  have U19 : Hid (u19 = turX A 19) := by rw [← ku19, KD4.out]; exact rfl
  clear ku19
  go_wp2_with fail
  refine (turn_any (x := A.getD 20 0) (k := turnsN.getD 20 0) d0 (i := 20) (by decide) (by decide) _ (HA.out 20 (by rw [LA.out]; decide)) (HH.out 20 (by decide))).mono ?_
  rintro e w21 ⟨rfl, hb⟩
  replace HO : Hid (Off bt w w21) := HO.out.trans (.of_below hb)
  replace HA : Hid (Lns w21 ba A) := HA.out.keep hb
  replace HT : Hid (Lns w21 bt T5 ∧ Loose w21 bt 25) := And.intro (HT.out.1.keep hb) (HT.out.2.keep hb (HT.out.1.lt (by rw [LT.out]; decide)))
  replace HH : Hid (Tab w21 1 turnsN) := HH.out.keep hb
  clear hb
  obtain ⟨u20, ku20⟩ : ∃ u, (A.getD 20 0 ^^^ d0).rotateLeft (turnsN.getD 20 0) = u := ⟨_, rfl⟩
  rw [ku20]
  have U20 : Hid (u20 = turX A 20) := by rw [← ku20, KD0.out]; exact rfl
  clear ku20
  go_wp2_with fail
  refine (bend_any (y := 10) u1 u7 u13 u19 u20 (by rw [LT.out]; decide) (by rw [LT.out]; decide) _ HT.out.1 (by rw [LT.out]; exact HT.out.2)).mono ?_
  rintro e w22 ⟨rfl, hl, hf, ho⟩
  replace HO : Hid (Off bt w w22) := HO.out.trans ho
  replace HA : Hid (Lns w22 ba A) := ho.lns NE.out.1 HA.out
  replace HH : Hid (Tab w22 1 turnsN) := ho.tab NE.out.2 HH.out
  rw [LT.out] at hf
  obtain ⟨T10, kT10⟩ : ∃ t, t = ((((T5.set 10 (u1 ^^^ (~~~u7 &&& u13))).set (10 + 1) (u7 ^^^ (~~~u13 &&& u19))).set (10 + 2) (u13 ^^^ (~~~u19 &&& u20))).set (10 + 3) (u19 ^^^ (~~~u20 &&& u1))).set (10 + 4) (u20 ^^^ (~~~u1 &&& u7)) := ⟨_, rfl⟩
  replace HT : Hid (Lns w22 bt T10 ∧ Loose w22 bt 25) := ⟨by rw [kT10]; exact hl, hf⟩
  have E10 : Hid (T10 = ((((T5.set 10 (u1 ^^^ (~~~u7 &&& u13))).set (10 + 1) (u7 ^^^ (~~~u13 &&& u19))).set (10 + 2) (u13 ^^^ (~~~u19 &&& u20))).set (10 + 3) (u19 ^^^ (~~~u20 &&& u1))).set (10 + 4) (u20 ^^^ (~~~u1 &&& u7))) := kT10
  have LT2 : Hid (T10.length = 25) := by rw [kT10]; simp only [List.length_set]; exact LT.out
  clear hl hf ho kT10 LT
  have LT : Hid (T10.length = 25) := LT2
  clear LT2
  go_wp2_with fail
  refine (turn_any (x := A.getD 4 0) (k := turnsN.getD 4 0) d4 (i := 4) (by decide) (by decide) _ (HA.out 4 (by rw [LA.out]; decide)) (HH.out 4 (by decide))).mono ?_
  rintro e w23 ⟨rfl, hb⟩
  replace HO : Hid (Off bt w w23) := HO.out.trans (.of_below hb)
  replace HA : Hid (Lns w23 ba A) := HA.out.keep hb
  replace HT : Hid (Lns w23 bt T10 ∧ Loose w23 bt 25) := And.intro (HT.out.1.keep hb) (HT.out.2.keep hb (HT.out.1.lt (by rw [LT.out]; decide)))
  replace HH : Hid (Tab w23 1 turnsN) := HH.out.keep hb
  clear hb
  obtain ⟨u4, ku4⟩ : ∃ u, (A.getD 4 0 ^^^ d4).rotateLeft (turnsN.getD 4 0) = u := ⟨_, rfl⟩
  rw [ku4]
  have U4 : Hid (u4 = turX A 4) := by rw [← ku4, KD4.out]; exact rfl
  clear ku4
  go_wp2_with fail
  refine (turn_any (x := A.getD 5 0) (k := turnsN.getD 5 0) d0 (i := 5) (by decide) (by decide) _ (HA.out 5 (by rw [LA.out]; decide)) (HH.out 5 (by decide))).mono ?_
  rintro e w24 ⟨rfl, hb⟩
  replace HO : Hid (Off bt w w24) := HO.out.trans (.of_below hb)
  replace HA : Hid (Lns w24 ba A) := HA.out.keep hb
  replace HT : Hid (Lns w24 bt T10 ∧ Loose w24 bt 25) := And.intro (HT.out.1.keep hb) (HT.out.2.keep hb (HT.out.1.lt (by rw [LT.out]; decide)))
  replace HH : Hid (Tab w24 1 turnsN) := HH.out.keep hb
  clear hb
  obtain ⟨u5, ku5⟩ : ∃ u, (A.getD 5 0 ^^^ d0).rotateLeft (turnsN.getD 5 0) = u := ⟨_, rfl⟩
  rw [ku5]
  have U5 : Hid (u5 = turX A 5) := by rw [← ku5, KD0.out]; exact rfl
  clear ku5
  go_wp2_with fail
  refine (turn_any (x := A.getD 11 0) (k := turnsN.getD 11 0) d1 (i := 11) (by decide) (by decide) _ (HA.out 11 (by rw [LA.out]; decide)) (HH.out 11 (by decide))).mono ?_
  rintro e w25 ⟨rfl, hb⟩
  replace HO : Hid (Off bt w w25) := HO.out.trans (.of_below hb)
  replace HA : Hid (Lns w25 ba A) := HA.out.keep hb
  replace HT : Hid (Lns w25 bt T10 ∧ Loose w25 bt 25) := And.intro (HT.out.1.keep hb) (HT.out.2.keep hb (HT.out.1.lt (by rw [LT.out]; decide)))
  replace HH : Hid (Tab w25 1 turnsN) := HH.out.keep hb
  clear hb
  obtain ⟨u11, ku11⟩ : ∃ u, (A.getD 11 0 ^^^ d1).rotateLeft (turnsN.getD 11 0) = u := ⟨_, rfl⟩
  rw [ku11]
  have U11 : Hid (u11 = turX A 11) := by rw [← ku11, KD1.out]; exact rfl
  clear ku11
  go_wp2_with fail
  refine (turn_any (x := A.getD 17 0) (k := turnsN.getD 17 0) d2 (i := 17) (by decide) (by decide) _ (HA.out 17 (by rw [LA.out]; decide)) (HH.out 17 (by decide))).mono ?_
  rintro e w26 ⟨rfl, hb⟩
  replace HO : Hid (Off bt w w26) := HO.out.trans (.of_below hb)
  replace HA : Hid (Lns w26 ba A) := HA.out.keep hb
  replace HT : Hid (Lns w26 bt T10 ∧ Loose w26 bt 25) := And.intro (HT.out.1.keep hb) (HT.out.2.keep hb (HT.out.1.lt (by rw [LT.out]; decide)))
  replace HH : Hid (Tab w26 1 turnsN) := HH.out.keep hb
  clear hb
  obtain ⟨u17, ku17⟩ : ∃ u, (A.getD 17 0 ^^^ d2).rotateLeft (turnsN.getD 17 0) = u := ⟨_, rfl⟩
  rw [ku17]
  have U17 : Hid (u17 = turX A 17) := by rw [← ku17, KD2.out]; exact rfl
  clear ku17
  go_wp2_with fail
  refine (turn_any (x := A.getD 23 0) (k := turnsN.getD 23 0) d3 (i := 23) (by decide) (by decide) _ (HA.out 23 (by rw [LA.out]; decide)) (HH.out 23 (by decide))).mono ?_
  rintro e w27 ⟨rfl, hb⟩
  replace HO : Hid (Off bt w w27) := HO.out.trans (.of_below hb)
  replace HA : Hid (Lns w27 ba A) := HA.out.keep hb
  replace HT : Hid (Lns w27 bt T10 ∧ Loose w27 bt 25) := And.intro (HT.out.1.keep hb) (HT.out.2.keep hb (HT.out.1.lt (by rw [LT.out]; decide)))
  replace HH : Hid (Tab w27 1 turnsN) := HH.out.keep hb
  clear hb
  obtain ⟨u23, ku23⟩ : ∃ u, (A.getD 23 0 ^^^ d3).rotateLeft (turnsN.getD 23 0) = u := ⟨_, rfl⟩
  rw [ku23]
  have U23 : Hid (u23 = turX A 23) := by rw [← ku23, KD3.out]; exact rfl
  clear ku23
  go_wp2_with fail
  refine (bend_any (y := 15) u4 u5 u11 u17 u23 (by rw [LT.out]; decide) (by rw [LT.out]; decide) _ HT.out.1 (by rw [LT.out]; exact HT.out.2)).mono ?_
  rintro e w28 ⟨rfl, hl, hf, ho⟩
  replace HO : Hid (Off bt w w28) := HO.out.trans ho
  replace HA : Hid (Lns w28 ba A) := ho.lns NE.out.1 HA.out
  replace HH : Hid (Tab w28 1 turnsN) := ho.tab NE.out.2 HH.out
  rw [LT.out] at hf
  obtain ⟨T15, kT15⟩ : ∃ t, t = ((((T10.set 15 (u4 ^^^ (~~~u5 &&& u11))).set (15 + 1) (u5 ^^^ (~~~u11 &&& u17))).set (15 + 2) (u11 ^^^ (~~~u17 &&& u23))).set (15 + 3) (u17 ^^^ (~~~u23 &&& u4))).set (15 + 4) (u23 ^^^ (~~~u4 &&& u5)) := ⟨_, rfl⟩
  replace HT : Hid (Lns w28 bt T15 ∧ Loose w28 bt 25) := ⟨by rw [kT15]; exact hl, hf⟩
  have E15 : Hid (T15 = ((((T10.set 15 (u4 ^^^ (~~~u5 &&& u11))).set (15 + 1) (u5 ^^^ (~~~u11 &&& u17))).set (15 + 2) (u11 ^^^ (~~~u17 &&& u23))).set (15 + 3) (u17 ^^^ (~~~u23 &&& u4))).set (15 + 4) (u23 ^^^ (~~~u4 &&& u5))) := kT15
  have LT2 : Hid (T15.length = 25) := by rw [kT15]; simp only [List.length_set]; exact LT.out
  clear hl hf ho kT15 LT
  have LT : Hid (T15.length = 25) := LT2
  clear LT2
  go_wp2_with fail
  refine (turn_any (x := A.getD 2 0) (k := turnsN.getD 2 0) d2 (i := 2) (by decide) (by decide) _ (HA.out 2 (by rw [LA.out]; decide)) (HH.out 2 (by decide))).mono ?_
  rintro e w29 ⟨rfl, hb⟩
  replace HO : Hid (Off bt w w29) := HO.out.trans (.of_below hb)
  replace HA : Hid (Lns w29 ba A) := HA.out.keep hb
  replace HT : Hid (Lns w29 bt T15 ∧ Loose w29 bt 25) := And.intro (HT.out.1.keep hb) (HT.out.2.keep hb (HT.out.1.lt (by rw [LT.out]; decide)))
  replace HH : Hid (Tab w29 1 turnsN) := HH.out.keep hb
  clear hb
  obtain ⟨u2, ku2⟩ : ∃ u, (A.getD 2 0 ^^^ d2).rotateLeft (turnsN.getD 2 0) = u := ⟨_, rfl⟩
  rw [ku2]
  have U2 : Hid (u2 = turX A 2) := by rw [← ku2, KD2.out]; exact rfl
  clear ku2
  go_wp2_with fail
  refine (turn_any (x := A.getD 8 0) (k := turnsN.getD 8 0) d3 (i := 8) (by decide) (by decide) _ (HA.out 8 (by rw [LA.out]; decide)) (HH.out 8 (by decide))).mono ?_
  rintro e w30 ⟨rfl, hb⟩
  replace HO : Hid (Off bt w w30) := HO.out.trans (.of_below hb)
  replace HA : Hid (Lns w30 ba A) := HA.out.keep hb
  replace HT : Hid (Lns w30 bt T15 ∧ Loose w30 bt 25) := And.intro (HT.out.1.keep hb) (HT.out.2.keep hb (HT.out.1.lt (by rw [LT.out]; decide)))
  replace HH : Hid (Tab w30 1 turnsN) := HH.out.keep hb
  clear hb
  obtain ⟨u8, ku8⟩ : ∃ u, (A.getD 8 0 ^^^ d3).rotateLeft (turnsN.getD 8 0) = u := ⟨_, rfl⟩
  rw [ku8]
  have U8 : Hid (u8 = turX A 8) := by rw [← ku8, KD3.out]; exact rfl
  clear ku8
  go_wp2_with fail
  refine (turn_any (x := A.getD 14 0) (k := turnsN.getD 14 0) d4 (i := 14) (by decide) (by decide) _ (HA.out 14 (by rw [LA.out]; decide)) (HH.out 14 (by decide))).mono ?_
  rintro e w31 ⟨rfl, hb⟩
  replace HO : Hid (Off bt w w31) := HO.out.trans (.of_below hb)
  replace HA : Hid (Lns w31 ba A) := HA.out.keep hb
  replace HT : Hid (Lns w31 bt T15 ∧ Loose w31 bt 25) := And.intro (HT.out.1.keep hb) (HT.out.2.keep hb (HT.out.1.lt (by rw [LT.out]; decide)))
  replace HH : Hid (Tab w31 1 turnsN) := HH.out.keep hb
  clear hb
  obtain ⟨u14, ku14⟩ : ∃ u, (A.getD 14 0 ^^^ d4).rotateLeft (turnsN.getD 14 0) = u := ⟨_, rfl⟩
  rw [ku14]
  have U14 : Hid (u14 = turX A 14) := by rw [← ku14, KD4.out]; exact rfl
  clear ku14
  go_wp2_with fail
  refine (turn_any (x := A.getD 15 0) (k := turnsN.getD 15 0) d0 (i := 15) (by decide) (by decide) _ (HA.out 15 (by rw [LA.out]; decide)) (HH.out 15 (by decide))).mono ?_
  rintro e w32 ⟨rfl, hb⟩
  replace HO : Hid (Off bt w w32) := HO.out.trans (.of_below hb)
  replace HA : Hid (Lns w32 ba A) := HA.out.keep hb
  replace HT : Hid (Lns w32 bt T15 ∧ Loose w32 bt 25) := And.intro (HT.out.1.keep hb) (HT.out.2.keep hb (HT.out.1.lt (by rw [LT.out]; decide)))
  replace HH : Hid (Tab w32 1 turnsN) := HH.out.keep hb
  clear hb
  obtain ⟨u15, ku15⟩ : ∃ u, (A.getD 15 0 ^^^ d0).rotateLeft (turnsN.getD 15 0) = u := ⟨_, rfl⟩
  rw [ku15]
  have U15 : Hid (u15 = turX A 15) := by rw [← ku15, KD0.out]; exact rfl
  clear ku15
  go_wp2_with fail
  refine (turn_any (x := A.getD 21 0) (k := turnsN.getD 21 0) d1 (i := 21) (by decide) (by decide) _ (HA.out 21 (by rw [LA.out]; decide)) (HH.out 21 (by decide))).mono ?_
  rintro e w33 ⟨rfl, hb⟩
  replace HO : Hid (Off bt w w33) := HO.out.trans (.of_below hb)
  replace HA : Hid (Lns w33 ba A) := HA.out.keep hb
  replace HT : Hid (Lns w33 bt T15 ∧ Loose w33 bt 25) := And.intro (HT.out.1.keep hb) (HT.out.2.keep hb (HT.out.1.lt (by rw [LT.out]; decide)))
  replace HH : Hid (Tab w33 1 turnsN) := HH.out.keep hb
  clear hb
  obtain ⟨u21, ku21⟩ : ∃ u, (A.getD 21 0 ^^^ d1).rotateLeft (turnsN.getD 21 0) = u := ⟨_, rfl⟩
  rw [ku21]
  have U21 : Hid (u21 = turX A 21) := by rw [← ku21, KD1.out]; exact rfl
  clear ku21
  go_wp2_with fail
  refine (bend_any (y := 20) u2 u8 u14 u15 u21 (by rw [LT.out]; decide) (by rw [LT.out]; decide) _ HT.out.1 (by rw [LT.out]; exact HT.out.2)).mono ?_
  rintro e w34 ⟨rfl, hl, hf, ho⟩
  replace HO : Hid (Off bt w w34) := HO.out.trans ho
  replace HA : Hid (Lns w34 ba A) := ho.lns NE.out.1 HA.out
  replace HH : Hid (Tab w34 1 turnsN) := ho.tab NE.out.2 HH.out
  rw [LT.out] at hf
  obtain ⟨T20, kT20⟩ : ∃ t, t = ((((T15.set 20 (u2 ^^^ (~~~u8 &&& u14))).set (20 + 1) (u8 ^^^ (~~~u14 &&& u15))).set (20 + 2) (u14 ^^^ (~~~u15 &&& u21))).set (20 + 3) (u15 ^^^ (~~~u21 &&& u2))).set (20 + 4) (u21 ^^^ (~~~u2 &&& u8)) := ⟨_, rfl⟩
  replace HT : Hid (Lns w34 bt T20 ∧ Loose w34 bt 25) := ⟨by rw [kT20]; exact hl, hf⟩
  have E20 : Hid (T20 = ((((T15.set 20 (u2 ^^^ (~~~u8 &&& u14))).set (20 + 1) (u8 ^^^ (~~~u14 &&& u15))).set (20 + 2) (u14 ^^^ (~~~u15 &&& u21))).set (20 + 3) (u15 ^^^ (~~~u21 &&& u2))).set (20 + 4) (u21 ^^^ (~~~u2 &&& u8))) := kT20
  have LT2 : Hid (T20.length = 25) := by rw [kT20]; simp only [List.length_set]; exact LT.out
  clear hl hf ho kT20 LT
  have LT : Hid (T20.length = 25) := LT2
  clear LT2
  have eT : Hid (T20 = (List.range 25).map (mixX (movX A))) := by
    rw [E20.out, E15.out, E10.out, E5.out, E0.out]
    obtain rfl := U0.out
    obtain rfl := U1.out
    obtain rfl := U2.out
    obtain rfl := U3.out
    obtain rfl := U4.out
    obtain rfl := U5.out
    obtain rfl := U6.out
    obtain rfl := U7.out
    obtain rfl := U8.out
    obtain rfl := U9.out
    obtain rfl := U10.out
    obtain rfl := U11.out
    obtain rfl := U12.out
    obtain rfl := U13.out
    obtain rfl := U14.out
    obtain rfl := U15.out
    obtain rfl := U16.out
    obtain rfl := U17.out
    obtain rfl := U18.out
    obtain rfl := U19.out
    obtain rfl := U20.out
    obtain rfl := U21.out
    obtain rfl := U22.out
    obtain rfl := U23.out
    obtain rfl := U24.out
    exact set_all LTT.out _ _ _ _ _ _ _ _ _ _ _ _ _ _ _ _ _ _ _ _ _ _ _ _ _
  have g := HT.out.1 0 (by rw [LT.out]; decide)
  have f := HT.out.2 0 (by decide)
  obtain ⟨z, kz⟩ : ∃ z, z = T20.getD 0 0 := ⟨_, rfl⟩
  rw [← kz] at g
  have vz := V_xor z m
  have KZ : Hid (z = T20.getD 0 0) := kz
  clear kz
  go_wp2_with fail
  go_region
  go_wp2
  all_goals go_end0
  all_goals refine ⟨rfl, ?_, HT.out.2.drew.set _ _, HO.out.drew.setCell _⟩
  all_goals (have h := HT.out.1.drew.set 0 (by rw [LT.out]; decide) (z ^^^ m); rw [KZ.out, eT.out] at h; rw [KZ.out, eT.out]; exact h)

end Go.Proofs.YtcjabligkeaafaaDoor.K
