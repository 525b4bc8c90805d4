import Derived.Test.YtnjmdncnkijijaaDoorEBU
namespace Go.Proofs.YtnjmdncnkijijaaDoor
open Go.RowKit Go.Sort

set_option maxRecDepth 100000 in
set_option maxHeartbeats 8000000 in
theorem runp_ok {bb ob c : Nat} {D : List Int} {y r s : Int} {od : Bool} (w : World) (lc : 64 ≤ c) (KD : Hid (D.length = 32 ∧ D.getD 0 0 = y)) (hy0 : 0 ≤ y) (eo : decide ((128 : Int) ≤ y) = od)
    (G1 : Hid (∀ W, Below w.heap.size w W → Calls Tryd.prog 20 #[.slice (some ⟨bb, ob, none⟩) 32 c] W fun e w' => e = .returned (.tuple #[.agg #[.int .u64 (l0 r), .int .u64 (l1 r), .int .u64 (l2 r), .int .u64 (l3 r)], .int .i64 0]) ∧ Below W.heap.size W w'))
    (G2 : Hid (∀ W g cap, Bz W g 0 (D.set 0 (y % 128)) → Calls Tryd.prog 20 #[.slice (some ⟨g, 0, none⟩) 32 cap] W fun e w' => e = .returned (.tuple #[.agg #[.int .u64 (l0 s), .int .u64 (l1 s), .int .u64 (l2 s), .int .u64 (l3 s)], .int .i64 0]) ∧ Below W.heap.size W w'))
    (CK : Hid (∀ w, Calls Tryd.prog 17 #[.agg #[.int .u64 (l0 r), .int .u64 (l1 r), .int .u64 (l2 r), .int .u64 (l3 r), .int .u64 (l0 s), .int .u64 (l1 s), .int .u64 (l2 s), .int .u64 (l3 s), .bool od]] w fun e w' => e = .returned (.int .i64 0) ∧ Below w.heap.size w w'))
    (HZ : Hid (∀ W, Below w.heap.size w W → ∀ j, 32 ≤ j → j < 64 → W.cell? ⟨bb, ob + j, none⟩ = some (.int .u8 (D.getD (j - 32) 0)))) :
    Calls Tryd.prog 10 #[.slice (some ⟨bb, ob, none⟩) 64 c] w fun e w' => e = .returned (.tuple #[.agg #[.int .u64 (l0 r), .int .u64 (l1 r), .int .u64 (l2 r), .int .u64 (l3 r), .int .u64 (l0 s), .int .u64 (l1 s), .int .u64 (l2 s), .int .u64 (l3 s), .bool od], .int .i64 0]) ∧ Below w.heap.size w w' := by
  subst eo
  obtain ⟨i0, hi, hz0, hz1, hz2⟩ := info_parts info_byte
  have lc2 : (32 : Int) ≤ (c : Int) := by omega
  have lc3 : (64 : Int) ≤ (c : Int) := by omega
  go_enter Tryd.func10, Tryd.ntmps10
  go_wp2_with fail
  refine wp_world (fun W => Below w.heap.size w W ∧ Bk9 W w.heap.size) ⟨by repeat (first | with_reducible exact Below.refl _ _ | with_reducible refine Below.alloc ?_ (by first | omega | (simp; done) | (simp; omega)) _), Bk9.new rfl⟩ ?_
  rintro W0 ⟨BB, hR⟩
  have KW : Hid (Below w.heap.size w W0 ∧ Bk9 W0 w.heap.size) := ⟨BB, hR⟩
  clear BB hR
  go_loopg [4, 5] 32 (fun k lv iv wr => ∃ j : Nat, k = 64 - j ∧ 32 ≤ j ∧ j ≤ 64 ∧ iv = .int .i64 j ∧ OwnB W0.heap.size wr lv (D.take (j - 32)) ∧ Below W0.heap.size W0 wr)
  case atStart => exact ⟨32, rfl, by decide, by decide, rfl, by simpa using OwnB.nil _ _, Below.refl _ _⟩
  case round =>
    obtain ⟨i, hk, hj0, hi9, rfl, hown, B⟩ := hrel
    have HK : Hid (gk = 64 - i) := hk
    clear hk
    by_cases h8 : i = 64
    · subst h8
      have hR : OwnB W0.heap.size wr u4 D := by
        have h := hown
        rw [show D.take (64 - 32) = D from by rw [show 64 - 32 = D.length by rw [KD.out.1]]; exact List.take_length] at h
        exact h
      clear hown HK
      obtain ⟨a5, g5, c5, e5, hc5, hz5, _⟩ := hR.lies
      have ea := hz5.cons (by rw [KD.out.1]; decide)
      subst ea
      rw [KD.out.1] at e5 hc5
      subst e5
      have cx := hR.cell KD.out.1 (i := 0) (by decide)
      have fx := hR.free KD.out.1 0
      rw [KD.out.2] at cx
      have hset := hR.set KD.out.1 0 (y % 128)
      have lg := hR.lt g5 rfl
      have lw : w.heap.size ≤ W0.heap.size := KW.out.1.size
      have B9 : Below W0.heap.size W0 (wr.setCell ⟨g5, 0, none⟩ (.int .u8 (y % 128))) := B.setCell lg.1 _
      have c32 : (32 : Int) ≤ (c5 : Int) := by omega
      have ym : y.tmod 128 = y % 128 := Int.tmod_eq_emod_of_nonneg hy0
      have yw : IntKind.u8.wrap (y % 128) = y % 128 := by rw [IntKind.wrap_u8]; omega
      have hT : Bz (wr.setCell ⟨g5, 0, none⟩ (.int .u8 (y % 128))) g5 0 (D.set 0 (y % 128)) := by
        obtain ⟨a6, g6, c6, e6, _, hz6, hb6, _⟩ := hset.1.lies
        injection e6 with e7 _ _
        have e8 := hz6.cons (by rw [List.length_set, KD.out.1]; decide)
        rw [e8] at e7
        injection e7 with e9
        injection e9 with e10
        rw [← e10] at hb6
        exact hb6
      clear hR hz5 hset B
      have KR := KW.out.2.keep B9
      have BB := KW.out.1.trans (B9.mono KW.out.1.size)
      clear B9 lg
      go_wp2_with fail
      refine calls_world (fun W => Below w.heap.size w W ∧ Bz W g5 0 (D.set 0 (y % 128)) ∧ Bk9 W w.heap.size) ⟨BB, hT, KR⟩ ?_
      clear BB hT KR cx fx
      rintro W5 ⟨BB, hT, KR⟩
      with_reducible refine (G1.out W5 BB).mono ?_
      rintro e w6 ⟨rfl, hb⟩
      replace BB := BB.trans (hb.mono BB.size)
      replace hT := hT.keep hb
      replace KR := KR.keep hb
      clear hb W5
      go_wp2_with fail
      refine calls_world (fun W => Below w.heap.size w W ∧ Bz W g5 0 (D.set 0 (y % 128)) ∧ Bk9 W w.heap.size ∧ Hold W w6.heap.size r) ⟨BB.alloc BB.size _, hT.keep ((Below.refl _ _).alloc (Nat.le_refl _) _), KR.alloc _, Hold.new _ _ _⟩ ?_
      clear BB hT KR
      rintro W6 ⟨BB, hT, KR, hr⟩
      generalize w6.heap.size = b6 at *
      clear w6
      with_reducible refine (G2.out W6 g5 c5 hT).mono ?_
      rintro e w7 ⟨rfl, hb⟩
      replace BB := BB.trans (hb.mono BB.size)
      replace KR := KR.keep hb
      replace hr := hr.keep hb
      clear hb hT W6
      go_wp2_with fail
      refine wp_world (fun W => Below w.heap.size w W ∧ Bk9 W w.heap.size ∧ Hold W b6 r ∧ Hold W w7.heap.size s) ⟨BB.alloc BB.size _, KR.alloc _, hr.alloc _, Hold.new _ _ _⟩ ?_
      clear BB KR hr
      rintro W ⟨B, KR, hr, hs⟩
      generalize w7.heap.size = b7 at *
      clear w7
      refine alloc_tail (A := ?AA1) 7 (by kernel_rfl) (by kernel_rfl) rfl rfl (alloc_sg _ _ _) (fun V hV => ?HH1) (fun V w1 hV hw => ?TT1)
      case HH1 =>
        have gr := (hr.keep hV).grown
        have gs := (hs.keep hV).grown
        have gd : ∀ d os, (grow (redrawn V d) os).cell? ⟨bb, ob + 32, none⟩ = some (.int .u8 y) := fun d os => by
          have b1 := B.trans (hV.mono B.size)
          have h := HZ.out (grow (redrawn V d) os) (b1.trans ((below_regrown V d os).mono b1.size)) 32 (by decide) (by decide)
          rw [Nat.sub_self, KD.out.2] at h
          exact h
        unfold Gr
        simp only [List.take_succ_cons, List.take_zero]
        repeat (first | go_big_quiet_skip | (go_big_quiet_want; go_big_quiet_op; go_big_quiet_on))
        refine wpQuiet_nil ?_
        exact rfl
      case TT1 =>
      have hb := alloc_below hV hw
      have hN := (Bk9.new rfl).keep hw
      have nhR : V.heap.size ≠ w.heap.size := Nat.ne_of_gt (Nat.lt_of_lt_of_le KR.lt hV.size)
      have gn : w.heap.size ≤ V.heap.size := Nat.le_trans B.size hV.size
      replace B := B.trans (hb.mono B.size)
      replace KR := KR.keep hb
      clear hb hw hV hr hs W
      generalize V.heap.size = bs at *
      clear V
      have gN := hN.cells
      have qN := hN.free
      have mhR := nhR.symm
      simp only [List.drop_succ_cons, List.drop_zero, Act.put, List.setIfInBounds_toArray, List.set_cons_zero, List.set_cons_succ]
      go_wp2_with fail
      refine calls_world (fun W => Below w.heap.size w W ∧ Bk9 W w.heap.size ∧ Pnt W bs r s (decide ((128 : Int) ≤ y))) ⟨below_put9 B gn, KR.put9b nhR, hN.put9 r s _⟩ ?_
      clear B hN gN qN KR gn
      rintro W8 ⟨BB, KR, hS⟩
      with_reducible refine (CK.out W8).mono ?_
      rintro e w9 ⟨rfl, hb⟩
      replace BB := BB.trans (hb.mono BB.size)
      replace KR := KR.keep hb
      replace hS := hS.keep hb
      clear hb W8
      have gS := hS.cells
      have gR := KR.cells
      have fR := KR.free
      have B := BB
      have o3 : w.heap.size ≤ w.heap.size := Nat.le_refl _
      clear BB KR hS
      go_wp2
      simp [bodyPost, results, Tryd.results10, go_sem, gR]
      repeat (first | with_reducible exact B | with_reducible refine Below.setCell ?_ o3 _)

    · have ln : Hid ((D.take (i - 32)).length ≤ 64) := by show _ ≤ _; rw [List.length_take]; omega
      have gx := HZ.out wr (KW.out.1.trans (B.mono KW.out.1.size)) i hj0 (by omega)
      have NX : Hid ((D.take ((i + 1) - 32)) = (D.take (i - 32)) ++ [D.getD (i - 32) 0]) := by
        show _ = _
        rw [show i + 1 - 32 = (i - 32) + 1 by omega]
        exact take_snocI (by rw [KD.out.1]; omega)
      generalize D.getD (i - 32) 0 = x at *
      have HF : Hid (OwnB W0.heap.size wr u4 (D.take (i - 32)) ∧ Below W0.heap.size W0 wr) := ⟨hown, B⟩
      clear hown B
      have hlt' : (i : Int) < 64 := by omega
      go_wp2_with (at_builtin; (refine wpList_append_own_at _ rfl _ _ 27 rfl W0.heap.size 5 i0 (.int .u8 0) 1 1 Tryd.underlying27 hi hz0 hz1 hz2 rfl (by decide) u4 _ _ rfl (HF.out.1.alloc _).row ⟨wr.heap.size, 0, none⟩ 1 1 [.int .u8 x] rfl rfl (cell_one_new _ _ _) (fun u hu => by simp at hu; subst hu; rfl) (by unfold maxLen; have := ln.out; omega) (by have := ln.out; omega) (by have := HF.out.2.size; simp; omega) ?_); intro v' w3 hown' hgrow3 hnil3 hblk)
      have HO : Hid (OwnB W0.heap.size w3 v' (D.take ((i + 1) - 32)) ∧ Below W0.heap.size W0 w3) := by
        refine ⟨?_, ?_⟩
        · rw [NX.out, OwnB, List.length_append, List.map_append]
          exact hown'
        · exact (HF.out.2.alloc HF.out.2.size _).grown hgrow3 (by have := HF.out.2.size; simp; omega) (fun k hk => (HF.out.1.row.lt k hk).1)
      clear hown' hgrow3 hnil3 hblk
      go_roundg (64 - (i + 1))
      case measure => have := HK.out; omega
      case rel => exact ⟨i + 1, rfl, by omega, by omega, by go_num, HO.out⟩
set_option maxRecDepth 100000 in
set_option maxHeartbeats 8000000 in
theorem runp_fail {bb ob c : Nat} {D : List Int} {y r s v : Int} {od : Bool} (w : World) (hv : ¬ v = 0) (lc : 64 ≤ c) (KD : Hid (D.length = 32 ∧ D.getD 0 0 = y)) (hy0 : 0 ≤ y) (eo : decide ((128 : Int) ≤ y) = od)
    (G1 : Hid (∀ W, Below w.heap.size w W → Calls Tryd.prog 20 #[.slice (some ⟨bb, ob, none⟩) 32 c] W fun e w' => e = .returned (.tuple #[.agg #[.int .u64 (l0 r), .int .u64 (l1 r), .int .u64 (l2 r), .int .u64 (l3 r)], .int .i64 0]) ∧ Below W.heap.size W w'))
    (G2 : Hid (∀ W g cap, Bz W g 0 (D.set 0 (y % 128)) → Calls Tryd.prog 20 #[.slice (some ⟨g, 0, none⟩) 32 cap] W fun e w' => e = .returned (.tuple #[.agg #[.int .u64 (l0 s), .int .u64 (l1 s), .int .u64 (l2 s), .int .u64 (l3 s)], .int .i64 0]) ∧ Below W.heap.size W w'))
    (CK : Hid (∀ w, Calls Tryd.prog 17 #[.agg #[.int .u64 (l0 r), .int .u64 (l1 r), .int .u64 (l2 r), .int .u64 (l3 r), .int .u64 (l0 s), .int .u64 (l1 s), .int .u64 (l2 s), .int .u64 (l3 s), .bool od]] w fun e w' => e = .returned (.int .i64 v) ∧ Below w.heap.size w w'))
    (HZ : Hid (∀ W, Below w.heap.size w W → ∀ j, 32 ≤ j → j < 64 → W.cell? ⟨bb, ob + j, none⟩ = some (.int .u8 (D.getD (j - 32) 0)))) :
    Calls Tryd.prog 10 #[.slice (some ⟨bb, ob, none⟩) 64 c] w fun e w' => e = .returned (.tuple #[.agg #[.int .u64 0, .int .u64 0, .int .u64 0, .int .u64 0, .int .u64 0, .int .u64 0, .int .u64 0, .int .u64 0, .bool false], .int .i64 v]) ∧ Below w.heap.size w w' := by
  subst eo
  obtain ⟨i0, hi, hz0, hz1, hz2⟩ := info_parts info_byte
  have lc2 : (32 : Int) ≤ (c : Int) := by omega
  have lc3 : (64 : Int) ≤ (c : Int) := by omega
  go_enter Tryd.func10, Tryd.ntmps10
  go_wp2_with fail
  refine wp_world (fun W => Below w.heap.size w W ∧ Bk9 W w.heap.size) ⟨by repeat (first | with_reducible exact Below.refl _ _ | with_reducible refine Below.alloc ?_ (by first | omega | (simp; done) | (simp; omega)) _), Bk9.new rfl⟩ ?_
  rintro W0 ⟨BB, hR⟩
  have KW : Hid (Below w.heap.size w W0 ∧ Bk9 W0 w.heap.size) := ⟨BB, hR⟩
  clear BB hR
  go_loopg [4, 5] 32 (fun k lv iv wr => ∃ j : Nat, k = 64 - j ∧ 32 ≤ j ∧ j ≤ 64 ∧ iv = .int .i64 j ∧ OwnB W0.heap.size wr lv (D.take (j - 32)) ∧ Below W0.heap.size W0 wr)
  case atStart => exact ⟨32, rfl, by decide, by decide, rfl, by simpa using OwnB.nil _ _, Below.refl _ _⟩
  case round =>
    obtain ⟨i, hk, hj0, hi9, rfl, hown, B⟩ := hrel
    have HK : Hid (gk = 64 - i) := hk
    clear hk
    by_cases h8 : i = 64
    · subst h8
      have hR : OwnB W0.heap.size wr u4 D := by
        have h := hown
        rw [show D.take (64 - 32) = D from by rw [show 64 - 32 = D.length by rw [KD.out.1]]; exact List.take_length] at h
        exact h
      clear hown HK
      obtain ⟨a5, g5, c5, e5, hc5, hz5, _⟩ := hR.lies
      have ea := hz5.cons (by rw [KD.out.1]; decide)
      subst ea
      rw [KD.out.1] at e5 hc5
      subst e5
      have cx := hR.cell KD.out.1 (i := 0) (by decide)
      have fx := hR.free KD.out.1 0
      rw [KD.out.2] at cx
      have hset := hR.set KD.out.1 0 (y % 128)
      have lg := hR.lt g5 rfl
      have lw : w.heap.size ≤ W0.heap.size := KW.out.1.size
      have B9 : Below W0.heap.size W0 (wr.setCell ⟨g5, 0, none⟩ (.int .u8 (y % 128))) := B.setCell lg.1 _
      have c32 : (32 : Int) ≤ (c5 : Int) := by omega
      have ym : y.tmod 128 = y % 128 := Int.tmod_eq_emod_of_nonneg hy0
      have yw : IntKind.u8.wrap (y % 128) = y % 128 := by rw [IntKind.wrap_u8]; omega
      have hT : Bz (wr.setCell ⟨g5, 0, none⟩ (.int .u8 (y % 128))) g5 0 (D.set 0 (y % 128)) := by
        obtain ⟨a6, g6, c6, e6, _, hz6, hb6, _⟩ := hset.1.lies
        injection e6 with e7 _ _
        have e8 := hz6.cons (by rw [List.length_set, KD.out.1]; decide)
        rw [e8] at e7
        injection e7 with e9
        injection e9 with e10
        rw [← e10] at hb6
        exact hb6
      clear hR hz5 hset B
      have KR := KW.out.2.keep B9
      have BB := KW.out.1.trans (B9.mono KW.out.1.size)
      clear B9 lg
      go_wp2_with fail
      refine calls_world (fun W => Below w.heap.size w W ∧ Bz W g5 0 (D.set 0 (y % 128)) ∧ Bk9 W w.heap.size) ⟨BB, hT, KR⟩ ?_
      clear BB hT KR cx fx
      rintro W5 ⟨BB, hT, KR⟩
      with_reducible refine (G1.out W5 BB).mono ?_
      rintro e w6 ⟨rfl, hb⟩
      replace BB := BB.trans (hb.mono BB.size)
      replace hT := hT.keep hb
      replace KR := KR.keep hb
      clear hb W5
      go_wp2_with fail
      refine calls_world (fun W => Below w.heap.size w W ∧ Bz W g5 0 (D.set 0 (y % 128)) ∧ Bk9 W w.heap.size ∧ Hold W w6.heap.size r) ⟨BB.alloc BB.size _, hT.keep ((Below.refl _ _).alloc (Nat.le_refl _) _), KR.alloc _, Hold.new _ _ _⟩ ?_
      clear BB hT KR
      rintro W6 ⟨BB, hT, KR, hr⟩
      generalize w6.heap.size = b6 at *
      clear w6
      with_reducible refine (G2.out W6 g5 c5 hT).mono ?_
      rintro e w7 ⟨rfl, hb⟩
      replace BB := BB.trans (hb.mono BB.size)
      replace KR := KR.keep hb
      replace hr := hr.keep hb
      clear hb hT W6
      go_wp2_with fail
      refine wp_world (fun W => Below w.heap.size w W ∧ Bk9 W w.heap.size ∧ Hold W b6 r ∧ Hold W w7.heap.size s) ⟨BB.alloc BB.size _, KR.alloc _, hr.alloc _, Hold.new _ _ _⟩ ?_
      clear BB KR hr
      rintro W ⟨B, KR, hr, hs⟩
      generalize w7.heap.size = b7 at *
      clear w7
      refine alloc_tail (A := ?AA1) 7 (by kernel_rfl) (by kernel_rfl) rfl rfl (alloc_sg _ _ _) (fun V hV => ?HH1) (fun V w1 hV hw => ?TT1)
      case HH1 =>
        have gr := (hr.keep hV).grown
        have gs := (hs.keep hV).grown
        have gd : ∀ d os, (grow (redrawn V d) os).cell? ⟨bb, ob + 32, none⟩ = some (.int .u8 y) := fun d os => by
          have b1 := B.trans (hV.mono B.size)
          have h := HZ.out (grow (redrawn V d) os) (b1.trans ((below_regrown V d os).mono b1.size)) 32 (by decide) (by decide)
          rw [Nat.sub_self, KD.out.2] at h
          exact h
        unfold Gr
        simp only [List.take_succ_cons, List.take_zero]
        repeat (first | go_big_quiet_skip | (go_big_quiet_want; go_big_quiet_op; go_big_quiet_on))
        refine wpQuiet_nil ?_
        exact rfl
      case TT1 =>
      have hb := alloc_below hV hw
      have hN := (Bk9.new rfl).keep hw
      have nhR : V.heap.size ≠ w.heap.size := Nat.ne_of_gt (Nat.lt_of_lt_of_le KR.lt hV.size)
      have gn : w.heap.size ≤ V.heap.size := Nat.le_trans B.size hV.size
      replace B := B.trans (hb.mono B.size)
      replace KR := KR.keep hb
      clear hb hw hV hr hs W
      generalize V.heap.size = bs at *
      clear V
      have gN := hN.cells
      have qN := hN.free
      have mhR := nhR.symm
      simp only [List.drop_succ_cons, List.drop_zero, Act.put, List.setIfInBounds_toArray, List.set_cons_zero, List.set_cons_succ]
      go_wp2_with fail
      refine calls_world (fun W => Below w.heap.size w W ∧ Bk9 W w.heap.size ∧ Pnt W bs r s (decide ((128 : Int) ≤ y))) ⟨below_put9 B gn, KR.put9b nhR, hN.put9 r s _⟩ ?_
      clear B hN gN qN KR gn
      rintro W8 ⟨BB, KR, hS⟩
      with_reducible refine (CK.out W8).mono ?_
      rintro e w9 ⟨rfl, hb⟩
      replace BB := BB.trans (hb.mono BB.size)
      replace KR := KR.keep hb
      replace hS := hS.keep hb
      clear hb W8
      have gS := hS.cells
      have gR := KR.cells
      have fR := KR.free
      have B := BB
      have o3 : w.heap.size ≤ w.heap.size := Nat.le_refl _
      clear BB KR hS
      go_wp2
      simp [bodyPost, results, Tryd.results10, go_sem, gR]
      repeat (first | with_reducible exact B | with_reducible refine Below.setCell ?_ o3 _)

    · have ln : Hid ((D.take (i - 32)).length ≤ 64) := by show _ ≤ _; rw [List.length_take]; omega
      have gx := HZ.out wr (KW.out.1.trans (B.mono KW.out.1.size)) i hj0 (by omega)
      have NX : Hid ((D.take ((i + 1) - 32)) = (D.take (i - 32)) ++ [D.getD (i - 32) 0]) := by
        show _ = _
        rw [show i + 1 - 32 = (i - 32) + 1 by omega]
        exact take_snocI (by rw [KD.out.1]; omega)
      generalize D.getD (i - 32) 0 = x at *
      have HF : Hid (OwnB W0.heap.size wr u4 (D.take (i - 32)) ∧ Below W0.heap.size W0 wr) := ⟨hown, B⟩
      clear hown B
      have hlt' : (i : Int) < 64 := by omega
      go_wp2_with (at_builtin; (refine wpList_append_own_at _ rfl _ _ 27 rfl W0.heap.size 5 i0 (.int .u8 0) 1 1 Tryd.underlying27 hi hz0 hz1 hz2 rfl (by decide) u4 _ _ rfl (HF.out.1.alloc _).row ⟨wr.heap.size, 0, none⟩ 1 1 [.int .u8 x] rfl rfl (cell_one_new _ _ _) (fun u hu => by simp at hu; subst hu; rfl) (by unfold maxLen; have := ln.out; omega) (by have := ln.out; omega) (by have := HF.out.2.size; simp; omega) ?_); intro v' w3 hown' hgrow3 hnil3 hblk)
      have HO : Hid (OwnB W0.heap.size w3 v' (D.take ((i + 1) - 32)) ∧ Below W0.heap.size W0 w3) := by
        refine ⟨?_, ?_⟩
        · rw [NX.out, OwnB, List.length_append, List.map_append]
          exact hown'
        · exact (HF.out.2.alloc HF.out.2.size _).grown hgrow3 (by have := HF.out.2.size; simp; omega) (fun k hk => (HF.out.1.row.lt k hk).1)
      clear hown' hgrow3 hnil3 hblk
      go_roundg (64 - (i + 1))
      case measure => have := HK.out; omega
      case rel => exact ⟨i + 1, rfl, by omega, by omega, by go_num, HO.out⟩
theorem runp_long {a : Option Addr} {n c : Nat} (hn : n ≠ 64) (w : World) :
    Calls Tryd.prog 10 #[.slice a n c] w fun e w' => e = .returned (.tuple #[.agg #[.int .u64 0, .int .u64 0, .int .u64 0, .int .u64 0, .int .u64 0, .int .u64 0, .int .u64 0, .int .u64 0, .bool false], .int .i64 66]) ∧ Below w.heap.size w w' := by
  have h : ¬ ((n : Int) = 64) := by omega
  have B : Below w.heap.size w w := Below.refl _ _
  go_enter Tryd.func10, Tryd.ntmps10
  go_wp2
  simp [bodyPost, results, Tryd.results10, go_sem]
  repeat (first | with_reducible exact Below.refl _ _ | with_reducible exact B | with_reducible refine Below.drew ?_ | with_reducible refine Below.alloc ?_ (by first | omega | (simp; done) | (simp; omega)) _ | with_reducible refine Below.setCell ?_ (by first | omega | (simp; done)) _)
end Go.Proofs.YtnjmdncnkijijaaDoor
