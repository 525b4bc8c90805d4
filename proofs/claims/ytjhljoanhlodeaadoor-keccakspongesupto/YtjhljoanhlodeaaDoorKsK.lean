import Derived.Test.YtjhljoanhlodeaaDoorKsJ
import Derived.Test.YtjhljoanhlodeaaDoorKsH
/- Layer 2: the law KeccakSponges. -/
namespace Go.Proofs.YtjhljoanhlodeaaDoor
open Go.RowKit Go.Sort
/-- A step as it lies in memory. -/
structure OpR where
  kd : Int
  on : Int
  ot : Int
  a : Option Addr
  g : Nat
  p : Nat
  c : Nat
  Z : List (BitVec 8)
def OpR.v (r : OpR) : List Value := [.int .i64 r.kd, .int .i64 r.on, .int .i64 r.ot, .slice r.a r.Z.length r.c]
structure OpR.ok (W : World) (r : OpR) : Prop where
  n0 : -9223372036854775808 ≤ r.on
  n1 : r.on < 9223372036854775808
  t0 : -9223372036854775808 ≤ r.ot
  t1 : r.ot < 9223372036854775808
  hc : r.Z.length ≤ r.c
  ha : At r.a r.g r.p r.Z
  hnc : r.a = none → r.c = 0
  hZ : Byo W r.g r.p r.Z
def noOp : OpR := ⟨0, 0, 0, none, 0, 0, 0, []⟩
def totZ (XS : List OpR) : Nat := (XS.map fun r => r.Z.length).sum
theorem totZ_snoc {XS : List OpR} {i : Nat} (h : i < XS.length) : totZ (XS.take (i + 1)) = totZ (XS.take i) + (XS.getD i noOp).Z.length := by
  unfold totZ
  rw [List.take_add_one, List.getElem?_eq_getElem h, List.getD, List.getElem?_eq_getElem h]
  simp only [Option.toList_some, List.map_append, List.sum_append, List.map_cons, List.map_nil, List.sum_cons, List.sum_nil, Nat.add_zero, Option.getD_some]
theorem totZ_le (XS : List OpR) (i : Nat) : totZ (XS.take i) ≤ totZ XS := by
  unfold totZ
  conv => rhs; rw [← List.take_append_drop i XS]
  rw [List.map_append, List.sum_append]; omega
/-- Steps in a row. -/
def Ops (W : World) (b o : Nat) (XS : List OpR) : Prop := ∀ i, i < XS.length → W.rangeAt b (o + i * 4) (XS.getD i noOp).v ∧ (XS.getD i noOp).ok W
theorem play_any {w W : World} {ba : Nat} {vp vd : Nat → Value} {oP oD : Nat → Nat → Prop} {ev : Nat → Option (Int × List (BitVec 8))} {T : Nat} {r : OpR} (hT : T + r.Z.length < 1073741824) (hr : r.ok w) (tb1 : Tab w 2 turnsN) (tb2 : Lns w 0 marksN) (tb3 : Tab w 3 turnsN) (tb4 : Lns w 1 marksN) (h : St w W ba vp vd oP oD ev T) :
    Calls Tryd.prog 4 #[.pointer (some ⟨ba, 0, none⟩), .agg r.v.toArray] W fun e w' => e = .returned (.bool true) ∧ ∃ vp vd oP oD ev, St w w' ba vp vd oP oD ev (T + r.Z.length) := by
  obtain ⟨kd, on, ot, a, g, p, c, Z⟩ := r
  obtain ⟨n0, n1, t0, t1, hc, ha, hnc, hZ⟩ := hr
  by_cases k1 : kd = 1
  · exact play_new k1 n0 n1 t0 t1 hT hc ha hnc hZ tb1 tb2 tb3 tb4 h
  by_cases k2 : kd = 2
  · exact play_write k2 n0 n1 t0 t1 hT hc ha hnc hZ tb1 tb2 tb3 tb4 h
  by_cases k3 : kd = 3
  · exact play_sum k3 n0 n1 t0 t1 hT hc ha hnc hZ tb1 tb2 tb3 tb4 h
  by_cases k4 : kd = 4
  · exact play_len k4 n0 n1 t0 t1 hT hc ha hnc hZ tb1 tb2 tb3 tb4 h
  by_cases k5 : kd = 5
  · exact play_reset k5 n0 n1 t0 t1 hT hc ha hnc hZ tb1 tb2 tb3 tb4 h
  by_cases k6 : kd = 6
  · exact play_copy k6 n0 n1 t0 t1 hT hc ha hnc hZ tb1 tb2 tb3 tb4 h
  by_cases k7 : kd = 7
  · exact play_zero k7 n0 n1 t0 t1 hT hc ha hnc hZ tb1 tb2 tb3 tb4 h
  exact play_else k1 k2 k3 k4 k5 k6 k7 n0 n1 t0 t1 hT hc ha hnc hZ tb1 tb2 tb3 tb4 h
theorem St.start (w : World) (t : TypeId) : St w (w.alloc (.cells #[.pointer none, .pointer none, .pointer none, .pointer none, .pointer none, .pointer none] t)) w.heap.size (fun _ => .pointer none) (fun _ => .pointer none) (fun _ _ => False) (fun _ _ => False) (fun _ => none) 0 where
  below := (Below.refl _ _).alloc (Nat.le_refl _) _
  ba0 := Nat.le_refl _
  balt := by simp
  cell := fun i hi => by
    rw [World.cell?_alloc_mark, World.cell?_alloc_mark]
    have : i = 0 ∨ i = 1 ∨ i = 2 := by omega
    rcases this with rfl | rfl | rfl <;> exact ⟨rfl, rfl⟩
  free := fun j => by simp
  pp := fun i _ => ⟨rfl, fun _ => id⟩
  dd := fun i _ => ⟨rfl, fun _ => id⟩
  lowP := fun _ _ _ h => h.elim
  lowD := fun _ _ _ h => h.elim
  apPD := fun _ _ _ _ _ h => h.elim
  apP := fun _ _ _ _ _ _ h => h.elim
  apD := fun _ _ _ _ _ _ h => h.elim
  len := fun _ _ => Nat.le_refl _
theorem size_op : (Tryd.prog.info? 32).map (·.size) = some 4 := by kernel_rfl
set_option maxRecDepth 100000 in
set_option maxHeartbeats 16000000 in
theorem spon_any {a : Option Addr} {b o c : Nat} {XS : List OpR} (hn : XS.length < 1073741824) (hT : totZ XS < 1073741824) (ha : XS = [] ∨ a = some ⟨b, o, none⟩) (w : World) (hX : Ops w b o XS) (tb1 : Tab w 2 turnsN) (tb2 : Lns w 0 marksN) (tb3 : Tab w 3 turnsN) (tb4 : Lns w 1 marksN) :
    Calls Tryd.prog 3 #[.slice a XS.length c] w fun e w' => e = .returned (.bool true) ∧ Below w.heap.size w w' := by
  obtain ⟨n, en⟩ : ∃ n, Hid (n = XS.length) := ⟨_, rfl⟩
  have HA : Hid ((XS = [] ∨ a = some ⟨b, o, none⟩) ∧ Ops w b o XS ∧ totZ XS < 1073741824) := ⟨ha, hX, hT⟩
  have TB : Hid (∀ W', Below w.heap.size w W' → Tab W' 2 turnsN ∧ Lns W' 0 marksN ∧ Tab W' 3 turnsN ∧ Lns W' 1 marksN) := fun W' B => ⟨tb1.keep B, tb2.keep B, tb3.keep B, tb4.keep B⟩
  have nb : (n : Int) < 1073741824 := by rw [en.out]; omega
  rw [← en.out]
  clear hn ha hX hT tb1 tb2 tb3 tb4
  go_enter Tryd.func3, Tryd.ntmps3
  go_wp2_with fail
  refine wp_world (fun W => ∃ vp vd oP oD ev, St w W w.heap.size vp vd oP oD ev (totZ (XS.take 0))) ⟨_, _, _, _, _, St.start w _⟩ ?_
  rintro W ⟨vp0, vd0, oP0, oD0, ev0, h0⟩
  go_loopg [4] n (fun k iv wr => ∃ i : Nat, k = n - i ∧ i ≤ n ∧ iv = .int .i64 (i : Int) ∧ ∃ vp vd oP oD ev, St w wr w.heap.size vp vd oP oD ev (totZ (XS.take i)))
  case atStart => exact ⟨0, rfl, Nat.zero_le _, rfl, _, _, _, _, _, h0⟩
  case round =>
    clear h0
    obtain ⟨i, hk, hi, rfl, vp, vd, oP, oD, ev, hs⟩ := hrel
    have HK : Hid (gk = n - i ∧ i ≤ n) := ⟨hk, hi⟩
    clear hk
    by_cases h8 : i = n
    · subst h8
      have HS : Hid (St w wr w.heap.size vp vd oP oD ev (totZ XS)) := hs.more (totZ_le _ _)
      clear hs
      have zero := byts_zero.symm
      obtain ⟨M0, eM0⟩ : ∃ M0, Hid (M0 = byts (List.replicate 32 0)) := ⟨_, rfl⟩
      rw [← eM0.out] at zero
      have L0 : Hid (M0.toArray.size = 32) := by rw [List.size_toArray, eM0.out, byts_len]; exact List.length_replicate
      go_wp2_with fail
      go_loopg [6] 3 (fun k iv wq => ∃ j : Nat, k = 3 - j ∧ j ≤ 3 ∧ iv = .int .i64 (j : Int) ∧ St w wq w.heap.size vp vd oP oD ev (totZ XS))
      case atStart => exact ⟨0, rfl, by decide, rfl, HS.out⟩
      case round =>
        clear HS HK
        obtain ⟨j, hk, hj, rfl, hs⟩ := hrel
        have HK : Hid (gk = 3 - j ∧ j ≤ 3) := ⟨hk, hj⟩
        clear hk
        by_cases h9 : j = 3
        · subst h9
          have HB : Hid (Below w.heap.size w wr) := hs.below
          clear hs
          go_wp2
          simp [bodyPost, results, Tryd.results3, go_sem]
          exact HB.out
        · have j3 : j < 3 := by omega
          have j3' : (j : Int) < 3 := by omega
          have j0' : ¬ (j : Int) < 0 := by omega
          have lt : lenE (ev j) < 1073741824 := Nat.lt_of_le_of_lt (hs.len j j3) HA.out.2.2
          have CS : Hid (∀ W', Below wr.heap.size wr W' → Calls Tryd.prog 5 #[vp j] W' fun r w' => r = .returned (.agg (byts (sumE (ev j))).toArray) ∧ Below W'.heap.size W' w') := fun W' hb => by
            have hk := hs.keep hb
            exact P_sum (hk.pp j j3) lt (TB.out _ hk.below).1 (TB.out _ hk.below).2.1
          have CD : Hid (∀ W', Below wr.heap.size wr W' → Calls Tryd.prog 6 #[vd j] W' fun r w' => r = .returned (.agg (byts (sumE (ev j))).toArray) ∧ Below W'.heap.size W' w') := fun W' hb => by
            have hk := hs.keep hb
            exact D_sum (hk.dd j j3) lt (TB.out _ hk.below).2.2.1 (TB.out _ hk.below).2.2.2
          have CL : Hid (∀ W', Below wr.heap.size wr W' → Calls Tryd.prog 7 #[vp j] W' fun r w' => r = .returned (.int .i64 (lenE (ev j) : Int)) ∧ Below W'.heap.size W' w') := fun W' hb => P_len ((hs.keep hb).pp j j3)
          have DL : Hid (∀ W', Below wr.heap.size wr W' → Calls Tryd.prog 8 #[vd j] W' fun r w' => r = .returned (.int .i64 (lenE (ev j) : Int)) ∧ Below W'.heap.size W' w') := fun W' hb => D_len ((hs.keep hb).dd j j3)
          have EQ := eq_hash (sumE_len (ev j)) (sumE_len (ev j))
          rw [decide_eq_true rfl] at EQ
          have LM : Hid ((byts (sumE (ev j))).length = 32) := by rw [byts_len, sumE_len]; exact rfl
          have on := one_byts (sumE (ev j))
          obtain ⟨y0, y1⟩ := hs.cell j j3
          have HS : Hid (St w wr w.heap.size vp vd oP oD ev (totZ XS)) := hs
          clear hs lt
          generalize byts (sumE (ev j)) = M at *
          generalize (lenE (ev j) : Int) = LN at *
          generalize vp j = v1 at *
          generalize vd j = v2 at *
          have zs : M0.toArray.size = M.length := by rw [L0.out, LM.out]
          have iz : (Tryd.prog.info? 34).map (·.size) = some M.length := by rw [LM.out]; kernel_rfl
          go_wp2_with fail
          with_reducible refine (CS.out _ (Below.refl _ _)).mono ?_
          rintro e1 w2 ⟨rfl, hb2⟩
          have B2 : Hid (Below wr.heap.size wr w2) := hb2
          have z0 := cell_keep hb2 y0
          have N1 : Hid (∀ w3, Below w2.heap.size w2 w3 → w3.cell? ⟨w.heap.size, j * 2, none⟩ = some v1 ∧ w3.cell? ⟨w.heap.size, j * 2 + 1, none⟩ = some v2) := fun w3 hb3 => ⟨cell_keep hb3 z0, cell_keep hb3 (cell_keep hb2 y1)⟩
          clear hb2 y0 y1 z0
          go_wp2_with (refine wpList_put_newK rfl 34 _ _ rfl M rfl rfl zs iz on ?_; intro w3 hb3 RX LX lt3; obtain ⟨y0, y1⟩ := N1.out w3 hb3; simp only [Act.put])
          have B3 : Hid (Below wr.heap.size wr w3) := B2.out.trans (hb3.mono B2.out.size)
          generalize w2.heap.size = bh at *
          clear hb3 LX lt3 N1
          with_reducible refine (CS.out _ B3.out).mono ?_
          rintro e1 w4 ⟨rfl, hb4⟩
          have B4 : Hid (Below wr.heap.size wr w4) := B3.out.trans (hb4.mono B3.out.size)
          have N2 : Hid (∀ w5, Below w4.heap.size w4 w5 → (w5.cell? ⟨w.heap.size, j * 2, none⟩ = some v1 ∧ w5.cell? ⟨w.heap.size, j * 2 + 1, none⟩ = some v2) ∧ w5.rangeAt bh 0 M) := fun w5 hb5 => ⟨⟨cell_keep hb5 (cell_keep hb4 y0), cell_keep hb5 (cell_keep hb4 y1)⟩, range_keepK (range_keepK RX hb4) hb5⟩
          clear hb4 y0 y1 RX CS
          go_wp2_with (refine wpList_put_newK rfl 34 _ _ rfl M rfl rfl zs iz on ?_; intro w5 hb5 RG LX lt5; obtain ⟨⟨y0, y1⟩, RH⟩ := N2.out w5 hb5; simp only [Act.put])
          have B5 : Hid (Below wr.heap.size wr w5) := B4.out.trans (hb5.mono B4.out.size)
          generalize w4.heap.size = bg at *
          clear hb5 LX lt5 N2
          have r0 := fun d os => cell_regrown y0 d os
          have r1 := fun d os => cell_regrown y1 d os
          have lH : ∀ w', (∃ p : Regrown, w' = grow (redrawn w5 p.d) p.os) → w'.rangeAt bh 0 M := by rintro w' ⟨p, rfl⟩; exact range_keepK RH (below_regrown w5 p.d p.os)
          have lG : ∀ w', (∃ p : Regrown, w' = grow (redrawn w5 p.d) p.os) → w'.rangeAt bg 0 M := by rintro w' ⟨p, rfl⟩; exact range_keepK RG (below_regrown w5 p.d p.os)
          have BB : Hid (∀ d os, Below wr.heap.size wr (grow (redrawn w5 d) os)) := fun d os => B5.out.trans ((below_regrown w5 d os).mono B5.out.size)
          (try simp only [Act.put])
          refine wp_region_quiet_below (by kernel_rfl) (by kernel_rfl) ?_
          repeat
            first
              | go_big_quiet_skip
              | (go_big_quiet_want; refine quiet_load_mid 34 _ rfl bh 0 rfl M _ lH Tryd.underlying34 rfl iz ?_; simp only [Act.put, List.setIfInBounds_toArray, List.set_cons_succ, List.set_cons_zero]; go_big_quiet_on)
              | (go_big_quiet_want; refine quiet_load_mid 34 _ rfl bg 0 rfl M _ lG Tryd.underlying34 rfl iz ?_; simp only [Act.put, List.setIfInBounds_toArray, List.set_cons_succ, List.set_cons_zero]; go_big_quiet_on)
              | (go_big_quiet_want; go_big_quiet_op; go_big_quiet_on)
              | (go_big_quiet_want
                 go_big_quiet_op
                 apply Exists.intro
                 refine ⟨fun p => ?_, ?_⟩
                 · (first | (go_at_call 6; with_reducible exact Calls.regrown_of (CD.out _ (BB.out p.d p.os))) | (go_at_call 7; with_reducible exact Calls.regrown_of (CL.out _ (BB.out p.d p.os))) | (go_at_call 8; with_reducible exact Calls.regrown_of (DL.out _ (BB.out p.d p.os))))
                 go_big_quiet_on)
          refine wpQuiet_nil ?_
          rintro w6 ⟨r, rfl⟩
          have H6 : Hid (St w (grow (redrawn w5 r.d) r.os) w.heap.size vp vd oP oD ev (totZ XS)) := HS.out.keep (BB.out r.d r.os)
          generalize grow (redrawn w5 r.d) r.os = w6 at *
          clear r0 r1 lH lG BB CD CL DL EQ RH RG y0 y1
          go_wp2
          go_roundg (3 - (j + 1))
          case measure => have := HK.out; omega
          case rel => exact ⟨j + 1, rfl, by have := HK.out; omega, by go_num, H6.out⟩
    · have hlt : (i : Int) < (n : Int) := by omega
      have il : i < XS.length := by have := en.out; omega
      obtain ⟨rg, rk⟩ := HA.out.2.1 i il
      obtain rfl : a = some ⟨b, o, none⟩ := by
        rcases HA.out.1 with h | h
        · rw [h] at il; simp at il
        · exact h
      have NX : Hid (totZ (XS.take (i + 1)) = totZ (XS.take i) + (XS.getD i noOp).Z.length) := totZ_snoc il
      have TT : totZ (XS.take i) + (XS.getD i noOp).Z.length < 1073741824 := by have := totZ_le XS (i + 1); have := NX.out; have := HA.out.2.2; omega
      obtain ⟨t1, t2, t3, t4⟩ := TB.out w (Below.refl _ _)
      have PL := play_any TT rk t1 t2 t3 t4 hs
      rw [← NX.out] at PL
      have rw' : wr.rangeAt b (o + i * 4) (XS.getD i noOp).v := fun j v hv => by
        have := rg j v hv
        rw [hs.below.cell (p := ⟨b, o + i * 4 + j, none⟩) (World.block_lt_of_cell? _ _ this)]; exact this
      have il4 : (Tryd.prog.info? 32).map (·.size) = some (XS.getD i noOp).v.length := size_op
      generalize (XS.getD i noOp).v = OV at *
      clear rg rk TT t1 t2 t3 t4 hs h8
      go_wp2_with (refine wpList_load_mid rfl 32 _ rfl b (o + i * 4) rfl OV _ rw' Tryd.underlying32 rfl il4 ?_)
      with_reducible refine PL.mono ?_
      rintro e1 w2 ⟨rfl, h2⟩
      have H2 : Hid (∃ vp vd oP oD ev, St w w2 w.heap.size vp vd oP oD ev (totZ (XS.take (i + 1)))) := h2
      clear h2 PL rw' il4
      go_wp2
      go_roundg (n - (i + 1))
      case measure => have := HK.out; omega
      case rel => exact ⟨i + 1, rfl, by have := HK.out; omega, by go_num, H2.out⟩
end Go.Proofs.YtjhljoanhlodeaaDoor
