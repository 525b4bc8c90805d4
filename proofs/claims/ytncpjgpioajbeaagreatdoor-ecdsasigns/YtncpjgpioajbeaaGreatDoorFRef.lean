import Derived.Test.YtncpjgpioajbeaaGreatDoorFReduce
import Derived.Test.YtncpjgpioajbeaaGreatDoorRefAddSub
import Derived.Test.YtncpjgpioajbeaaGreatDoorRefMul
import Derived.Test.YtncpjgpioajbeaaGreatDoorRefCmp
namespace Go.Proofs.YtncpjgpioajbeaaGreatDoor
open Go.RowKit Go.Sort

/-- The modulus of the document: p for the kind 0, n for every other. -/
def rM (k : Int) : Int := if k = 0 then pN else nN
def rC (k : Int) : Int := if k = 0 then pC else nC
theorem rfit (k : Int) : Fit (rM k) (rC k) := by
  unfold rM rC
  by_cases h : k = 0
  · rw [if_pos h, if_pos h]; exact fit_p
  · rw [if_neg h, if_neg h]; exact fit_n

set_option maxHeartbeats 1000000 in
theorem rmodulus_any (k : Int) (w : World) :
    Calls Tryz.prog 118 #[.int .i64 k] w fun e w' => e = .returned (.agg #[.int .u64 (l0 (rM k)), .int .u64 (l1 (rM k)), .int .u64 (l2 (rM k)), .int .u64 (l3 (rM k))]) ∧ Below w.heap.size w w' := by
  by_cases h0 : k = 0
  · obtain ⟨a0, a1, a2, a3⟩ := limbs_p
    rw [show rM k = pN by simp [rM, h0], a0, a1, a2, a3]
    subst h0
    clear a0 a1 a2 a3
    go_enter Tryz.func118, Tryz.ntmps118
    go_wp2
    simp [bodyPost, results, Tryz.results118, go_sem]
    repeat (first | with_reducible exact Below.refl _ _ | with_reducible refine Below.drew ?_ | with_reducible refine Below.alloc ?_ (by first | omega | (simp; done) | (simp; omega)) _ | with_reducible refine Below.setCell ?_ (by first | omega | (simp; done)) _)
  · obtain ⟨a0, a1, a2, a3⟩ := limbs_n
    rw [show rM k = nN by simp [rM, h0], a0, a1, a2, a3]
    have t0 : (k == 0) = false := by simp [h0]
    clear a0 a1 a2 a3
    go_enter Tryz.func118, Tryz.ntmps118
    go_wp2
    simp [bodyPost, results, Tryz.results118, go_sem]
    repeat (first | with_reducible exact Below.refl _ _ | with_reducible refine Below.drew ?_ | with_reducible refine Below.alloc ?_ (by first | omega | (simp; done) | (simp; omega)) _ | with_reducible refine Below.setCell ?_ (by first | omega | (simp; done)) _)

theorem rc_eq (k : Int) : difN 0 (rM k) = rC k := by
  obtain ⟨a, b, c⟩ := rfit k
  unfold difN; omega


/-- The state of fold. -/
structure RF (w W : World) (bh bl br bz bm bc : Nat) (H L m c : Int) : Prop where
  B : RowKit.Below w.heap.size w W
  hH : Var W bh H
  hL : Var W bl L
  hR : Blank W br
  hZ : Blank W bz
  hM : Hold W bm m
  hC : Hold W bc c
theorem RF.keep {w W w1 : World} {bh bl br bz bm bc : Nat} {H L m c : Int} (s : RF w W bh bl br bz bm bc H L m c) (hb : RowKit.Below W.heap.size W w1) : RF w w1 bh bl br bz bm bc H L m c :=
  ⟨s.B.trans (hb.mono s.B.size), s.hH.keep hb, s.hL.keep hb, s.hR.keep hb, s.hZ.keep hb, s.hM.keep hb, s.hC.keep hb⟩
theorem RF.alloc {w W : World} {bh bl br bz bm bc : Nat} {H L m c : Int} (s : RF w W bh bl br bz bm bc H L m c) (o : Obj) : RF w (W.alloc o) bh bl br bz bm bc H L m c := s.keep ((Below.refl _ _).alloc (Nat.le_refl _) o)
/-- The blocks are apart. -/
structure RA (w : World) (bh bl br bz bm bc : Nat) : Prop where
  h : w.heap.size ≤ bh
  l : w.heap.size ≤ bl
  r : w.heap.size ≤ br
  hl : bh ≠ bl
  hr : bh ≠ br
  hz : bh ≠ bz
  hm : bh ≠ bm
  hc : bh ≠ bc
  lr : bl ≠ br
  lz : bl ≠ bz
  lm : bl ≠ bm
  lc : bl ≠ bc
theorem RF.setH {w W : World} {bh bl br bz bm bc : Nat} {H L m c : Int} (s : RF w W bh bl br bz bm bc H L m c) (a : RA w bh bl br bz bm bc) (k : Int) : RF w ((((W.setCell ⟨bh, 0, none⟩ (.int .u64 (l0 k))).setCell ⟨bh, 1, none⟩ (.int .u64 (l1 k))).setCell ⟨bh, 2, none⟩ (.int .u64 (l2 k))).setCell ⟨bh, 3, none⟩ (.int .u64 (l3 k))) bh bl br bz bm bc k L m c :=
  ⟨below_set4 s.B a.h _ _ _ _, s.hH.sets k, s.hL.set4 a.hl _ _ _ _, s.hR.set4 a.hr _ _ _ _, s.hZ.set4 a.hz _ _ _ _, s.hM.set4 a.hm _ _ _ _, s.hC.set4 a.hc _ _ _ _⟩
theorem RF.setL {w W : World} {bh bl br bz bm bc : Nat} {H L m c : Int} (s : RF w W bh bl br bz bm bc H L m c) (a : RA w bh bl br bz bm bc) (k : Int) : RF w ((((W.setCell ⟨bl, 0, none⟩ (.int .u64 (l0 k))).setCell ⟨bl, 1, none⟩ (.int .u64 (l1 k))).setCell ⟨bl, 2, none⟩ (.int .u64 (l2 k))).setCell ⟨bl, 3, none⟩ (.int .u64 (l3 k))) bh bl br bz bm bc H k m c :=
  ⟨below_set4 s.B a.l _ _ _ _, s.hH.set4 a.hl.symm _ _ _ _, s.hL.sets k, s.hR.set4 a.lr _ _ _ _, s.hZ.set4 a.lz _ _ _ _, s.hM.set4 a.lm _ _ _ _, s.hC.set4 a.lc _ _ _ _⟩

set_option maxRecDepth 100000 in
set_option maxHeartbeats 8000000 in
theorem rfold_any {k h l : Int} (hh : Num h) (hl : Num l) (w : World) :
    Calls Tryz.prog 135 #[.int .i64 k, .agg #[.int .u64 (l0 h), .int .u64 (l1 h), .int .u64 (l2 h), .int .u64 (l3 h)], .agg #[.int .u64 (l0 l), .int .u64 (l1 l), .int .u64 (l2 l), .int .u64 (l3 l)]] w fun e w' => e = .returned (.agg #[.int .u64 (l0 (modN (rM k) (wideN h l))), .int .u64 (l1 (modN (rM k) (wideN h l))), .int .u64 (l2 (modN (rM k) (wideN h l))), .int .u64 (l3 (modN (rM k) (wideN h l)))]) ∧ Below w.heap.size w w' := by
  have hf := rfit k
  have S0 : Hid (∀ w, Calls Tryz.prog 70 #[.agg #[.int .u64 0, .int .u64 0, .int .u64 0, .int .u64 0], .agg #[.int .u64 (l0 (rM k)), .int .u64 (l1 (rM k)), .int .u64 (l2 (rM k)), .int .u64 (l3 (rM k))]] w fun e w' => e = .returned (.tuple #[.agg #[.int .u64 (l0 (rC k)), .int .u64 (l1 (rC k)), .int .u64 (l2 (rC k)), .int .u64 (l3 (rC k))], .int .u64 (borN 0 (rM k))]) ∧ Below w.heap.size w w') := fun w => by
    have := rsub_any (n := 0) ⟨by decide, by decide⟩ hf.num w
    obtain ⟨z0, z1, z2, z3⟩ := zero_limbs
    rw [rc_eq, z0, z1, z2, z3] at this
    exact this
  have M0 : Hid (∀ w, Calls Tryz.prog 118 #[.int .i64 k] w fun e w' => e = .returned (.agg #[.int .u64 (l0 (rM k)), .int .u64 (l1 (rM k)), .int .u64 (l2 (rM k)), .int .u64 (l3 (rM k))]) ∧ Below w.heap.size w w') := rmodulus_any k
  generalize borN 0 (rM k) = z at *
  generalize rM k = m at *
  generalize rC k = c at *
  go_enter Tryz.func135, Tryz.ntmps135
  go_wp2_with fail
  refine calls_world (fun W => Below w.heap.size w W ∧ Var W w.heap.size h ∧ Var W (w.heap.size + 1) l ∧ Blank W (w.heap.size + 1 + 1) ∧ Blank W (w.heap.size + 1 + 1 + 1)) ⟨by repeat (first | with_reducible exact Below.refl _ _ | with_reducible refine Below.alloc ?_ (by first | omega | (simp; done) | (simp; omega)) _), (((Var.new (by simp)).alloc _).alloc _).alloc _, ((Var.new (by simp)).alloc _).alloc _, (Blank.new (by simp)).alloc _, Blank.new (by simp)⟩ ?_
  rintro W ⟨B, hH, hL, hR, hZ⟩
  with_reducible refine (M0.out _).mono ?_
  rintro e w1 ⟨rfl, hb⟩
  replace B := B.trans (hb.mono B.size)
  replace hH := hH.keep hb; replace hL := hL.keep hb; replace hR := hR.keep hb; replace hZ := hZ.keep hb
  clear hb W
  have gZ := fun o => (hZ.alloc o).1.all4
  go_wp2_with fail
  have mlt : w.heap.size + 1 + 1 + 1 < w1.heap.size := hZ.1.lt (by simp)
  refine calls_world (fun W => Below w.heap.size w W ∧ Var W w.heap.size h ∧ Var W (w.heap.size + 1) l ∧ Blank W (w.heap.size + 1 + 1) ∧ Blank W (w.heap.size + 1 + 1 + 1) ∧ Hold W w1.heap.size m) ⟨B.alloc B.size _, hH.alloc _, hL.alloc _, hR.alloc _, hZ.alloc _, Hold.new _ _ _⟩ ?_
  clear B hH hL hR hZ gZ
  rintro W ⟨B, hH, hL, hR, hZ, hM⟩
  with_reducible refine (S0.out _).mono ?_
  rintro e w2 ⟨rfl, hb⟩
  replace B := B.trans (hb.mono B.size)
  replace hH := hH.keep hb; replace hL := hL.keep hb; replace hR := hR.keep hb; replace hZ := hZ.keep hb; replace hM := hM.keep hb
  clear hb W
  go_wp2_with fail
  have clt : w1.heap.size < w2.heap.size := World.block_lt_of_cell? _ _ hM.1
  refine wp_world (fun W => RF w W w.heap.size (w.heap.size + 1) (w.heap.size + 1 + 1) (w.heap.size + 1 + 1 + 1) w1.heap.size w2.heap.size h l m c) ⟨B.alloc B.size _, hH.alloc _, hL.alloc _, hR.alloc _, hZ.alloc _, hM.alloc _, Hold.new _ _ _⟩ ?_
  clear B hH hL hR hZ hM S0 M0
  rintro W Y
  have A : RA w w.heap.size (w.heap.size + 1) (w.heap.size + 1 + 1) (w.heap.size + 1 + 1 + 1) w1.heap.size w2.heap.size := ⟨by omega, by omega, by omega, by omega, by omega, by omega, by omega, by omega, by omega, by omega, by omega, by omega⟩
  clear mlt clt
  generalize w2.heap.size = bc at *
  generalize w1.heap.size = bm at *
  generalize w.heap.size + 1 + 1 + 1 = bz at *
  generalize w.heap.size + 1 + 1 = br at *
  generalize w.heap.size + 1 = bl at *
  generalize hbh : w.heap.size = bh at *
  go_loopg [] (wideN h l).toNat (fun g wr => ∃ H L : Int, g = (wideN H L).toNat ∧ Num H ∧ Num L ∧ wideN H L % m = wideN h l % m ∧ RF w wr bh bl br bz bm bc H L m c)
  case atStart => exact ⟨h, l, rfl, hh, hl, rfl, Y⟩
  case round =>
    clear Y W
    obtain ⟨H, L, hg, nH, nL, he, Y⟩ := hrel
    have E : Hid (gk = (wideN H L).toNat ∧ wideN H L % m = wideN h l % m) := ⟨hg, he⟩
    clear hg he
    have hq := feq_zero nH
    have gH := Y.hH.1.cells; have gZ := Y.hZ.1.all4; have gC := Y.hC.cells
    by_cases hz : H = 0
    · simp only [hz, decide_true] at hq
      subst hz
      have e2 : L % m = wideN h l % m := by have := E.out.2; rw [wide_zero] at this; exact this
      clear E hq gC
      have hq := feq_zero (m := 0) ⟨by decide, by decide⟩
      simp only [decide_true] at hq
      go_wp2_with fail
      clear gH gZ hq
      go_loopg [] L.toNat (fun g wr => ∃ K : Int, g = K.toNat ∧ Num K ∧ K % m = wideN h l % m ∧ RF w wr bh bl br bz bm bc 0 K m c)
      case atStart => exact ⟨L, rfl, nL, e2, Y⟩
      case round =>
        clear Y e2 nL
        obtain ⟨K, hg, nK, he, Y⟩ := hrel
        have E : Hid (gk = K.toNat ∧ K % m = wideN h l % m) := ⟨hg, he⟩
        clear hg he
        have gL := Y.hL.1.cells; have gM := Y.hM.cells
        have C : Hid (∀ w, Calls Tryz.prog 64 #[.agg #[.int .u64 (l0 K), .int .u64 (l1 K), .int .u64 (l2 K), .int .u64 (l3 K)], .agg #[.int .u64 (l0 m), .int .u64 (l1 m), .int .u64 (l2 m), .int .u64 (l3 m)]] w fun e w' => e = .returned (.int .i64 (cmpN K m)) ∧ Below w.heap.size w w') := rcmp_any nK hf.num
        go_wp2_with fail
        with_reducible refine (C.out _).mono ?_
        rintro e w3 ⟨rfl, hb⟩
        replace Y := Y.keep hb
        clear hb gL gM
        by_cases hlt : K < m
        · have ec : cmpN K m = -1 := by unfold cmpN; rw [if_neg (by omega), if_pos hlt]
          have er : modN m (wideN h l) = K := by unfold modN; rw [← E.out.2]; exact Int.emod_eq_of_lt nK.1 hlt
          have ER : Hid (modN m (wideN h l) = K) := er
          clear er
          have gL := Y.hL.1.cells; have gR := Y.hR.1.all4; have fR := Y.hR.2.all4
          rw [ec]
          clear ec C
          go_wp2
          simp [bodyPost, results, Tryz.results135, go_sem, gR, ER.out]
          subst hbh
          exact below_set4 Y.B A.r _ _ _ _
        · have ec : cmpN K m = 0 ∨ cmpN K m = 1 := by
            unfold cmpN
            by_cases h2 : K = m
            · exact .inl (if_pos h2)
            · exact .inr (by rw [if_neg h2, if_neg hlt])
          have mp := hf.pos'
          have ed : difN K m = K - m := by have := nK.2; unfold difN; omega
          have E2 : Hid ((K - m).toNat < gk ∧ Num (K - m) ∧ (K - m) % m = wideN h l % m) :=
            ⟨by have := E.out.1; omega, ⟨by omega, by have := nK.2; omega⟩, by rw [← E.out.2, Int.sub_emod, Int.emod_self, Int.sub_zero, Int.emod_emod_of_dvd _ (Int.dvd_refl m)]⟩
          have D : Hid (∀ w, Calls Tryz.prog 70 #[.agg #[.int .u64 (l0 K), .int .u64 (l1 K), .int .u64 (l2 K), .int .u64 (l3 K)], .agg #[.int .u64 (l0 m), .int .u64 (l1 m), .int .u64 (l2 m), .int .u64 (l3 m)]] w fun e w' => e = .returned (.tuple #[.agg #[.int .u64 (l0 (K - m)), .int .u64 (l1 (K - m)), .int .u64 (l2 (K - m)), .int .u64 (l3 (K - m))], .int .u64 (borN K m)]) ∧ Below w.heap.size w w') := fun w => by have := rsub_any nK hf.num w; rw [ed] at this; exact this
          clear ed hlt mp E C
          generalize K - m = K' at *
          generalize borN K m = zz at *
          have gL := Y.hL.1.cells; have gM := Y.hM.cells
          have fin : Hid (∀ (cc : Int), cc = 0 ∨ cc = 1 → (decide (cc < 0)) = false) := fun cc hcc => by rcases hcc with rfl | rfl <;> rfl
          rcases ec with ec | ec
          all_goals rw [ec]
          all_goals clear ec fin
          all_goals go_wp2_with fail
          all_goals with_reducible refine (D.out _).mono ?_
          all_goals rintro e w4 ⟨rfl, hb⟩
          all_goals replace Y := Y.keep hb
          all_goals clear hb gL gM
          all_goals have lL : bl < w4.heap.size := Y.hL.1.row.lt (by simp)
          all_goals have nl1 : bl ≠ w4.heap.size := by omega
          all_goals have nl2 : w4.heap.size ≠ bl := by omega
          all_goals have gL := Y.hL.1.cells
          all_goals have fL := Y.hL.2.all4
          all_goals go_wp2
          all_goals go_roundg K'.toNat
          all_goals first | (exact E2.out.1) | (exact ⟨K', rfl, E2.out.2.1, E2.out.2.2, (Y.setL A K').alloc _⟩) | (exact ⟨K', rfl, E2.out.2.1, E2.out.2.2, (Y.alloc _).setL A K'⟩)
    · have hzd : decide (H = 0) = false := by simp [hz]
      rw [hzd] at hq
      obtain ⟨st1, st2⟩ := wide_step (l := L) hf nH hz
      have nn := wide_nonneg (fold_num hf nH nL).1 (foldL_Num H L c)
      have nl := wide_nonneg nH nL
      have E2 : Hid ((wideN (foldH H L c) (foldL H L c)).toNat < gk ∧ Num (foldH H L c) ∧ Num (foldL H L c) ∧ wideN (foldH H L c) (foldL H L c) % m = wideN h l % m) :=
        ⟨by have := E.out.1; omega, (fold_num hf nH nL).1, foldL_Num H L c, st1.trans E.out.2⟩
      obtain ⟨q1, q2, q3, q4⟩ := fold_num hf nH nL
      have hc := hf.numc
      have M1 : Hid (∀ w, Calls Tryz.prog 154 #[.agg #[.int .u64 (l0 H), .int .u64 (l1 H), .int .u64 (l2 H), .int .u64 (l3 H)], .agg #[.int .u64 (l0 c), .int .u64 (l1 c), .int .u64 (l2 c), .int .u64 (l3 c)]] w fun e w' => e = .returned (.tuple #[.agg #[.int .u64 (l0 (hiN H c)), .int .u64 (l1 (hiN H c)), .int .u64 (l2 (hiN H c)), .int .u64 (l3 (hiN H c))], .agg #[.int .u64 (l0 (loN H c)), .int .u64 (l1 (loN H c)), .int .u64 (l2 (loN H c)), .int .u64 (l3 (loN H c))]]) ∧ Below w.heap.size w w') := rmul_any nH hc
      have A1 : Hid (∀ w, Calls Tryz.prog 155 #[.agg #[.int .u64 (l0 (loN H c)), .int .u64 (l1 (loN H c)), .int .u64 (l2 (loN H c)), .int .u64 (l3 (loN H c))], .agg #[.int .u64 (l0 L), .int .u64 (l1 L), .int .u64 (l2 L), .int .u64 (l3 L)]] w fun e w' => e = .returned (.tuple #[.agg #[.int .u64 (l0 (foldL H L c)), .int .u64 (l1 (foldL H L c)), .int .u64 (l2 (foldL H L c)), .int .u64 (l3 (foldL H L c))], .int .u64 (carN (loN H c) L)]) ∧ Below w.heap.size w w') := fun w => by
        have := radd_any (loN_Num H c) nL w; rw [q2] at this; exact this
      have nc : Num (carN (loN H c) L) := by obtain ⟨a, b⟩ := q4; exact ⟨a, by omega⟩
      have A2 : Hid (∀ w, Calls Tryz.prog 155 #[.agg #[.int .u64 (l0 (hiN H c)), .int .u64 (l1 (hiN H c)), .int .u64 (l2 (hiN H c)), .int .u64 (l3 (hiN H c))], .agg #[.int .u64 (l0 (carN (loN H c) L)), .int .u64 (l1 (carN (loN H c) L)), .int .u64 (l2 (carN (loN H c) L)), .int .u64 (l3 (carN (loN H c) L))]] w fun e w' => e = .returned (.tuple #[.agg #[.int .u64 (l0 (foldH H L c)), .int .u64 (l1 (foldH H L c)), .int .u64 (l2 (foldH H L c)), .int .u64 (l3 (foldH H L c))], .int .u64 (carN (hiN H c) (carN (loN H c) L))]) ∧ Below w.heap.size w w') := fun w => by
        have := radd_any (hiN_Num nH hc) nc w; rw [q3] at this; exact this
      have F2 : Hid (∀ w, Calls Tryz.prog 148 #[.int .u64 (carN (loN H c) L)] w fun e w' => e = .returned (.agg #[.int .u64 (l0 (carN (loN H c) L)), .int .u64 (l1 (carN (loN H c) L)), .int .u64 (l2 (carN (loN H c) L)), .int .u64 (l3 (carN (loN H c) L))]) ∧ Below w.heap.size w w') := rfrom_any q4
      clear q1 q2 q3 q4 nc st1 st2 nn nl E hz hzd nH nL hf hc hh hl
      generalize hiN H c = P at *
      generalize loN H c = Q at *
      generalize carN Q L = C at *
      generalize carN P C = D at *
      generalize foldH H L c = H' at *
      generalize foldL H L c = L' at *
      go_wp2_with fail
      with_reducible refine (M1.out _).mono ?_
      rintro e w3 ⟨rfl, hb⟩
      replace Y := Y.keep hb
      clear hb gH gZ gC hq
      have gL := fun o o' => ((Y.hL.alloc o).alloc o').1.cells
      go_wp2_with fail
      refine calls_world (fun W => RF w W bh bl br bz bm bc H L m c ∧ Hold W w3.heap.size P) ⟨(Y.alloc _).alloc _, (Hold.new _ _ _).alloc _⟩ ?_
      have plt : bc < w3.heap.size := World.block_lt_of_cell? _ _ Y.hC.1
      clear Y gL
      rintro W ⟨Y, hP⟩
      generalize w3.heap.size + 1 = bq at *
      generalize w3.heap.size = bp at *
      with_reducible refine (A1.out _).mono ?_
      rintro e w4 ⟨rfl, hb⟩
      replace Y := Y.keep hb
      replace hP := hP.keep hb
      clear hb W
      go_wp2_with fail
      have sh : bh ≠ w4.heap.size := by have := Y.hH.1.row.lt (by simp); omega
      have sl : bl ≠ w4.heap.size := by have := Y.hL.1.row.lt (by simp); omega
      refine wp_world (fun W => RF w W bh bl br bz bm bc H L m c ∧ Hold W bp P ∧ Hold W w4.heap.size L') ⟨Y.alloc _, hP.alloc _, Hold.new _ _ _⟩ ?_
      clear Y hP
      rintro W ⟨Y, hP, hS⟩
      generalize w4.heap.size = bs at *
      have gP := hP.cells
      have lh : bh < W.heap.size := Y.hH.1.row.lt (by simp)
      have ll : bl < W.heap.size := Y.hL.1.row.lt (by simp)
      have lp : bp < W.heap.size := World.block_lt_of_cell? _ _ hP.1
      have ls : bs < W.heap.size := World.block_lt_of_cell? _ _ hS.1
      have YY : Hid (RF w W bh bl br bz bm bc H L m c) := Y
      have SS : Hid (Hold W bs L') := hS
      clear Y hP hS plt
      refine wp_out (fun a' W' => ∃ bt, bh ≠ bt ∧ bl ≠ bt ∧ RF w W' bh bl br bz bm bc H L m c ∧ Hold W' bs L' ∧ Hold W' bt H' ∧ a' = { tmps := #[.int .i64 k, .agg #[.int .u64 (l0 h), .int .u64 (l1 h), .int .u64 (l2 h), .int .u64 (l3 h)], .agg #[.int .u64 (l0 l), .int .u64 (l1 l), .int .u64 (l2 l), .int .u64 (l3 l)], Go.undef, .pointer (some { block := bh, off := 0 }), .pointer (some { block := bl, off := 0 }), .pointer (some { block := br, off := 0 }), .pointer (some { block := bz, off := 0 }), .pointer (some { block := bm, off := 0 }), .pointer (some { block := bc, off := 0 }), .int .u64 z, .pointer (some { block := bp, off := 0 }), .pointer (some { block := bq, off := 0 }), .pointer (some { block := bs, off := 0 }), .int .u64 C, .pointer (some { block := bt, off := 0 }), .int .u64 D, Go.undef, Go.undef, .agg #[.int .u64 0, .int .u64 0, .int .u64 0, .int .u64 0], .int .i64 k, .agg #[.int .u64 (l0 m), .int .u64 (l1 m), .int .u64 (l2 m), .int .u64 (l3 m)], .tuple #[.agg #[.int .u64 (l0 c), .int .u64 (l1 c), .int .u64 (l2 c), .int .u64 (l3 c)], .int .u64 z], .agg #[.int .u64 0, .int .u64 0, .int .u64 0, .int .u64 0], .agg #[.int .u64 (l0 m), .int .u64 (l1 m), .int .u64 (l2 m), .int .u64 (l3 m)], .tuple #[.agg #[.int .u64 (l0 c), .int .u64 (l1 c), .int .u64 (l2 c), .int .u64 (l3 c)], .int .u64 z], .agg #[.int .u64 (l0 c), .int .u64 (l1 c), .int .u64 (l2 c), .int .u64 (l3 c)], .int .u64 z, .agg #[.int .u64 (l0 H), .int .u64 (l1 H), .int .u64 (l2 H), .int .u64 (l3 H)], .agg #[.int .u64 0, .int .u64 0, .int .u64 0, .int .u64 0], .bool true, .tuple #[.agg #[.int .u64 (l0 P), .int .u64 (l1 P), .int .u64 (l2 P), .int .u64 (l3 P)], .agg #[.int .u64 (l0 Q), .int .u64 (l1 Q), .int .u64 (l2 Q), .int .u64 (l3 Q)]], .agg #[.int .u64 (l0 H), .int .u64 (l1 H), .int .u64 (l2 H), .int .u64 (l3 H)], .agg #[.int .u64 (l0 c), .int .u64 (l1 c), .int .u64 (l2 c), .int .u64 (l3 c)], .tuple #[.agg #[.int .u64 (l0 P), .int .u64 (l1 P), .int .u64 (l2 P), .int .u64 (l3 P)], .agg #[.int .u64 (l0 Q), .int .u64 (l1 Q), .int .u64 (l2 Q), .int .u64 (l3 Q)]], .agg #[.int .u64 (l0 P), .int .u64 (l1 P), .int .u64 (l2 P), .int .u64 (l3 P)], .agg #[.int .u64 (l0 Q), .int .u64 (l1 Q), .int .u64 (l2 Q), .int .u64 (l3 Q)], .tuple #[.agg #[.int .u64 (l0 L'), .int .u64 (l1 L'), .int .u64 (l2 L'), .int .u64 (l3 L')], .int .u64 C], .agg #[.int .u64 (l0 Q), .int .u64 (l1 Q), .int .u64 (l2 Q), .int .u64 (l3 Q)], .agg #[.int .u64 (l0 L), .int .u64 (l1 L), .int .u64 (l2 L), .int .u64 (l3 L)], .tuple #[.agg #[.int .u64 (l0 L'), .int .u64 (l1 L'), .int .u64 (l2 L'), .int .u64 (l3 L')], .int .u64 C], .agg #[.int .u64 (l0 L'), .int .u64 (l1 L'), .int .u64 (l2 L'), .int .u64 (l3 L')], .int .u64 C, .tuple #[.agg #[.int .u64 (l0 H'), .int .u64 (l1 H'), .int .u64 (l2 H'), .int .u64 (l3 H')], .int .u64 D], .agg #[.int .u64 (l0 P), .int .u64 (l1 P), .int .u64 (l2 P), .int .u64 (l3 P)], .int .u64 C, .agg #[.int .u64 (l0 C), .int .u64 (l1 C), .int .u64 (l2 C), .int .u64 (l3 C)], .tuple #[.agg #[.int .u64 (l0 H'), .int .u64 (l1 H'), .int .u64 (l2 H'), .int .u64 (l3 H')], .int .u64 D], .agg #[.int .u64 (l0 H'), .int .u64 (l1 H'), .int .u64 (l2 H'), .int .u64 (l3 H')], .int .u64 D, u50, u51, Go.undef, Go.undef, Go.undef, Go.undef, Go.undef, Go.undef, Go.undef, Go.undef, Go.undef, Go.undef, Go.undef, Go.undef], defers := [] }) ?_ ?_
      · have dz : W.drew.heap.size = W.heap.size := rfl
        have _ : bh < W.heap.size := by omega
        have _ : bh ≤ W.heap.size := by omega
        have _ : bh < W.heap.size + 1 := by omega
        have _ : bh < W.heap.size + 1 + 1 := by omega
        have _ : bh ≠ W.heap.size := by omega
        have _ : W.heap.size ≠ bh := by omega
        have _ : bh ≠ W.heap.size + 1 := by omega
        have _ : W.heap.size + 1 ≠ bh := by omega
        have _ : bp < W.heap.size := by omega
        have _ : bp ≤ W.heap.size := by omega
        have _ : bp < W.heap.size + 1 := by omega
        have _ : bp < W.heap.size + 1 + 1 := by omega
        have _ : bp ≠ W.heap.size := by omega
        have _ : W.heap.size ≠ bp := by omega
        have _ : bp ≠ W.heap.size + 1 := by omega
        have _ : W.heap.size + 1 ≠ bp := by omega
        have _ : bs < W.heap.size := by omega
        have _ : bs ≤ W.heap.size := by omega
        have _ : bs < W.heap.size + 1 := by omega
        have _ : bs < W.heap.size + 1 + 1 := by omega
        have _ : bs ≠ W.heap.size := by omega
        have _ : W.heap.size ≠ bs := by omega
        have _ : bs ≠ W.heap.size + 1 := by omega
        have _ : W.heap.size + 1 ≠ bs := by omega
        go_region_held3 (fun w' => w'.cell? ⟨bp, 0, none⟩ = some (.int .u64 (l0 P)) ∧ w'.cell? ⟨bp, 1, none⟩ = some (.int .u64 (l1 P)) ∧ w'.cell? ⟨bp, 2, none⟩ = some (.int .u64 (l2 P)) ∧ w'.cell? ⟨bp, 3, none⟩ = some (.int .u64 (l3 P))) (((try dsimp only); (repeat' (apply And.intro)); (all_goals repeat (first | with_reducible assumption | with_reducible apply cell_keep hb2 | with_reducible apply cell_keep hb1 | with_reducible apply cell_alloc | (with_reducible refine cell_set ?_ (by with_reducible assumption)) | (simp [go_sem, *]; done)))))
          (first
            | (go_at_call 148; with_reducible refine (F2.out _).mono ?_; rintro e w1 ⟨rfl, hb1⟩; have hc1 := oldCells hb1; have hz1 := hb1.size; (try simp at hz1); (try (have := fun j => oldCells hb1 (W.heap.size) j (by first | omega | (simp; done) | (simp; omega)))); (try (have := fun j => oldCells hb1 (W.heap.size + 1) j (by first | omega | (simp; done) | (simp; omega)))); have _ : bh < w1.heap.size := (by omega); have _ : bh ≤ w1.heap.size := (by omega); have _ : bh < w1.heap.size + 1 := (by omega); have _ : bh < w1.heap.size + 1 + 1 := (by omega); have _ : bh ≠ w1.heap.size := (by omega); have _ : w1.heap.size ≠ bh := (by omega); have _ : bh ≠ w1.heap.size + 1 := (by omega); have _ : w1.heap.size + 1 ≠ bh := (by omega); have _ : bp < w1.heap.size := (by omega); have _ : bp ≤ w1.heap.size := (by omega); have _ : bp < w1.heap.size + 1 := (by omega); have _ : bp < w1.heap.size + 1 + 1 := (by omega); have _ : bp ≠ w1.heap.size := (by omega); have _ : w1.heap.size ≠ bp := (by omega); have _ : bp ≠ w1.heap.size + 1 := (by omega); have _ : w1.heap.size + 1 ≠ bp := (by omega); have _ : bs < w1.heap.size := (by omega); have _ : bs ≤ w1.heap.size := (by omega); have _ : bs < w1.heap.size + 1 := (by omega); have _ : bs < w1.heap.size + 1 + 1 := (by omega); have _ : bs ≠ w1.heap.size := (by omega); have _ : w1.heap.size ≠ bs := (by omega); have _ : bs ≠ w1.heap.size + 1 := (by omega); have _ : w1.heap.size + 1 ≠ bs := (by omega); (try (have _ : W.heap.size < w1.heap.size := (by omega))); (try (have _ : W.heap.size ≤ w1.heap.size := (by omega))); (try (have _ : W.heap.size ≠ w1.heap.size := (by omega))); (try (have _ : w1.heap.size ≠ W.heap.size := (by omega))); (try (have _ : W.heap.size < w1.heap.size + 1 := (by omega))); (try (have _ : W.heap.size + 1 < w1.heap.size := (by omega))); (try (have _ : W.heap.size + 1 ≤ w1.heap.size := (by omega))); (try (have _ : W.heap.size + 1 ≠ w1.heap.size := (by omega))); (try (have _ : w1.heap.size ≠ W.heap.size + 1 := (by omega))); (try (have _ : W.heap.size + 1 < w1.heap.size + 1 := (by omega))))
            | (go_at_call 155; with_reducible refine (A2.out _).mono ?_; rintro e w2 ⟨rfl, hb2⟩; have hc2 := oldCells hb2; have hz2 := hb2.size; (try simp at hz2); (try (have := fun j => oldCells hb2 (W.heap.size) j (by first | omega | (simp; done) | (simp; omega)))); (try (have := fun j => oldCells hb2 (W.heap.size + 1) j (by first | omega | (simp; done) | (simp; omega)))); (try (have := fun j => oldCells hb2 (w1.heap.size) j (by first | omega | (simp; done) | (simp; omega)))); (try (have := fun j => oldCells hb2 (w1.heap.size + 1) j (by first | omega | (simp; done) | (simp; omega)))); have _ : bh < w2.heap.size := (by omega); have _ : bh ≤ w2.heap.size := (by omega); have _ : bh < w2.heap.size + 1 := (by omega); have _ : bh < w2.heap.size + 1 + 1 := (by omega); have _ : bh ≠ w2.heap.size := (by omega); have _ : w2.heap.size ≠ bh := (by omega); have _ : bh ≠ w2.heap.size + 1 := (by omega); have _ : w2.heap.size + 1 ≠ bh := (by omega); have _ : bp < w2.heap.size := (by omega); have _ : bp ≤ w2.heap.size := (by omega); have _ : bp < w2.heap.size + 1 := (by omega); have _ : bp < w2.heap.size + 1 + 1 := (by omega); have _ : bp ≠ w2.heap.size := (by omega); have _ : w2.heap.size ≠ bp := (by omega); have _ : bp ≠ w2.heap.size + 1 := (by omega); have _ : w2.heap.size + 1 ≠ bp := (by omega); have _ : bs < w2.heap.size := (by omega); have _ : bs ≤ w2.heap.size := (by omega); have _ : bs < w2.heap.size + 1 := (by omega); have _ : bs < w2.heap.size + 1 + 1 := (by omega); have _ : bs ≠ w2.heap.size := (by omega); have _ : w2.heap.size ≠ bs := (by omega); have _ : bs ≠ w2.heap.size + 1 := (by omega); have _ : w2.heap.size + 1 ≠ bs := (by omega); (try (have _ : W.heap.size < w2.heap.size := (by omega))); (try (have _ : W.heap.size ≤ w2.heap.size := (by omega))); (try (have _ : W.heap.size ≠ w2.heap.size := (by omega))); (try (have _ : w2.heap.size ≠ W.heap.size := (by omega))); (try (have _ : W.heap.size < w2.heap.size + 1 := (by omega))); (try (have _ : W.heap.size + 1 < w2.heap.size := (by omega))); (try (have _ : W.heap.size + 1 ≤ w2.heap.size := (by omega))); (try (have _ : W.heap.size + 1 ≠ w2.heap.size := (by omega))); (try (have _ : w2.heap.size ≠ W.heap.size + 1 := (by omega))); (try (have _ : W.heap.size + 1 < w2.heap.size + 1 := (by omega))); (try (have _ : w1.heap.size < w2.heap.size := (by omega))); (try (have _ : w1.heap.size ≤ w2.heap.size := (by omega))); (try (have _ : w1.heap.size ≠ w2.heap.size := (by omega))); (try (have _ : w2.heap.size ≠ w1.heap.size := (by omega))); (try (have _ : w1.heap.size < w2.heap.size + 1 := (by omega))); (try (have _ : w1.heap.size + 1 < w2.heap.size := (by omega))); (try (have _ : w1.heap.size + 1 ≤ w2.heap.size := (by omega))); (try (have _ : w1.heap.size + 1 ≠ w2.heap.size := (by omega))); (try (have _ : w2.heap.size ≠ w1.heap.size + 1 := (by omega))); (try (have _ : w1.heap.size + 1 < w2.heap.size + 1 := (by omega)))))
        all_goals (refine OutQ.intro ⟨_, by omega, by omega, RF.keep YY.out ?_, Hold.keep SS.out ?_, ?_, rfl⟩)
        all_goals repeat (first | with_reducible exact Below.refl _ _ | with_reducible refine Below.alloc ?_ (by first | omega | (simp; done) | (simp; omega)) _ | with_reducible refine Below.setCell ?_ (by first | with_reducible assumption | exact Nat.le_refl _) _ | with_reducible refine Below.drew ?_ | with_reducible refine Hold.fresh (by first | rfl | (simp; done) | fail) | with_reducible refine Hold.sets4 ?_ | with_reducible refine Hold.alloc ?_ _ | with_reducible refine Hold.drew ?_ | with_reducible refine Has.fresh (by first | rfl | (simp; done) | fail) (by first | (simp; done) | fail) | with_reducible refine Has.alloc ?_ _ | with_reducible refine Has.drew ?_ | with_reducible refine Below.trans ?_ (Below.mono hb2 (by first | omega | (simp; done) | (simp; omega))) | with_reducible refine Has.keep ?_ hb2 | with_reducible refine Hold.keep ?_ hb2 | with_reducible refine Below.trans ?_ (Below.mono hb1 (by first | omega | (simp; done) | (simp; omega))) | with_reducible refine Has.keep ?_ hb1 | with_reducible refine Hold.keep ?_ hb1)
      rintro _ W1 ⟨bt, th, tl, Y, hS, hT, rfl⟩
      clear YY SS gP lh lp ls ll W
      have gS := hS.cells; have gT := hT.cells; have gH := Y.hH.1.cells; have fH := Y.hH.2.all4; have gL := Y.hL.1.cells; have fL := Y.hL.2.all4
      have hl' := A.hl; have hl2 := A.hl.symm; have sh' := sh.symm; have sl' := sl.symm; have th' := th.symm; have tl' := tl.symm
      go_wp2
      go_roundg (wideN H' L').toNat
      case measure => exact E2.out.1
      case rel => exact ⟨H', L', rfl, E2.out.2.1, E2.out.2.2.1, E2.out.2.2.2, (Y.setH A H').setL A L'⟩
end Go.Proofs.YtncpjgpioajbeaaGreatDoor
