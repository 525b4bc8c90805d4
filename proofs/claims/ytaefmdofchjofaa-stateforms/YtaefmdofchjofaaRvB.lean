import Derived.Test.YtaefmdofchjofaaRjA
/- Layer 7: the long ones. -/
namespace Go.Proofs.Ytaefmdofchjofaa
open Go.RowKit Go.Sort
set_option maxRecDepth 100000 in
set_option maxHeartbeats 4000000 in
theorem rv_end {b o c m p k : Nat} {f : Int} {mm : Nat} (hmm : m ≤ mm) (hp : p < m) (hm : m ≤ 16777216) (f0 : 128 ≤ f) (f1 : f < 256) (t1 : f % 64 = 55 + (k : Int)) (k0 : 1 ≤ k) (hk : m - (p + 1) < k) (w : World) (h : w.cell? ⟨b, o + p, none⟩ = some (.int .u8 f)) :
    Calls Try.prog 64 #[.slice (some ⟨b, o, none⟩) mm c, .int .i64 (p : Int), .int .i64 (m : Int)] w fun e w' => e = .returned (.tuple #[.agg #[.bool false, .int .i64 0, .int .i64 0], .int .i64 70]) ∧ Below w.heap.size w w' := by
  have b1 : decide ((m : Int) ≤ (p : Int)) = false := decide_eq_false (by omega)
  have b2 : (p : Int) < (m : Int) := by omega
  have b2m : (p : Int) < (mm : Int) := by omega
  have HMM : Hid (m ≤ mm) := hmm
  clear hmm
  have b3 : (m : Int) ≤ 16777216 := by omega
  have b4 : decide (f < 128) = false := decide_eq_false (by omega)
  have b5 : decide (55 < 55 + (k : Int)) = true := decide_eq_true (by omega)
  have b6 : (k : Int) ≤ 8 := by omega
  have wf : wrap64 f = f := by unfold wrap64; omega
  have t2 : f.tmod 64 = 55 + (k : Int) := by rw [Int.tmod_eq_emod_of_nonneg (by omega)]; exact t1
  have g := fun ob => keepC ((Below.refl w.heap.size w).alloc (Nat.le_refl _) ob) h
  have e2 : (55 : Int) + (k : Int) - 55 = k := by omega
  have d1 : decide ((m : Int) - ((p : Int) + 1) < (k : Int)) = true := decide_eq_true (by omega)
  have o1 : w.heap.size ≤ w.heap.size + 1 := by omega
  clear h t1 hp hm hk
  go_enter Try.func64, Try.ntmps64
  go_wp2
  simp [bodyPost, results, Try.results64, go_sem]
  repeat (first | with_reducible exact Below.refl _ _ | with_reducible refine Below.setCell ?_ (Nat.le_refl _) _ | with_reducible refine Below.setCell ?_ o1 _ | with_reducible refine Below.alloc ?_ (Nat.le_refl _) _ | with_reducible refine Below.alloc ?_ (by simp) _)
set_option maxRecDepth 100000 in
set_option maxHeartbeats 4000000 in
theorem rv_long {b o c m p k : Nat} {f y L d c1 c2 : Int} {l : Bool} {r : Value} {mm : Nat} (hmm : m ≤ mm) (hp : p < m) (hm : m ≤ 16777216) (hc : m ≤ c) (f0 : 128 ≤ f) (f1 : f < 256) (hl : decide (192 ≤ f) = l) (t1 : f % 64 = 55 + (k : Int)) (k0 : 1 ≤ k) (hk : p + 1 + k ≤ m) (w : World) (h : w.cell? ⟨b, o + p, none⟩ = some (.int .u8 f)) (hy : w.cell? ⟨b, o + (p + 1), none⟩ = some (.int .u8 y))
    (hd : d = (m : Int) - ((p : Int) + 1 + (k : Int)))
    (GT : Hid (∀ W, Below w.heap.size w W → Calls Try.prog 66 #[.slice (some ⟨b, o + (p + 1), none⟩) k (c - (p + 1))] W fun e w' => e = .returned (.tuple #[.agg #[.int .u64 (l0 L), .int .u64 (l1 L), .int .u64 (l2 L), .int .u64 (l3 L)], .int .i64 0]) ∧ Below W.heap.size W w'))
    (FA : Hid (∀ w, Calls Try.prog 38 #[.int .u64 56] w fun e w' => e = .returned (.agg #[.int .u64 (l0 56), .int .u64 (l1 56), .int .u64 (l2 56), .int .u64 (l3 56)]) ∧ Below w.heap.size w w'))
    (CA : Hid (∀ w, Calls Try.prog 79 #[.agg #[.int .u64 (l0 L), .int .u64 (l1 L), .int .u64 (l2 L), .int .u64 (l3 L)], .agg #[.int .u64 (l0 56), .int .u64 (l1 56), .int .u64 (l2 56), .int .u64 (l3 56)]] w fun e w' => e = .returned (.int .i64 c1) ∧ Below w.heap.size w w'))
    (FB : Hid (∀ w, Calls Try.prog 38 #[.int .u64 d] w fun e w' => e = .returned (.agg #[.int .u64 (l0 d), .int .u64 (l1 d), .int .u64 (l2 d), .int .u64 (l3 d)]) ∧ Below w.heap.size w w'))
    (CB : Hid (∀ w, Calls Try.prog 79 #[.agg #[.int .u64 (l0 L), .int .u64 (l1 L), .int .u64 (l2 L), .int .u64 (l3 L)], .agg #[.int .u64 (l0 d), .int .u64 (l1 d), .int .u64 (l2 d), .int .u64 (l3 d)]] w fun e w' => e = .returned (.int .i64 c2) ∧ Below w.heap.size w w'))
    {z1 z2 z3 : Bool} (k1 : (y == 0) = z1) (k2 : decide (c1 < 0) = z2) (k3 : decide (0 < c2) = z3)
    (hL : z2 = false → 56 ≤ L) (hL2 : z3 = false → L ≤ d)
    (hr : r = if z1 || z2 then .tuple #[.agg #[.bool false, .int .i64 0, .int .i64 0], .int .i64 72] else if z3 then .tuple #[.agg #[.bool false, .int .i64 0, .int .i64 0], .int .i64 70] else .tuple #[.agg #[.bool l, .int .i64 ((p : Int) + 1 + (k : Int)), .int .i64 ((p : Int) + 1 + (k : Int) + L)], .int .i64 0]) :
    Calls Try.prog 64 #[.slice (some ⟨b, o, none⟩) mm c, .int .i64 (p : Int), .int .i64 (m : Int)] w fun e w' => e = .returned r ∧ Below w.heap.size w w' := by
  have b1 : decide ((m : Int) ≤ (p : Int)) = false := decide_eq_false (by omega)
  have b2 : (p : Int) < (m : Int) := by omega
  have b2m : (p : Int) < (mm : Int) := by omega
  have HMM : Hid (m ≤ mm) := hmm
  clear hmm
  have b3 : (m : Int) ≤ 16777216 := by omega
  have b4 : decide (f < 128) = false := decide_eq_false (by omega)
  have b5 : decide (55 < 55 + (k : Int)) = true := decide_eq_true (by omega)
  have b6 : (k : Int) ≤ 8 := by omega
  have wf : wrap64 f = f := by unfold wrap64; omega
  have t2 : f.tmod 64 = 55 + (k : Int) := by rw [Int.tmod_eq_emod_of_nonneg (by omega)]; exact t1
  have g := fun ob => keepC ((Below.refl w.heap.size w).alloc (Nat.le_refl _) ob) h
  have e2 : (55 : Int) + (k : Int) - 55 = k := by omega
  have d1 : decide ((m : Int) - ((p : Int) + 1) < (k : Int)) = false := decide_eq_false (by omega)
  have e1 : ((p : Int) + 1).toNat = p + 1 := by omega
  have e3 : ((p : Int) + 1 + (k : Int)).toNat = p + 1 + k := by omega
  have s1 : (p : Int) + 1 + (k : Int) ≤ (c : Int) := by omega
  have s2 : p + 1 + k - (p + 1) = k := by omega
  have s3 : c ≠ p + 1 := by omega
  have b7 : (p : Int) + 1 < (m : Int) := by omega
  have b7m : (p : Int) + 1 < (mm : Int) := by have := HMM.out; omega
  have HR : Hid (r = if z1 || z2 then .tuple #[.agg #[.bool false, .int .i64 0, .int .i64 0], .int .i64 72] else if z3 then .tuple #[.agg #[.bool false, .int .i64 0, .int .i64 0], .int .i64 70] else .tuple #[.agg #[.bool l, .int .i64 ((p : Int) + 1 + (k : Int)), .int .i64 ((p : Int) + 1 + (k : Int) + L)], .int .i64 0]) := hr
  have HY : Hid (∀ W, Below w.heap.size w W → W.cell? ⟨b, o + (p + 1), none⟩ = some (.int .u8 y)) := fun W B => keepC B hy
  have HL : Hid ((z2 = false → 56 ≤ L) ∧ (z3 = false → L ≤ d) ∧ m ≤ 16777216 ∧ d = (m : Int) - ((p : Int) + 1 + (k : Int)) ∧ 1 ≤ k ∧ p + 1 + k ≤ m) := ⟨hL, hL2, hm, hd, k0, hk⟩
  clear h t1 hp hm hk hr hy hL hL2 hd hc k0
  go_enter Try.func64, Try.ntmps64
  go_wp2_with fail
  refine calls_world (fun W => Below w.heap.size w W ∧ Hb W w.heap.size false 0 0 ∧ Fr3 W w.heap.size ∧ Hb W (w.heap.size + 1) l ((p : Int) + 1) 0 ∧ Fr3 W (w.heap.size + 1) ∧ W.heap.size = w.heap.size + 2) ⟨((Below.refl _ _).alloc (Nat.le_refl _) _).alloc (by simp) _, ⟨by simp [go_sem], by simp [go_sem], by simp [go_sem]⟩, ⟨by simp [go_sem], by simp [go_sem], by simp [go_sem]⟩, ⟨by simp [go_sem], by simp [go_sem], by simp [go_sem]⟩, ⟨by simp [go_sem], by simp [go_sem], by simp [go_sem]⟩, by simp⟩ ?_
  rintro W ⟨B, hR, hF, hH, hG, hW⟩
  have rn : w.heap.size + 1 ≠ w.heap.size := by omega
  have r1 : w.heap.size < W.heap.size := by omega
  have r2 : w.heap.size + 1 < W.heap.size := by omega
  have r0 : w.heap.size ≤ w.heap.size + 1 := by omega
  generalize w.heap.size + 1 = bh at *
  with_reducible refine (GT.out _ B).mono ?_
  rintro e w1 ⟨rfl, hb⟩
  replace B := B.trans (hb.mono B.size)
  replace hR := hR.keep hb; replace hH := hH.keep hb; replace hF := hF.keep r1 hb; replace hG := hG.keep r2 hb
  have r3 := hR.lt
  have r4 := hH.lt
  clear hb hW r1 r2 W g d1 b1 b4 b5 wf t2 GT
  have q1 : w1.heap.size ≠ bh := by omega
  have q2 : w1.heap.size ≠ w.heap.size := by omega
  have q3 := B.size
  have R1 : Hid (∀ ob, Hb (w1.alloc ob) w.heap.size false 0 0) := fun ob => hR.keep ((Below.refl _ _).alloc (Nat.le_refl _) ob)
  have H1 : Hid (∀ ob, Hb (w1.alloc ob) bh l ((p : Int) + 1) 0) := fun ob => hH.keep ((Below.refl _ _).alloc (Nat.le_refl _) ob)
  have F1 : Hid (∀ ob, Fr3 (w1.alloc ob) w.heap.size) := fun ob => hF.keep r3 ((Below.refl _ _).alloc (Nat.le_refl _) ob)
  have G1 : Hid (∀ ob, Fr3 (w1.alloc ob) bh) := fun ob => hG.keep r4 ((Below.refl _ _).alloc (Nat.le_refl _) ob)
  go_wp2_with fail
  refine wp_world (fun W => Below w.heap.size w W ∧ Hb W w.heap.size false 0 0 ∧ Fr3 W w.heap.size ∧ Hb W bh l ((p : Int) + 1) 0 ∧ Fr3 W bh ∧ NmR W w1.heap.size L ∧ w1.heap.size < W.heap.size) ⟨?_, ?_, ?_, ?_, ?_, ?_, ?_⟩ ?_
  · repeat (first | with_reducible exact B | with_reducible refine Below.setCell ?_ B.size _ | with_reducible refine Below.alloc ?_ B.size _)
  · exact R1.out _
  · exact F1.out _
  · exact H1.out _
  · exact G1.out _
  · exact ⟨by simp [go_sem], by simp [go_sem], by simp [go_sem], by simp [go_sem]⟩
  · simp
  clear B hR hF hH hG R1 H1 F1 G1
  rintro W ⟨B, hR, hF, hH, hG, hN, r5⟩
  generalize w1.heap.size = bl at *
  have gy := fun d os => keepC (below_regrown W d os) (HY.out W B)
  have gh := fun d os => (hH.keep (below_regrown W d os)).2.1
  have g0 := fun d os => (hN.keep (below_regrown W d os)).1
  have g1 := fun d os => (hN.keep (below_regrown W d os)).2.1
  have g2 := fun d os => (hN.keep (below_regrown W d os)).2.2.1
  have g3 := fun d os => (hN.keep (below_regrown W d os)).2.2.2
  refine wp_region_quiet_below (by kernel_rfl) (by kernel_rfl) ?_
  cases z1
  case true =>
    repeat
      first
        | go_big_quiet_skip
        | (go_big_quiet_want; go_big_quiet_op; go_big_quiet_on)
        | (go_big_quiet_want
           go_big_quiet_op
           apply Exists.intro
           refine ⟨fun p => ?_, ?_⟩
           · (first | (go_at_call 38; with_reducible exact Calls.regrown_of (FA.out _)) | (go_at_call 38; with_reducible exact Calls.regrown_of (FB.out _)) | (go_at_call 79; with_reducible exact Calls.regrown_of (CA.out _)) | (go_at_call 79; with_reducible exact Calls.regrown_of (CB.out _)))
           go_big_quiet_on)
    refine wpQuiet_nil ?_
    rintro w2 ⟨qq, rfl⟩
    have hb := below_regrown W qq.d qq.os
    generalize grow (redrawn W qq.d) qq.os = W2 at *
    replace B := B.trans (hb.mono B.size)
    obtain ⟨a0, a1, a2⟩ := hR.keep hb
    obtain ⟨f0', f1', f2'⟩ := hF.keep (by omega) hb
    clear hb gy gh g0 g1 g2 g3 hH hG hN hR hF
    go_wp2
    simp [bodyPost, results, Try.results64, go_sem, HR.out, *]
    exact ((B.setCell (Nat.le_refl _) _).setCell (Nat.le_refl _) _).setCell (Nat.le_refl _) _
  case false =>
    repeat
      first
        | go_big_quiet_skip
        | (go_big_quiet_want; go_big_quiet_op; go_big_quiet_on)
        | (go_big_quiet_want
           go_big_quiet_op
           apply Exists.intro
           refine ⟨fun p => ?_, ?_⟩
           · (first | (go_at_call 38; with_reducible exact Calls.regrown_of (FA.out _)) | (go_at_call 38; with_reducible exact Calls.regrown_of (FB.out _)) | (go_at_call 79; with_reducible exact Calls.regrown_of (CA.out _)) | (go_at_call 79; with_reducible exact Calls.regrown_of (CB.out _)))
           go_big_quiet_on)
    refine wpQuiet_nil ?_
    rintro w2 ⟨qq, rfl⟩
    have hb := below_regrown W qq.d qq.os
    generalize grow (redrawn W qq.d) qq.os = W2 at *
    replace B := B.trans (hb.mono B.size)
    replace hR := hR.keep hb; replace hH := hH.keep hb; replace hN := hN.keep hb
    replace hF := hF.keep (by omega) hb; replace hG := hG.keep (by omega) hb
    clear hb gy gh g0 g1 g2 g3
    cases z2
    case true =>
      obtain ⟨a0, a1, a2⟩ := hR
      obtain ⟨f0', f1', f2'⟩ := hF
      go_wp2
      simp [bodyPost, results, Try.results64, go_sem, HR.out, *]
      exact ((B.setCell (Nat.le_refl _) _).setCell (Nat.le_refl _) _).setCell (Nat.le_refl _) _
    case false =>
      obtain ⟨k9, u9⟩ : 56 ≤ L ∧ (0 : Int) ≤ d := ⟨HL.out.1 rfl, by have := HL.out.2.2; omega⟩
      have wd : IntKind.u64.wrap d = d := by rw [IntKind.wrap_u64]; have := HL.out.2.2; omega
      have ed : (m : Int) - ((p : Int) + 1 + (k : Int)) = d := HL.out.2.2.2.1.symm
      have H2 := hH.size ((p : Int) + 1 + (k : Int))
      have G2 := fun v => hG.set ⟨bh, 1, none⟩ v
      have R2 := fun v => hR.other (i := 1) rn v
      have F2 := fun v => hF.set ⟨bh, 1, none⟩ v
      have N2 := fun v => hN.other (i := 1) (Ne.symm q1) v
      have B2 := fun v => B.setCell (p := ⟨bh, 1, none⟩) r0 v
      have S2 : (W2.setCell ⟨bh, 1, none⟩ (.int .i64 ((p : Int) + 1 + (k : Int)))).heap.size = W2.heap.size := by simp
      obtain ⟨a0, a1, a2⟩ := hH
      obtain ⟨f0', f1', f2'⟩ := hG
      go_wp2_with fail
      refine wp_world (fun W => Below w.heap.size w W ∧ Hb W w.heap.size false 0 0 ∧ Fr3 W w.heap.size ∧ Hb W bh l ((p : Int) + 1 + (k : Int)) 0 ∧ Fr3 W bh ∧ NmR W bl L ∧ W.heap.size = W2.heap.size) ⟨B2 _, R2 _, F2 _, H2, G2 _, N2 _, S2⟩ ?_
      have r6 := hR.lt
      have r7 : bh < W2.heap.size := World.block_lt_of_cell? W2 _ a0
      clear H2 G2 R2 F2 N2 B2 S2 a0 a1 a2 f0' f1' f2' B hR hF hN
      rintro W3 ⟨B, hR, hF, hH, hG, hN, r8⟩
      have gh := fun d os => (hH.keep (below_regrown W3 d os)).2.1
      have g0 := fun d os => (hN.keep (below_regrown W3 d os)).1
      have g1 := fun d os => (hN.keep (below_regrown W3 d os)).2.1
      have g2 := fun d os => (hN.keep (below_regrown W3 d os)).2.2.1
      have g3 := fun d os => (hN.keep (below_regrown W3 d os)).2.2.2
      refine wp_region_quiet_below (by kernel_rfl) (by kernel_rfl) ?_
      repeat
        first
          | go_big_quiet_skip
          | (go_big_quiet_want; go_big_quiet_op; go_big_quiet_on)
          | (go_big_quiet_want
             go_big_quiet_op
             apply Exists.intro
             refine ⟨fun p => ?_, ?_⟩
             · (first | (go_at_call 38; with_reducible exact Calls.regrown_of (FA.out _)) | (go_at_call 38; with_reducible exact Calls.regrown_of (FB.out _)) | (go_at_call 79; with_reducible exact Calls.regrown_of (CA.out _)) | (go_at_call 79; with_reducible exact Calls.regrown_of (CB.out _)))
             go_big_quiet_on)
      refine wpQuiet_nil ?_
      rintro w2 ⟨qq, rfl⟩
      have hb := below_regrown W3 qq.d qq.os
      generalize grow (redrawn W3 qq.d) qq.os = W4 at *
      replace B := B.trans (hb.mono B.size)
      replace hR := hR.keep hb; replace hH := hH.keep hb; replace hN := hN.keep hb
      replace hF := hF.keep (by omega) hb; replace hG := hG.keep (by omega) hb
      clear hb gh g0 g1 g2 g3
      cases z3
      case true =>
        obtain ⟨a0, a1, a2⟩ := hR
        obtain ⟨f0', f1', f2'⟩ := hF
        go_wp2
        simp [bodyPost, results, Try.results64, go_sem, HR.out, *]
        exact ((B.setCell (Nat.le_refl _) _).setCell (Nat.le_refl _) _).setCell (Nat.le_refl _) _
      case false =>
        have LD := HL.out.2.1 rfl
        have el : l0 L = L := by unfold l0; have := HL.out.2.2; omega
        have wl : wrap64 L = L := by unfold wrap64; have := HL.out.2.2; omega
        have dl : decide (d < L) = false := decide_eq_false (by omega)
        have qb : (L == 1) = false := by simp; omega
        have wt : wrap64 ((p : Int) + 1 + (k : Int) + L) = (p : Int) + 1 + (k : Int) + L := by unfold wrap64; have := HL.out.2.2; omega
        obtain ⟨n0, n1, n2, n3⟩ := hN
        rw [el] at n0
        obtain ⟨a0, a1, a2⟩ := hH
        obtain ⟨f0', f1', f2'⟩ := hG
        obtain ⟨a3, a4, a5⟩ := hR
        obtain ⟨f3', f4', f5'⟩ := hF
        clear LD k9
        cases l
        all_goals
          go_wp2
          simp [bodyPost, results, Try.results64, go_sem, HR.out, *]
          exact (((B.setCell r0 _).setCell (Nat.le_refl _) _).setCell (Nat.le_refl _) _).setCell (Nat.le_refl _) _
end Go.Proofs.Ytaefmdofchjofaa
