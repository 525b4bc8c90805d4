import Derived.Test.YtlpmphldmfefkaaDoorTxPs
import Derived.Test.YtlpmphldmfefkaaDoorFeA
import Derived.Test.YtlpmphldmfefkaaDoorTsD
/- Layer 18: Cost of the program. -/
namespace Go.Proofs.YtlpmphldmfefkaaDoor
open Go.RowKit Go.Sort
open tq
set_option maxRecDepth 100000 in
set_option maxHeartbeats 16000000 in
theorem cost_0 {t : Txv} {d : Int} (h20 : t.to.length = 20) (w : World)
    (DR : Hid (∀ W, Below w.heap.size w W → Calls Tryd.prog 9 #[.agg (txC t).toArray] W fun e w' => e = .returned (.int .i64 d) ∧ Below W.heap.size W w')) (ne : d ≠ 0) :
    Calls Tryd.prog 21 #[.agg (txC t).toArray] w fun e w' => e = .returned (.tuple #[.agg #[.int .u64 0, .int .u64 0, .int .u64 0, .int .u64 0], .int .i64 d]) ∧ Below w.heap.size w w' := by
  have hz := build_zero
  have sz := size_tx h20
  have hX0 := TxB.new (W := w) (ty := 32) h20
  obtain ⟨M, hM⟩ : ∃ M, M = txC t := ⟨_, rfl⟩
  have HM : Hid (M = txC t) := hM
  rw [← hM] at sz hX0 DR ⊢
  clear hM h20
  have ne' : (d != 0) = true := bne_iff_ne.2 ne
  go_enter Tryd.func21, Tryd.ntmps21
  refine wp_seq_k fun K0 h0 => ?_
  have H0 : Hid _ := h0
  clear h0
  go_wp2
  refine H0.out _ _ ?_
  clear H0 K0
  refine wp_world (fun W => Below w.heap.size w W ∧ TxB W w.heap.size t ∧ Blank W (w.heap.size+1)) ⟨by repeat (first | with_reducible exact Below.refl _ _ | with_reducible refine Below.alloc ?_ (by first | omega | (simp; done) | (simp; omega)) _), hX0.keep ((Below.refl _ _).alloc (Nat.le_refl _) _), Blank.new (by simp)⟩ ?_
  clear hX0
  rintro W ⟨B, hX, hR⟩
  have o1 : w.heap.size ≤ w.heap.size + 1 := by omega
  generalize w.heap.size + 1 = br at *
  refine wp_seq_k fun K1 h1 => ?_
  have H1 : Hid _ := h1
  clear h1
  have rM0 : W.rangeAt w.heap.size 0 M := by have h := hX.all; rw [← HM.out] at h; exact h
  go_wp2_with first
    | (refine wpList_load_midT rfl 32 _ rfl w.heap.size 0 rfl M _ rM0 Tryd.underlying32 rfl sz ?_)
    | (go_at_call 9; refine (DR.out _ B).mono ?_; rintro e w2 ⟨rfl, hb⟩; replace B := B.trans (hb.mono B.size); replace hX := hX.keep hb; replace hR := hR.keep hb; clear hb rM0; have gR := hR.1.all4; have fR := hR.2.all4)
  simp (config := { maxDischargeDepth := 6, maxSteps := 4000000 }) [bodyPost, results, Tryd.results21, go_sem, *]
  repeat (first | with_reducible exact B | with_reducible refine Below.setCell ?_ o1 _ | with_reducible refine Below.drew ?_)
set_option maxRecDepth 100000 in
set_option maxHeartbeats 16000000 in
theorem cost_1 {t : Txv} { cap g e1 : Int} (h20 : t.to.length = 20) (w : World)
    (DR : Hid (∀ W, Below w.heap.size w W → Calls Tryd.prog 9 #[.agg (txC t).toArray] W fun e w' => e = .returned (.int .i64 0) ∧ Below W.heap.size W w'))
    (CO : Hid (∀ W, Below w.heap.size w W → Calls Tryd.prog 49 #[.agg (txC t).toArray] W fun e w' => e = .returned (.agg #[.int .u64 (l0 cap), .int .u64 (l1 cap), .int .u64 (l2 cap), .int .u64 (l3 cap)]) ∧ Below W.heap.size W w'))
    (T1 : Hid (∀ W, Below w.heap.size w W → Calls Tryd.prog 44 #[.int .u64 t.gas, .agg #[.int .u64 (l0 cap), .int .u64 (l1 cap), .int .u64 (l2 cap), .int .u64 (l3 cap)]] W fun e w' => e = .returned (.tuple #[.agg #[.int .u64 (l0 g), .int .u64 (l1 g), .int .u64 (l2 g), .int .u64 (l3 g)], .int .i64 e1]) ∧ Below W.heap.size W w')) (ne : e1 ≠ 0) :
    Calls Tryd.prog 21 #[.agg (txC t).toArray] w fun e w' => e = .returned (.tuple #[.agg #[.int .u64 0, .int .u64 0, .int .u64 0, .int .u64 0], .int .i64 e1]) ∧ Below w.heap.size w w' := by
  have hz := build_zero
  have sz := size_tx h20
  have hX0 := TxB.new (W := w) (ty := 32) h20
  obtain ⟨M, hM⟩ : ∃ M, M = txC t := ⟨_, rfl⟩
  have HM : Hid (M = txC t) := hM
  rw [← hM] at sz hX0 DR CO ⊢
  clear hM h20
  have ne' : (e1 != 0) = true := bne_iff_ne.2 ne
  go_enter Tryd.func21, Tryd.ntmps21
  refine wp_seq_k fun K0 h0 => ?_
  have H0 : Hid _ := h0
  clear h0
  go_wp2
  refine H0.out _ _ ?_
  clear H0 K0
  refine wp_world (fun W => Below w.heap.size w W ∧ TxB W w.heap.size t ∧ Blank W (w.heap.size+1)) ⟨by repeat (first | with_reducible exact Below.refl _ _ | with_reducible refine Below.alloc ?_ (by first | omega | (simp; done) | (simp; omega)) _), hX0.keep ((Below.refl _ _).alloc (Nat.le_refl _) _), Blank.new (by simp)⟩ ?_
  clear hX0
  rintro W ⟨B, hX, hR⟩
  have o1 : w.heap.size ≤ w.heap.size + 1 := by omega
  generalize w.heap.size + 1 = br at *
  refine wp_seq_k fun K1 h1 => ?_
  have H1 : Hid _ := h1
  clear h1
  have rM0 : W.rangeAt w.heap.size 0 M := by have h := hX.all; rw [← HM.out] at h; exact h
  go_wp2_with first
    | (refine wpList_load_midT rfl 32 _ rfl w.heap.size 0 rfl M _ rM0 Tryd.underlying32 rfl sz ?_)
    | (go_at_call 9; refine (DR.out _ B).mono ?_; rintro e w2 ⟨rfl, hb⟩; replace B := B.trans (hb.mono B.size); replace hX := hX.keep hb; replace hR := hR.keep hb; clear hb rM0)
  refine H1.out _ _ ?_
  clear H1 K1
  clear DR W
  obtain ⟨W, rfl⟩ : ∃ W : World, W = w2 := ⟨w2, rfl⟩
  refine wp_seq_k fun K2 h2 => ?_
  have H2 : Hid _ := h2
  clear h2
  go_wp2_with fail
  refine alloc_tail_late (A := ?AA1) 8 9 7 (by kernel_rfl) (by kernel_rfl) (fun _ _ _ _ _ h => h) (by kernel_rfl) rfl rfl (alloc_num _ _ _) (fun V hV => ?HH1) (fun V w1 hV hw => ?TT1)
  case HH1 =>
    have X : ∀ d os, TxB (grow (redrawn V d) os) w.heap.size t := fun d os => (hX.keep hV).keep (below_regrown V d os)
    have rM : ∀ w', (∃ q : Regrown, w' = grow (redrawn V q.d) q.os) → w'.rangeAt w.heap.size 0 M := by rintro w' ⟨q, rfl⟩; have h := (X q.d q.os).all; rw [← HM.out] at h; exact h
    have g15 := fun d os => (X d os).gas
    have BV : ∀ d os, Below w.heap.size w (grow (redrawn V d) os) := fun d os => (B.trans (hV.mono B.size)).trans ((below_regrown V d os).mono (Nat.le_trans B.size hV.size))
    unfold Gr
    simp only [List.take_succ_cons, List.take_zero]
    repeat
      first
        | go_big_quiet_skip
        | (go_big_quiet_want; refine quiet_load_midT 32 _ rfl w.heap.size 0 rfl M _ rM Tryd.underlying32 rfl sz ?_; simp only [Act.put, List.setIfInBounds_toArray, List.set_cons_succ, List.set_cons_zero]; go_big_quiet_on)
        | (go_big_quiet_want; go_big_quiet_op; go_big_quiet_on)
        | (go_big_quiet_want
           go_big_quiet_op
           apply Exists.intro
           refine ⟨fun p => ?_, ?_⟩
           · (first | (go_at_call 49; with_reducible exact Calls.regrown_of (CO.out _ (BV _ _))) | (go_at_call 44; with_reducible exact Calls.regrown_of (T1.out _ (BV _ _))))
           go_big_quiet_on)
    refine wpQuiet_nil ?_
    exact rfl
  case TT1 =>
    have hb := alloc_below hV hw
    have hN := (Blank.new rfl).keep hw
    have nhX : V.heap.size ≠ w.heap.size := Nat.ne_of_gt (Nat.lt_of_lt_of_le (hX.lt) hV.size)
    have nhR : V.heap.size ≠ br := Nat.ne_of_gt (Nat.lt_of_lt_of_le (hR.1.lt (by simp)) hV.size)
    have gn : w.heap.size ≤ V.heap.size := Nat.le_trans B.size hV.size
    replace B := B.trans (hb.mono B.size)
    replace hX := hX.keep hb; replace hR := hR.keep hb
    clear hb hw hV W
    generalize V.heap.size = bg1 at *
    clear V
    have gN := hN.1.all4; have qN := hN.2.all4
    have mhX := nhX.symm
    have mhR := nhR.symm
    simp only [List.drop_succ_cons, List.drop_zero, Act.put, List.setIfInBounds_toArray, List.set_cons_zero, List.set_cons_succ]
    go_wp2_with fail
    refine H2.out _ _ ?_
    clear H2 K2
    refine wp_world (fun W => Below w.heap.size w W ∧ TxB W w.heap.size t ∧ Blank W br ∧ Hold W bg1 g) ⟨below_set4 B gn _ _ _ _, hX.set4 nhX _ _ _ _, hR.set4 nhR _ _ _ _, Hold.sets4 (Blank.has hN)⟩ ?_
    clear B hN gN qN hX hR nhX mhX nhR mhR gn
    rintro W ⟨B, hX, hR, hG⟩
    clear w1
    refine wp_seq_k fun K3 h3 => ?_
    have H3 : Hid _ := h3
    clear h3
    have gR := hR.1.all4; have fR := hR.2.all4
    clear hX hG CO T1
    go_wp2_with fail
    simp (config := { maxDischargeDepth := 6, maxSteps := 4000000 }) [bodyPost, results, Tryd.results21, go_sem, *]
    repeat (first | with_reducible exact B | with_reducible refine Below.setCell ?_ o1 _ | with_reducible refine Below.drew ?_)
set_option maxRecDepth 100000 in
set_option maxHeartbeats 16000000 in
theorem cost_2 {t : Txv} { cap bg g bl e2 : Int} (h20 : t.to.length = 20) (w : World)
    (DR : Hid (∀ W, Below w.heap.size w W → Calls Tryd.prog 9 #[.agg (txC t).toArray] W fun e w' => e = .returned (.int .i64 0) ∧ Below W.heap.size W w'))
    (CO : Hid (∀ W, Below w.heap.size w W → Calls Tryd.prog 49 #[.agg (txC t).toArray] W fun e w' => e = .returned (.agg #[.int .u64 (l0 cap), .int .u64 (l1 cap), .int .u64 (l2 cap), .int .u64 (l3 cap)]) ∧ Below W.heap.size W w'))
    (T1 : Hid (∀ W, Below w.heap.size w W → Calls Tryd.prog 44 #[.int .u64 t.gas, .agg #[.int .u64 (l0 cap), .int .u64 (l1 cap), .int .u64 (l2 cap), .int .u64 (l3 cap)]] W fun e w' => e = .returned (.tuple #[.agg #[.int .u64 (l0 g), .int .u64 (l1 g), .int .u64 (l2 g), .int .u64 (l3 g)], .int .i64 0]) ∧ Below W.heap.size W w'))
    (BG : Hid (∀ W, Below w.heap.size w W → Calls Tryd.prog 26 #[.agg (txC t).toArray] W fun e w' => e = .returned (.int .u64 bg) ∧ Below W.heap.size W w'))
    (T2 : Hid (∀ W, Below w.heap.size w W → Calls Tryd.prog 44 #[.int .u64 bg, .agg #[.int .u64 (l0 t.bc), .int .u64 (l1 t.bc), .int .u64 (l2 t.bc), .int .u64 (l3 t.bc)]] W fun e w' => e = .returned (.tuple #[.agg #[.int .u64 (l0 bl), .int .u64 (l1 bl), .int .u64 (l2 bl), .int .u64 (l3 bl)], .int .i64 e2]) ∧ Below W.heap.size W w')) (ne : e2 ≠ 0) :
    Calls Tryd.prog 21 #[.agg (txC t).toArray] w fun e w' => e = .returned (.tuple #[.agg #[.int .u64 0, .int .u64 0, .int .u64 0, .int .u64 0], .int .i64 e2]) ∧ Below w.heap.size w w' := by
  have hz := build_zero
  have sz := size_tx h20
  have hX0 := TxB.new (W := w) (ty := 32) h20
  obtain ⟨M, hM⟩ : ∃ M, M = txC t := ⟨_, rfl⟩
  have HM : Hid (M = txC t) := hM
  rw [← hM] at sz hX0 DR CO BG ⊢
  clear hM h20
  have ne' : (e2 != 0) = true := bne_iff_ne.2 ne
  go_enter Tryd.func21, Tryd.ntmps21
  refine wp_seq_k fun K0 h0 => ?_
  have H0 : Hid _ := h0
  clear h0
  go_wp2
  refine H0.out _ _ ?_
  clear H0 K0
  refine wp_world (fun W => Below w.heap.size w W ∧ TxB W w.heap.size t ∧ Blank W (w.heap.size+1)) ⟨by repeat (first | with_reducible exact Below.refl _ _ | with_reducible refine Below.alloc ?_ (by first | omega | (simp; done) | (simp; omega)) _), hX0.keep ((Below.refl _ _).alloc (Nat.le_refl _) _), Blank.new (by simp)⟩ ?_
  clear hX0
  rintro W ⟨B, hX, hR⟩
  have o1 : w.heap.size ≤ w.heap.size + 1 := by omega
  generalize w.heap.size + 1 = br at *
  refine wp_seq_k fun K1 h1 => ?_
  have H1 : Hid _ := h1
  clear h1
  have rM0 : W.rangeAt w.heap.size 0 M := by have h := hX.all; rw [← HM.out] at h; exact h
  go_wp2_with first
    | (refine wpList_load_midT rfl 32 _ rfl w.heap.size 0 rfl M _ rM0 Tryd.underlying32 rfl sz ?_)
    | (go_at_call 9; refine (DR.out _ B).mono ?_; rintro e w2 ⟨rfl, hb⟩; replace B := B.trans (hb.mono B.size); replace hX := hX.keep hb; replace hR := hR.keep hb; clear hb rM0)
  refine H1.out _ _ ?_
  clear H1 K1
  clear DR W
  obtain ⟨W, rfl⟩ : ∃ W : World, W = w2 := ⟨w2, rfl⟩
  refine wp_seq_k fun K2 h2 => ?_
  have H2 : Hid _ := h2
  clear h2
  go_wp2_with fail
  refine alloc_tail_late (A := ?AA1) 8 9 7 (by kernel_rfl) (by kernel_rfl) (fun _ _ _ _ _ h => h) (by kernel_rfl) rfl rfl (alloc_num _ _ _) (fun V hV => ?HH1) (fun V w1 hV hw => ?TT1)
  case HH1 =>
    have X : ∀ d os, TxB (grow (redrawn V d) os) w.heap.size t := fun d os => (hX.keep hV).keep (below_regrown V d os)
    have rM : ∀ w', (∃ q : Regrown, w' = grow (redrawn V q.d) q.os) → w'.rangeAt w.heap.size 0 M := by rintro w' ⟨q, rfl⟩; have h := (X q.d q.os).all; rw [← HM.out] at h; exact h
    have g15 := fun d os => (X d os).gas
    have BV : ∀ d os, Below w.heap.size w (grow (redrawn V d) os) := fun d os => (B.trans (hV.mono B.size)).trans ((below_regrown V d os).mono (Nat.le_trans B.size hV.size))
    unfold Gr
    simp only [List.take_succ_cons, List.take_zero]
    repeat
      first
        | go_big_quiet_skip
        | (go_big_quiet_want; refine quiet_load_midT 32 _ rfl w.heap.size 0 rfl M _ rM Tryd.underlying32 rfl sz ?_; simp only [Act.put, List.setIfInBounds_toArray, List.set_cons_succ, List.set_cons_zero]; go_big_quiet_on)
        | (go_big_quiet_want; go_big_quiet_op; go_big_quiet_on)
        | (go_big_quiet_want
           go_big_quiet_op
           apply Exists.intro
           refine ⟨fun p => ?_, ?_⟩
           · (first | (go_at_call 49; with_reducible exact Calls.regrown_of (CO.out _ (BV _ _))) | (go_at_call 44; with_reducible exact Calls.regrown_of (T1.out _ (BV _ _))))
           go_big_quiet_on)
    refine wpQuiet_nil ?_
    exact rfl
  case TT1 =>
    have hb := alloc_below hV hw
    have hN := (Blank.new rfl).keep hw
    have nhX : V.heap.size ≠ w.heap.size := Nat.ne_of_gt (Nat.lt_of_lt_of_le (hX.lt) hV.size)
    have nhR : V.heap.size ≠ br := Nat.ne_of_gt (Nat.lt_of_lt_of_le (hR.1.lt (by simp)) hV.size)
    have gn : w.heap.size ≤ V.heap.size := Nat.le_trans B.size hV.size
    replace B := B.trans (hb.mono B.size)
    replace hX := hX.keep hb; replace hR := hR.keep hb
    clear hb hw hV W
    generalize V.heap.size = bg1 at *
    clear V
    have gN := hN.1.all4; have qN := hN.2.all4
    have mhX := nhX.symm
    have mhR := nhR.symm
    simp only [List.drop_succ_cons, List.drop_zero, Act.put, List.setIfInBounds_toArray, List.set_cons_zero, List.set_cons_succ]
    go_wp2_with fail
    refine H2.out _ _ ?_
    clear H2 K2
    refine wp_world (fun W => Below w.heap.size w W ∧ TxB W w.heap.size t ∧ Blank W br ∧ Hold W bg1 g) ⟨below_set4 B gn _ _ _ _, hX.set4 nhX _ _ _ _, hR.set4 nhR _ _ _ _, Hold.sets4 (Blank.has hN)⟩ ?_
    clear B hN gN qN hX hR nhX mhX nhR mhR gn
    rintro W ⟨B, hX, hR, hG⟩
    clear w1
    refine wp_seq_k fun K3 h3 => ?_
    have H3 : Hid _ := h3
    clear h3
    go_wp2
    refine H3.out _ _ ?_
    clear H3 K3
    refine wp_seq_k fun K4 h4 => ?_
    have H4 : Hid _ := h4
    clear h4
    go_wp2_with fail
    refine alloc_tail_late (A := ?AA2) 8 9 7 (by kernel_rfl) (by kernel_rfl) (fun _ _ _ _ _ h => h) (by kernel_rfl) rfl rfl (alloc_num _ _ _) (fun V hV => ?HH2) (fun V w1 hV hw => ?TT2)
    case HH2 =>
      have X : ∀ d os, TxB (grow (redrawn V d) os) w.heap.size t := fun d os => (hX.keep hV).keep (below_regrown V d os)
      have rM : ∀ w', (∃ q : Regrown, w' = grow (redrawn V q.d) q.os) → w'.rangeAt w.heap.size 0 M := by rintro w' ⟨q, rfl⟩; have h := (X q.d q.os).all; rw [← HM.out] at h; exact h
      have g43 := fun d os => (X d os).bc
      have BV : ∀ d os, Below w.heap.size w (grow (redrawn V d) os) := fun d os => (B.trans (hV.mono B.size)).trans ((below_regrown V d os).mono (Nat.le_trans B.size hV.size))
      unfold Gr
      simp only [List.take_succ_cons, List.take_zero]
      repeat
        first
          | go_big_quiet_skip
          | (go_big_quiet_want; refine quiet_load_midT 32 _ rfl w.heap.size 0 rfl M _ rM Tryd.underlying32 rfl sz ?_; simp only [Act.put, List.setIfInBounds_toArray, List.set_cons_succ, List.set_cons_zero]; go_big_quiet_on)
          | (go_big_quiet_want; go_big_quiet_op; go_big_quiet_on)
          | (go_big_quiet_want
             go_big_quiet_op
             apply Exists.intro
             refine ⟨fun p => ?_, ?_⟩
             · (first | (go_at_call 26; with_reducible exact Calls.regrown_of (BG.out _ (BV _ _))) | (go_at_call 44; with_reducible exact Calls.regrown_of (T2.out _ (BV _ _))))
             go_big_quiet_on)
      refine wpQuiet_nil ?_
      exact rfl
    case TT2 =>
      have hb := alloc_below hV hw
      have hN := (Blank.new rfl).keep hw
      have nhX : V.heap.size ≠ w.heap.size := Nat.ne_of_gt (Nat.lt_of_lt_of_le (hX.lt) hV.size)
      have nhR : V.heap.size ≠ br := Nat.ne_of_gt (Nat.lt_of_lt_of_le (hR.1.lt (by simp)) hV.size)
      have nhG : V.heap.size ≠ bg1 := Nat.ne_of_gt (Nat.lt_of_lt_of_le (World.block_lt_of_cell? _ _ hG.1) hV.size)
      have gn : w.heap.size ≤ V.heap.size := Nat.le_trans B.size hV.size
      replace B := B.trans (hb.mono B.size)
      replace hX := hX.keep hb; replace hR := hR.keep hb; replace hG := hG.keep hb
      clear hb hw hV W
      generalize V.heap.size = bg2 at *
      clear V
      have gN := hN.1.all4; have qN := hN.2.all4
      have mhX := nhX.symm
      have mhR := nhR.symm
      have mhG := nhG.symm
      simp only [List.drop_succ_cons, List.drop_zero, Act.put, List.setIfInBounds_toArray, List.set_cons_zero, List.set_cons_succ]
      go_wp2_with fail
      refine H4.out _ _ ?_
      clear H4 K4
      refine wp_world (fun W => Below w.heap.size w W ∧ TxB W w.heap.size t ∧ Blank W br ∧ Hold W bg1 g ∧ Hold W bg2 bl) ⟨below_set4 B gn _ _ _ _, hX.set4 nhX _ _ _ _, hR.set4 nhR _ _ _ _, hG.set4 nhG _ _ _ _, Hold.sets4 (Blank.has hN)⟩ ?_
      clear B hN gN qN hX hR hG nhX mhX nhR mhR nhG mhG gn
      rintro W ⟨B, hX, hR, hG, hL⟩
      clear w1
      refine wp_seq_k fun K5 h5 => ?_
      have H5 : Hid _ := h5
      clear h5
      have gR := hR.1.all4; have fR := hR.2.all4
      clear hX hG hL CO T1 BG T2
      go_wp2_with fail
      simp (config := { maxDischargeDepth := 6, maxSteps := 4000000 }) [bodyPost, results, Tryd.results21, go_sem, *]
      repeat (first | with_reducible exact B | with_reducible refine Below.setCell ?_ o1 _ | with_reducible refine Below.drew ?_)
set_option maxRecDepth 100000 in
set_option maxHeartbeats 16000000 in
theorem cost_3 {t : Txv} { cap bg g bl f e3 : Int} (h20 : t.to.length = 20) (w : World)
    (DR : Hid (∀ W, Below w.heap.size w W → Calls Tryd.prog 9 #[.agg (txC t).toArray] W fun e w' => e = .returned (.int .i64 0) ∧ Below W.heap.size W w'))
    (CO : Hid (∀ W, Below w.heap.size w W → Calls Tryd.prog 49 #[.agg (txC t).toArray] W fun e w' => e = .returned (.agg #[.int .u64 (l0 cap), .int .u64 (l1 cap), .int .u64 (l2 cap), .int .u64 (l3 cap)]) ∧ Below W.heap.size W w'))
    (T1 : Hid (∀ W, Below w.heap.size w W → Calls Tryd.prog 44 #[.int .u64 t.gas, .agg #[.int .u64 (l0 cap), .int .u64 (l1 cap), .int .u64 (l2 cap), .int .u64 (l3 cap)]] W fun e w' => e = .returned (.tuple #[.agg #[.int .u64 (l0 g), .int .u64 (l1 g), .int .u64 (l2 g), .int .u64 (l3 g)], .int .i64 0]) ∧ Below W.heap.size W w'))
    (BG : Hid (∀ W, Below w.heap.size w W → Calls Tryd.prog 26 #[.agg (txC t).toArray] W fun e w' => e = .returned (.int .u64 bg) ∧ Below W.heap.size W w'))
    (T2 : Hid (∀ W, Below w.heap.size w W → Calls Tryd.prog 44 #[.int .u64 bg, .agg #[.int .u64 (l0 t.bc), .int .u64 (l1 t.bc), .int .u64 (l2 t.bc), .int .u64 (l3 t.bc)]] W fun e w' => e = .returned (.tuple #[.agg #[.int .u64 (l0 bl), .int .u64 (l1 bl), .int .u64 (l2 bl), .int .u64 (l3 bl)], .int .i64 0]) ∧ Below W.heap.size W w'))
    (P1 : Hid (∀ W, Below w.heap.size w W → Calls Tryd.prog 50 #[.agg #[.int .u64 (l0 g), .int .u64 (l1 g), .int .u64 (l2 g), .int .u64 (l3 g)], .agg #[.int .u64 (l0 bl), .int .u64 (l1 bl), .int .u64 (l2 bl), .int .u64 (l3 bl)]] W fun e w' => e = .returned (.tuple #[.agg #[.int .u64 (l0 f), .int .u64 (l1 f), .int .u64 (l2 f), .int .u64 (l3 f)], .int .i64 e3]) ∧ Below W.heap.size W w')) (ne : e3 ≠ 0) :
    Calls Tryd.prog 21 #[.agg (txC t).toArray] w fun e w' => e = .returned (.tuple #[.agg #[.int .u64 0, .int .u64 0, .int .u64 0, .int .u64 0], .int .i64 e3]) ∧ Below w.heap.size w w' := by
  have hz := build_zero
  have sz := size_tx h20
  have hX0 := TxB.new (W := w) (ty := 32) h20
  obtain ⟨M, hM⟩ : ∃ M, M = txC t := ⟨_, rfl⟩
  have HM : Hid (M = txC t) := hM
  rw [← hM] at sz hX0 DR CO BG ⊢
  clear hM h20
  have ne' : (e3 != 0) = true := bne_iff_ne.2 ne
  go_enter Tryd.func21, Tryd.ntmps21
  refine wp_seq_k fun K0 h0 => ?_
  have H0 : Hid _ := h0
  clear h0
  go_wp2
  refine H0.out _ _ ?_
  clear H0 K0
  refine wp_world (fun W => Below w.heap.size w W ∧ TxB W w.heap.size t ∧ Blank W (w.heap.size+1)) ⟨by repeat (first | with_reducible exact Below.refl _ _ | with_reducible refine Below.alloc ?_ (by first | omega | (simp; done) | (simp; omega)) _), hX0.keep ((Below.refl _ _).alloc (Nat.le_refl _) _), Blank.new (by simp)⟩ ?_
  clear hX0
  rintro W ⟨B, hX, hR⟩
  have o1 : w.heap.size ≤ w.heap.size + 1 := by omega
  generalize w.heap.size + 1 = br at *
  refine wp_seq_k fun K1 h1 => ?_
  have H1 : Hid _ := h1
  clear h1
  have rM0 : W.rangeAt w.heap.size 0 M := by have h := hX.all; rw [← HM.out] at h; exact h
  go_wp2_with first
    | (refine wpList_load_midT rfl 32 _ rfl w.heap.size 0 rfl M _ rM0 Tryd.underlying32 rfl sz ?_)
    | (go_at_call 9; refine (DR.out _ B).mono ?_; rintro e w2 ⟨rfl, hb⟩; replace B := B.trans (hb.mono B.size); replace hX := hX.keep hb; replace hR := hR.keep hb; clear hb rM0)
  refine H1.out _ _ ?_
  clear H1 K1
  clear DR W
  obtain ⟨W, rfl⟩ : ∃ W : World, W = w2 := ⟨w2, rfl⟩
  refine wp_seq_k fun K2 h2 => ?_
  have H2 : Hid _ := h2
  clear h2
  go_wp2_with fail
  refine alloc_tail_late (A := ?AA1) 8 9 7 (by kernel_rfl) (by kernel_rfl) (fun _ _ _ _ _ h => h) (by kernel_rfl) rfl rfl (alloc_num _ _ _) (fun V hV => ?HH1) (fun V w1 hV hw => ?TT1)
  case HH1 =>
    have X : ∀ d os, TxB (grow (redrawn V d) os) w.heap.size t := fun d os => (hX.keep hV).keep (below_regrown V d os)
    have rM : ∀ w', (∃ q : Regrown, w' = grow (redrawn V q.d) q.os) → w'.rangeAt w.heap.size 0 M := by rintro w' ⟨q, rfl⟩; have h := (X q.d q.os).all; rw [← HM.out] at h; exact h
    have g15 := fun d os => (X d os).gas
    have BV : ∀ d os, Below w.heap.size w (grow (redrawn V d) os) := fun d os => (B.trans (hV.mono B.size)).trans ((below_regrown V d os).mono (Nat.le_trans B.size hV.size))
    unfold Gr
    simp only [List.take_succ_cons, List.take_zero]
    repeat
      first
        | go_big_quiet_skip
        | (go_big_quiet_want; refine quiet_load_midT 32 _ rfl w.heap.size 0 rfl M _ rM Tryd.underlying32 rfl sz ?_; simp only [Act.put, List.setIfInBounds_toArray, List.set_cons_succ, List.set_cons_zero]; go_big_quiet_on)
        | (go_big_quiet_want; go_big_quiet_op; go_big_quiet_on)
        | (go_big_quiet_want
           go_big_quiet_op
           apply Exists.intro
           refine ⟨fun p => ?_, ?_⟩
           · (first | (go_at_call 49; with_reducible exact Calls.regrown_of (CO.out _ (BV _ _))) | (go_at_call 44; with_reducible exact Calls.regrown_of (T1.out _ (BV _ _))))
           go_big_quiet_on)
    refine wpQuiet_nil ?_
    exact rfl
  case TT1 =>
    have hb := alloc_below hV hw
    have hN := (Blank.new rfl).keep hw
    have nhX : V.heap.size ≠ w.heap.size := Nat.ne_of_gt (Nat.lt_of_lt_of_le (hX.lt) hV.size)
    have nhR : V.heap.size ≠ br := Nat.ne_of_gt (Nat.lt_of_lt_of_le (hR.1.lt (by simp)) hV.size)
    have gn : w.heap.size ≤ V.heap.size := Nat.le_trans B.size hV.size
    replace B := B.trans (hb.mono B.size)
    replace hX := hX.keep hb; replace hR := hR.keep hb
    clear hb hw hV W
    generalize V.heap.size = bg1 at *
    clear V
    have gN := hN.1.all4; have qN := hN.2.all4
    have mhX := nhX.symm
    have mhR := nhR.symm
    simp only [List.drop_succ_cons, List.drop_zero, Act.put, List.setIfInBounds_toArray, List.set_cons_zero, List.set_cons_succ]
    go_wp2_with fail
    refine H2.out _ _ ?_
    clear H2 K2
    refine wp_world (fun W => Below w.heap.size w W ∧ TxB W w.heap.size t ∧ Blank W br ∧ Hold W bg1 g) ⟨below_set4 B gn _ _ _ _, hX.set4 nhX _ _ _ _, hR.set4 nhR _ _ _ _, Hold.sets4 (Blank.has hN)⟩ ?_
    clear B hN gN qN hX hR nhX mhX nhR mhR gn
    rintro W ⟨B, hX, hR, hG⟩
    clear w1
    refine wp_seq_k fun K3 h3 => ?_
    have H3 : Hid _ := h3
    clear h3
    go_wp2
    refine H3.out _ _ ?_
    clear H3 K3
    refine wp_seq_k fun K4 h4 => ?_
    have H4 : Hid _ := h4
    clear h4
    go_wp2_with fail
    refine alloc_tail_late (A := ?AA2) 8 9 7 (by kernel_rfl) (by kernel_rfl) (fun _ _ _ _ _ h => h) (by kernel_rfl) rfl rfl (alloc_num _ _ _) (fun V hV => ?HH2) (fun V w1 hV hw => ?TT2)
    case HH2 =>
      have X : ∀ d os, TxB (grow (redrawn V d) os) w.heap.size t := fun d os => (hX.keep hV).keep (below_regrown V d os)
      have rM : ∀ w', (∃ q : Regrown, w' = grow (redrawn V q.d) q.os) → w'.rangeAt w.heap.size 0 M := by rintro w' ⟨q, rfl⟩; have h := (X q.d q.os).all; rw [← HM.out] at h; exact h
      have g43 := fun d os => (X d os).bc
      have BV : ∀ d os, Below w.heap.size w (grow (redrawn V d) os) := fun d os => (B.trans (hV.mono B.size)).trans ((below_regrown V d os).mono (Nat.le_trans B.size hV.size))
      unfold Gr
      simp only [List.take_succ_cons, List.take_zero]
      repeat
        first
          | go_big_quiet_skip
          | (go_big_quiet_want; refine quiet_load_midT 32 _ rfl w.heap.size 0 rfl M _ rM Tryd.underlying32 rfl sz ?_; simp only [Act.put, List.setIfInBounds_toArray, List.set_cons_succ, List.set_cons_zero]; go_big_quiet_on)
          | (go_big_quiet_want; go_big_quiet_op; go_big_quiet_on)
          | (go_big_quiet_want
             go_big_quiet_op
             apply Exists.intro
             refine ⟨fun p => ?_, ?_⟩
             · (first | (go_at_call 26; with_reducible exact Calls.regrown_of (BG.out _ (BV _ _))) | (go_at_call 44; with_reducible exact Calls.regrown_of (T2.out _ (BV _ _))))
             go_big_quiet_on)
      refine wpQuiet_nil ?_
      exact rfl
    case TT2 =>
      have hb := alloc_below hV hw
      have hN := (Blank.new rfl).keep hw
      have nhX : V.heap.size ≠ w.heap.size := Nat.ne_of_gt (Nat.lt_of_lt_of_le (hX.lt) hV.size)
      have nhR : V.heap.size ≠ br := Nat.ne_of_gt (Nat.lt_of_lt_of_le (hR.1.lt (by simp)) hV.size)
      have nhG : V.heap.size ≠ bg1 := Nat.ne_of_gt (Nat.lt_of_lt_of_le (World.block_lt_of_cell? _ _ hG.1) hV.size)
      have gn : w.heap.size ≤ V.heap.size := Nat.le_trans B.size hV.size
      replace B := B.trans (hb.mono B.size)
      replace hX := hX.keep hb; replace hR := hR.keep hb; replace hG := hG.keep hb
      clear hb hw hV W
      generalize V.heap.size = bg2 at *
      clear V
      have gN := hN.1.all4; have qN := hN.2.all4
      have mhX := nhX.symm
      have mhR := nhR.symm
      have mhG := nhG.symm
      simp only [List.drop_succ_cons, List.drop_zero, Act.put, List.setIfInBounds_toArray, List.set_cons_zero, List.set_cons_succ]
      go_wp2_with fail
      refine H4.out _ _ ?_
      clear H4 K4
      refine wp_world (fun W => Below w.heap.size w W ∧ TxB W w.heap.size t ∧ Blank W br ∧ Hold W bg1 g ∧ Hold W bg2 bl) ⟨below_set4 B gn _ _ _ _, hX.set4 nhX _ _ _ _, hR.set4 nhR _ _ _ _, hG.set4 nhG _ _ _ _, Hold.sets4 (Blank.has hN)⟩ ?_
      clear B hN gN qN hX hR hG nhX mhX nhR mhR nhG mhG gn
      rintro W ⟨B, hX, hR, hG, hL⟩
      clear w1
      refine wp_seq_k fun K5 h5 => ?_
      have H5 : Hid _ := h5
      clear h5
      go_wp2
      refine H5.out _ _ ?_
      clear H5 K5
      refine wp_seq_k fun K6 h6 => ?_
      have H6 : Hid _ := h6
      clear h6
      have gG := hG.cells; have gL := hL.cells
      go_wp2_with fail
      refine (P1.out _ B).mono ?_
      rintro e w3 ⟨rfl, hb⟩
      replace B := B.trans (hb.mono B.size)
      replace hX := hX.keep hb; replace hR := hR.keep hb
      clear hb gG gL hG hL W
      go_wp2_with fail
      refine H6.out _ _ ?_
      clear H6 K6
      refine wp_world (fun W => Below w.heap.size w W ∧ TxB W w.heap.size t ∧ Blank W br ∧ Hold W w3.heap.size f) ⟨B.alloc B.size _, hX.keep ((Below.refl _ _).alloc (Nat.le_refl _) _), hR.alloc _, Hold.new _ _ _⟩ ?_
      clear B hX hR
      rintro W ⟨B, hX, hR, hF⟩
      generalize w3.heap.size = bg3 at *
      refine wp_seq_k fun K7 h7 => ?_
      have H7 : Hid _ := h7
      clear h7
      have gR := hR.1.all4; have fR := hR.2.all4
      clear hX hF CO T1 BG T2 P1
      go_wp2_with fail
      simp (config := { maxDischargeDepth := 6, maxSteps := 4000000 }) [bodyPost, results, Tryd.results21, go_sem, *]
      repeat (first | with_reducible exact B | with_reducible refine Below.setCell ?_ o1 _ | with_reducible refine Below.drew ?_)
set_option maxRecDepth 100000 in
set_option maxHeartbeats 16000000 in
theorem cost_4 {t : Txv} { cap bg g bl f r e4 : Int} (h20 : t.to.length = 20) (w : World)
    (DR : Hid (∀ W, Below w.heap.size w W → Calls Tryd.prog 9 #[.agg (txC t).toArray] W fun e w' => e = .returned (.int .i64 0) ∧ Below W.heap.size W w'))
    (CO : Hid (∀ W, Below w.heap.size w W → Calls Tryd.prog 49 #[.agg (txC t).toArray] W fun e w' => e = .returned (.agg #[.int .u64 (l0 cap), .int .u64 (l1 cap), .int .u64 (l2 cap), .int .u64 (l3 cap)]) ∧ Below W.heap.size W w'))
    (T1 : Hid (∀ W, Below w.heap.size w W → Calls Tryd.prog 44 #[.int .u64 t.gas, .agg #[.int .u64 (l0 cap), .int .u64 (l1 cap), .int .u64 (l2 cap), .int .u64 (l3 cap)]] W fun e w' => e = .returned (.tuple #[.agg #[.int .u64 (l0 g), .int .u64 (l1 g), .int .u64 (l2 g), .int .u64 (l3 g)], .int .i64 0]) ∧ Below W.heap.size W w'))
    (BG : Hid (∀ W, Below w.heap.size w W → Calls Tryd.prog 26 #[.agg (txC t).toArray] W fun e w' => e = .returned (.int .u64 bg) ∧ Below W.heap.size W w'))
    (T2 : Hid (∀ W, Below w.heap.size w W → Calls Tryd.prog 44 #[.int .u64 bg, .agg #[.int .u64 (l0 t.bc), .int .u64 (l1 t.bc), .int .u64 (l2 t.bc), .int .u64 (l3 t.bc)]] W fun e w' => e = .returned (.tuple #[.agg #[.int .u64 (l0 bl), .int .u64 (l1 bl), .int .u64 (l2 bl), .int .u64 (l3 bl)], .int .i64 0]) ∧ Below W.heap.size W w'))
    (P1 : Hid (∀ W, Below w.heap.size w W → Calls Tryd.prog 50 #[.agg #[.int .u64 (l0 g), .int .u64 (l1 g), .int .u64 (l2 g), .int .u64 (l3 g)], .agg #[.int .u64 (l0 bl), .int .u64 (l1 bl), .int .u64 (l2 bl), .int .u64 (l3 bl)]] W fun e w' => e = .returned (.tuple #[.agg #[.int .u64 (l0 f), .int .u64 (l1 f), .int .u64 (l2 f), .int .u64 (l3 f)], .int .i64 0]) ∧ Below W.heap.size W w'))
    (P2 : Hid (∀ W, Below w.heap.size w W → Calls Tryd.prog 50 #[.agg #[.int .u64 (l0 f), .int .u64 (l1 f), .int .u64 (l2 f), .int .u64 (l3 f)], .agg #[.int .u64 (l0 t.va), .int .u64 (l1 t.va), .int .u64 (l2 t.va), .int .u64 (l3 t.va)]] W fun e w' => e = .returned (.tuple #[.agg #[.int .u64 (l0 r), .int .u64 (l1 r), .int .u64 (l2 r), .int .u64 (l3 r)], .int .i64 e4]) ∧ Below W.heap.size W w')) :
    Calls Tryd.prog 21 #[.agg (txC t).toArray] w fun e w' => e = .returned (.tuple #[.agg #[.int .u64 (l0 r), .int .u64 (l1 r), .int .u64 (l2 r), .int .u64 (l3 r)], .int .i64 e4]) ∧ Below w.heap.size w w' := by
  have hz := build_zero
  have sz := size_tx h20
  have hX0 := TxB.new (W := w) (ty := 32) h20
  obtain ⟨M, hM⟩ : ∃ M, M = txC t := ⟨_, rfl⟩
  have HM : Hid (M = txC t) := hM
  rw [← hM] at sz hX0 DR CO BG ⊢
  clear hM h20
  go_enter Tryd.func21, Tryd.ntmps21
  refine wp_seq_k fun K0 h0 => ?_
  have H0 : Hid _ := h0
  clear h0
  go_wp2
  refine H0.out _ _ ?_
  clear H0 K0
  refine wp_world (fun W => Below w.heap.size w W ∧ TxB W w.heap.size t ∧ Blank W (w.heap.size+1)) ⟨by repeat (first | with_reducible exact Below.refl _ _ | with_reducible refine Below.alloc ?_ (by first | omega | (simp; done) | (simp; omega)) _), hX0.keep ((Below.refl _ _).alloc (Nat.le_refl _) _), Blank.new (by simp)⟩ ?_
  clear hX0
  rintro W ⟨B, hX, hR⟩
  have o1 : w.heap.size ≤ w.heap.size + 1 := by omega
  generalize w.heap.size + 1 = br at *
  refine wp_seq_k fun K1 h1 => ?_
  have H1 : Hid _ := h1
  clear h1
  have rM0 : W.rangeAt w.heap.size 0 M := by have h := hX.all; rw [← HM.out] at h; exact h
  go_wp2_with first
    | (refine wpList_load_midT rfl 32 _ rfl w.heap.size 0 rfl M _ rM0 Tryd.underlying32 rfl sz ?_)
    | (go_at_call 9; refine (DR.out _ B).mono ?_; rintro e w2 ⟨rfl, hb⟩; replace B := B.trans (hb.mono B.size); replace hX := hX.keep hb; replace hR := hR.keep hb; clear hb rM0)
  refine H1.out _ _ ?_
  clear H1 K1
  clear DR W
  obtain ⟨W, rfl⟩ : ∃ W : World, W = w2 := ⟨w2, rfl⟩
  refine wp_seq_k fun K2 h2 => ?_
  have H2 : Hid _ := h2
  clear h2
  go_wp2_with fail
  refine alloc_tail_late (A := ?AA1) 8 9 7 (by kernel_rfl) (by kernel_rfl) (fun _ _ _ _ _ h => h) (by kernel_rfl) rfl rfl (alloc_num _ _ _) (fun V hV => ?HH1) (fun V w1 hV hw => ?TT1)
  case HH1 =>
    have X : ∀ d os, TxB (grow (redrawn V d) os) w.heap.size t := fun d os => (hX.keep hV).keep (below_regrown V d os)
    have rM : ∀ w', (∃ q : Regrown, w' = grow (redrawn V q.d) q.os) → w'.rangeAt w.heap.size 0 M := by rintro w' ⟨q, rfl⟩; have h := (X q.d q.os).all; rw [← HM.out] at h; exact h
    have g15 := fun d os => (X d os).gas
    have BV : ∀ d os, Below w.heap.size w (grow (redrawn V d) os) := fun d os => (B.trans (hV.mono B.size)).trans ((below_regrown V d os).mono (Nat.le_trans B.size hV.size))
    unfold Gr
    simp only [List.take_succ_cons, List.take_zero]
    repeat
      first
        | go_big_quiet_skip
        | (go_big_quiet_want; refine quiet_load_midT 32 _ rfl w.heap.size 0 rfl M _ rM Tryd.underlying32 rfl sz ?_; simp only [Act.put, List.setIfInBounds_toArray, List.set_cons_succ, List.set_cons_zero]; go_big_quiet_on)
        | (go_big_quiet_want; go_big_quiet_op; go_big_quiet_on)
        | (go_big_quiet_want
           go_big_quiet_op
           apply Exists.intro
           refine ⟨fun p => ?_, ?_⟩
           · (first | (go_at_call 49; with_reducible exact Calls.regrown_of (CO.out _ (BV _ _))) | (go_at_call 44; with_reducible exact Calls.regrown_of (T1.out _ (BV _ _))))
           go_big_quiet_on)
    refine wpQuiet_nil ?_
    exact rfl
  case TT1 =>
    have hb := alloc_below hV hw
    have hN := (Blank.new rfl).keep hw
    have nhX : V.heap.size ≠ w.heap.size := Nat.ne_of_gt (Nat.lt_of_lt_of_le (hX.lt) hV.size)
    have nhR : V.heap.size ≠ br := Nat.ne_of_gt (Nat.lt_of_lt_of_le (hR.1.lt (by simp)) hV.size)
    have gn : w.heap.size ≤ V.heap.size := Nat.le_trans B.size hV.size
    replace B := B.trans (hb.mono B.size)
    replace hX := hX.keep hb; replace hR := hR.keep hb
    clear hb hw hV W
    generalize V.heap.size = bg1 at *
    clear V
    have gN := hN.1.all4; have qN := hN.2.all4
    have mhX := nhX.symm
    have mhR := nhR.symm
    simp only [List.drop_succ_cons, List.drop_zero, Act.put, List.setIfInBounds_toArray, List.set_cons_zero, List.set_cons_succ]
    go_wp2_with fail
    refine H2.out _ _ ?_
    clear H2 K2
    refine wp_world (fun W => Below w.heap.size w W ∧ TxB W w.heap.size t ∧ Blank W br ∧ Hold W bg1 g) ⟨below_set4 B gn _ _ _ _, hX.set4 nhX _ _ _ _, hR.set4 nhR _ _ _ _, Hold.sets4 (Blank.has hN)⟩ ?_
    clear B hN gN qN hX hR nhX mhX nhR mhR gn
    rintro W ⟨B, hX, hR, hG⟩
    clear w1
    refine wp_seq_k fun K3 h3 => ?_
    have H3 : Hid _ := h3
    clear h3
    go_wp2
    refine H3.out _ _ ?_
    clear H3 K3
    refine wp_seq_k fun K4 h4 => ?_
    have H4 : Hid _ := h4
    clear h4
    go_wp2_with fail
    refine alloc_tail_late (A := ?AA2) 8 9 7 (by kernel_rfl) (by kernel_rfl) (fun _ _ _ _ _ h => h) (by kernel_rfl) rfl rfl (alloc_num _ _ _) (fun V hV => ?HH2) (fun V w1 hV hw => ?TT2)
    case HH2 =>
      have X : ∀ d os, TxB (grow (redrawn V d) os) w.heap.size t := fun d os => (hX.keep hV).keep (below_regrown V d os)
      have rM : ∀ w', (∃ q : Regrown, w' = grow (redrawn V q.d) q.os) → w'.rangeAt w.heap.size 0 M := by rintro w' ⟨q, rfl⟩; have h := (X q.d q.os).all; rw [← HM.out] at h; exact h
      have g43 := fun d os => (X d os).bc
      have BV : ∀ d os, Below w.heap.size w (grow (redrawn V d) os) := fun d os => (B.trans (hV.mono B.size)).trans ((below_regrown V d os).mono (Nat.le_trans B.size hV.size))
      unfold Gr
      simp only [List.take_succ_cons, List.take_zero]
      repeat
        first
          | go_big_quiet_skip
          | (go_big_quiet_want; refine quiet_load_midT 32 _ rfl w.heap.size 0 rfl M _ rM Tryd.underlying32 rfl sz ?_; simp only [Act.put, List.setIfInBounds_toArray, List.set_cons_succ, List.set_cons_zero]; go_big_quiet_on)
          | (go_big_quiet_want; go_big_quiet_op; go_big_quiet_on)
          | (go_big_quiet_want
             go_big_quiet_op
             apply Exists.intro
             refine ⟨fun p => ?_, ?_⟩
             · (first | (go_at_call 26; with_reducible exact Calls.regrown_of (BG.out _ (BV _ _))) | (go_at_call 44; with_reducible exact Calls.regrown_of (T2.out _ (BV _ _))))
             go_big_quiet_on)
      refine wpQuiet_nil ?_
      exact rfl
    case TT2 =>
      have hb := alloc_below hV hw
      have hN := (Blank.new rfl).keep hw
      have nhX : V.heap.size ≠ w.heap.size := Nat.ne_of_gt (Nat.lt_of_lt_of_le (hX.lt) hV.size)
      have nhR : V.heap.size ≠ br := Nat.ne_of_gt (Nat.lt_of_lt_of_le (hR.1.lt (by simp)) hV.size)
      have nhG : V.heap.size ≠ bg1 := Nat.ne_of_gt (Nat.lt_of_lt_of_le (World.block_lt_of_cell? _ _ hG.1) hV.size)
      have gn : w.heap.size ≤ V.heap.size := Nat.le_trans B.size hV.size
      replace B := B.trans (hb.mono B.size)
      replace hX := hX.keep hb; replace hR := hR.keep hb; replace hG := hG.keep hb
      clear hb hw hV W
      generalize V.heap.size = bg2 at *
      clear V
      have gN := hN.1.all4; have qN := hN.2.all4
      have mhX := nhX.symm
      have mhR := nhR.symm
      have mhG := nhG.symm
      simp only [List.drop_succ_cons, List.drop_zero, Act.put, List.setIfInBounds_toArray, List.set_cons_zero, List.set_cons_succ]
      go_wp2_with fail
      refine H4.out _ _ ?_
      clear H4 K4
      refine wp_world (fun W => Below w.heap.size w W ∧ TxB W w.heap.size t ∧ Blank W br ∧ Hold W bg1 g ∧ Hold W bg2 bl) ⟨below_set4 B gn _ _ _ _, hX.set4 nhX _ _ _ _, hR.set4 nhR _ _ _ _, hG.set4 nhG _ _ _ _, Hold.sets4 (Blank.has hN)⟩ ?_
      clear B hN gN qN hX hR hG nhX mhX nhR mhR nhG mhG gn
      rintro W ⟨B, hX, hR, hG, hL⟩
      clear w1
      refine wp_seq_k fun K5 h5 => ?_
      have H5 : Hid _ := h5
      clear h5
      go_wp2
      refine H5.out _ _ ?_
      clear H5 K5
      refine wp_seq_k fun K6 h6 => ?_
      have H6 : Hid _ := h6
      clear h6
      have gG := hG.cells; have gL := hL.cells
      go_wp2_with fail
      refine (P1.out _ B).mono ?_
      rintro e w3 ⟨rfl, hb⟩
      replace B := B.trans (hb.mono B.size)
      replace hX := hX.keep hb; replace hR := hR.keep hb
      clear hb gG gL hG hL W
      go_wp2_with fail
      refine H6.out _ _ ?_
      clear H6 K6
      refine wp_world (fun W => Below w.heap.size w W ∧ TxB W w.heap.size t ∧ Blank W br ∧ Hold W w3.heap.size f) ⟨B.alloc B.size _, hX.keep ((Below.refl _ _).alloc (Nat.le_refl _) _), hR.alloc _, Hold.new _ _ _⟩ ?_
      clear B hX hR
      rintro W ⟨B, hX, hR, hF⟩
      generalize w3.heap.size = bg3 at *
      refine wp_seq_k fun K7 h7 => ?_
      have H7 : Hid _ := h7
      clear h7
      go_wp2
      refine H7.out _ _ ?_
      clear H7 K7
      have gF := hF.cells; have gV := hX.va
      go_wp2_with fail
      refine (P2.out _ B).mono ?_
      rintro e w4 ⟨rfl, hb⟩
      replace B := B.trans (hb.mono B.size)
      replace hR := hR.keep hb
      clear hb gF gV hX hF W
      have gR := hR.1.all4; have fR := hR.2.all4
      go_wp2
      simp (config := { maxDischargeDepth := 6, maxSteps := 4000000 }) [bodyPost, results, Tryd.results21, go_sem, *]
      repeat (first | with_reducible exact B | with_reducible refine Below.setCell ?_ o1 _ | with_reducible refine Below.drew ?_)
end Go.Proofs.YtlpmphldmfefkaaDoor
