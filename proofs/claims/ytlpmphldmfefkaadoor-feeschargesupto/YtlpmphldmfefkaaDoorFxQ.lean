import Derived.Test.YtlpmphldmfefkaaDoorFxP
import Derived.Test.YtlpmphldmfefkaaDoorFxD
import Derived.Test.YtlpmphldmfefkaaDoorQTail
/- Layer 18, the document: Price. -/
namespace Go.Proofs.YtlpmphldmfefkaaDoor
open Go.RowKit Go.Sort
open tq
set_option maxRecDepth 100000 in
set_option maxHeartbeats 16000000 in
theorem rprice_bad {t : Txv} {d b : Int} (h20 : t.to.length = 20) (w : World)
    (DR : Hid (∀ W, Below w.heap.size w W → Calls Tryd.prog 51 #[.agg (txC t).toArray] W fun e w' => e = .returned (.int .i64 d) ∧ Below W.heap.size W w')) (ne : d ≠ 0) :
    Calls Tryd.prog 32 #[.agg (txC t).toArray, .agg #[.int .u64 (l0 b), .int .u64 (l1 b), .int .u64 (l2 b), .int .u64 (l3 b)]] w fun e w' => e = .returned (.tuple #[.agg #[.int .u64 0, .int .u64 0, .int .u64 0, .int .u64 0], .agg #[.int .u64 0, .int .u64 0, .int .u64 0, .int .u64 0], .int .i64 d]) ∧ Below w.heap.size w w' := by
  have hz := build_zero
  have sz := size_tx h20
  have hX0 := TxB.new (W := w) (ty := 32) h20
  obtain ⟨M, hM⟩ : ∃ M, M = txC t := ⟨_, rfl⟩
  have HM : Hid (M = txC t) := hM
  rw [← hM] at sz hX0 DR ⊢
  clear hM h20
  have ne' : (d != 0) = true := bne_iff_ne.2 ne
  go_enter Tryd.func32, Tryd.ntmps32
  refine wp_seq_k fun K0 h0 => ?_
  have H0 : Hid _ := h0
  clear h0
  go_wp2
  refine H0.out _ _ ?_
  clear H0 K0
  refine wp_world (fun W => Below w.heap.size w W ∧ TxB W w.heap.size t ∧ Hold W (w.heap.size + 1) b ∧ Blank W (w.heap.size + 1 + 1) ∧ Blank W (w.heap.size + 1 + 1 + 1)) ⟨by repeat (first | with_reducible exact Below.refl _ _ | with_reducible refine Below.alloc ?_ (by first | omega | (simp; done) | (simp; omega)) _), hX0.keep ((((Below.refl _ _).alloc (Nat.le_refl _) _).alloc (by first | (simp; done) | (simp; omega)) _).alloc (by first | (simp; done) | (simp; omega)) _), ((Hold.fresh (by simp)).alloc _).alloc _, (Blank.new (by simp)).alloc _, Blank.new (by simp)⟩ ?_
  clear hX0
  rintro W ⟨B, hX, hB, hP, hQ⟩
  have o1 : w.heap.size ≤ w.heap.size + 1 + 1 := by omega
  have o2 : w.heap.size ≤ w.heap.size + 1 + 1 + 1 := by omega
  have npq : w.heap.size + 1 + 1 ≠ w.heap.size + 1 + 1 + 1 := by omega
  have nqp := npq.symm
  generalize w.heap.size + 1 + 1 + 1 = bt at *
  generalize w.heap.size + 1 + 1 = bp at *
  generalize w.heap.size + 1 = bb at *
  refine wp_seq_k fun K1 h1 => ?_
  have H1 : Hid _ := h1
  clear h1
  have rM0 : W.rangeAt w.heap.size 0 M := by have h := hX.all; rw [← HM.out] at h; exact h
  go_wp2_with first
    | (refine wpList_load_midT rfl 32 _ rfl w.heap.size 0 rfl M _ rM0 Tryd.underlying32 rfl sz ?_)
    | (go_at_call 51; refine (DR.out _ B).mono ?_; rintro e w2 ⟨rfl, hb⟩; replace B := B.trans (hb.mono B.size); replace hX := hX.keep hb; replace hB := hB.keep hb; replace hP := hP.keep hb; replace hQ := hQ.keep hb; clear hb rM0)
  refine H1.out _ _ ?_
  clear H1 K1
  clear DR W
  obtain ⟨W, rfl⟩ : ∃ W : World, W = w2 := ⟨w2, rfl⟩
  refine wp_seq_k fun K2 h2 => ?_
  have H2 : Hid _ := h2
  clear h2
  have gP := hP.1.all4; have fP := hP.2.all4
  have gQ := hQ.1.all4; have fQ := hQ.2.all4
  clear hX hB
  go_wp2_with fail
  simp (config := { maxDischargeDepth := 6, maxSteps := 4000000 }) [bodyPost, results, Tryd.results32, go_sem, *]
  repeat (first | with_reducible exact B | with_reducible refine Below.setCell ?_ o1 _ | with_reducible refine Below.setCell ?_ o2 _ | with_reducible refine Below.drew ?_)
set_option maxRecDepth 100000 in
set_option maxHeartbeats 16000000 in
theorem rprice_tip {t : Txv} {b c1 : Int} (h20 : t.to.length = 20) (w : World)
    (DR : Hid (∀ W, Below w.heap.size w W → Calls Tryd.prog 51 #[.agg (txC t).toArray] W fun e w' => e = .returned (.int .i64 0) ∧ Below W.heap.size W w')) (ct : 2 ≤ t.ty)
    (CM : Hid (∀ W, Below w.heap.size w W → Calls Tryd.prog 59 #[.agg #[.int .u64 (l0 t.ti), .int .u64 (l1 t.ti), .int .u64 (l2 t.ti), .int .u64 (l3 t.ti)], .agg #[.int .u64 (l0 t.ca), .int .u64 (l1 t.ca), .int .u64 (l2 t.ca), .int .u64 (l3 t.ca)]] W fun e w' => e = .returned (.int .i64 c1) ∧ Below W.heap.size W w')) (k1 : 0 < c1) :
    Calls Tryd.prog 32 #[.agg (txC t).toArray, .agg #[.int .u64 (l0 b), .int .u64 (l1 b), .int .u64 (l2 b), .int .u64 (l3 b)]] w fun e w' => e = .returned (.tuple #[.agg #[.int .u64 0, .int .u64 0, .int .u64 0, .int .u64 0], .agg #[.int .u64 0, .int .u64 0, .int .u64 0, .int .u64 0], .int .i64 181]) ∧ Below w.heap.size w w' := by
  have hz := build_zero
  have sz := size_tx h20
  have hX0 := TxB.new (W := w) (ty := 32) h20
  obtain ⟨M, hM⟩ : ∃ M, M = txC t := ⟨_, rfl⟩
  have HM : Hid (M = txC t) := hM
  rw [← hM] at sz hX0 DR ⊢
  clear hM h20
  go_enter Tryd.func32, Tryd.ntmps32
  refine wp_seq_k fun K0 h0 => ?_
  have H0 : Hid _ := h0
  clear h0
  go_wp2
  refine H0.out _ _ ?_
  clear H0 K0
  refine wp_world (fun W => Below w.heap.size w W ∧ TxB W w.heap.size t ∧ Hold W (w.heap.size + 1) b ∧ Blank W (w.heap.size + 1 + 1) ∧ Blank W (w.heap.size + 1 + 1 + 1)) ⟨by repeat (first | with_reducible exact Below.refl _ _ | with_reducible refine Below.alloc ?_ (by first | omega | (simp; done) | (simp; omega)) _), hX0.keep ((((Below.refl _ _).alloc (Nat.le_refl _) _).alloc (by first | (simp; done) | (simp; omega)) _).alloc (by first | (simp; done) | (simp; omega)) _), ((Hold.fresh (by simp)).alloc _).alloc _, (Blank.new (by simp)).alloc _, Blank.new (by simp)⟩ ?_
  clear hX0
  rintro W ⟨B, hX, hB, hP, hQ⟩
  have o1 : w.heap.size ≤ w.heap.size + 1 + 1 := by omega
  have o2 : w.heap.size ≤ w.heap.size + 1 + 1 + 1 := by omega
  have npq : w.heap.size + 1 + 1 ≠ w.heap.size + 1 + 1 + 1 := by omega
  have nqp := npq.symm
  generalize w.heap.size + 1 + 1 + 1 = bt at *
  generalize w.heap.size + 1 + 1 = bp at *
  generalize w.heap.size + 1 = bb at *
  refine wp_seq_k fun K1 h1 => ?_
  have H1 : Hid _ := h1
  clear h1
  have rM0 : W.rangeAt w.heap.size 0 M := by have h := hX.all; rw [← HM.out] at h; exact h
  go_wp2_with first
    | (refine wpList_load_midT rfl 32 _ rfl w.heap.size 0 rfl M _ rM0 Tryd.underlying32 rfl sz ?_)
    | (go_at_call 51; refine (DR.out _ B).mono ?_; rintro e w2 ⟨rfl, hb⟩; replace B := B.trans (hb.mono B.size); replace hX := hX.keep hb; replace hB := hB.keep hb; replace hP := hP.keep hb; replace hQ := hQ.keep hb; clear hb rM0)
  refine H1.out _ _ ?_
  clear H1 K1
  clear DR W
  obtain ⟨W, rfl⟩ : ∃ W : World, W = w2 := ⟨w2, rfl⟩
  refine wp_seq_k fun K2 h2 => ?_
  have H2 : Hid _ := h2
  clear h2
  go_wp2
  refine H2.out _ _ ?_
  clear H2 K2
  refine wp_seq_k fun K3 h3 => ?_
  have H3 : Hid _ := h3
  clear h3
  have gty := hX.ty
  have gti := hX.ti
  have gca := hX.ca
  go_wp2_with fail
  refine (CM.out _ B).mono ?_
  rintro e w3 ⟨rfl, hb⟩
  replace B := B.trans (hb.mono B.size); replace hX := hX.keep hb; replace hB := hB.keep hb; replace hP := hP.keep hb; replace hQ := hQ.keep hb
  clear hb gty gti gca CM W
  have gP := hP.1.all4; have fP := hP.2.all4
  have gQ := hQ.1.all4; have fQ := hQ.2.all4
  clear hX hB
  go_wp2_with fail
  simp (config := { maxDischargeDepth := 6, maxSteps := 4000000 }) [bodyPost, results, Tryd.results32, go_sem, *]
  repeat (first | with_reducible exact B | with_reducible refine Below.setCell ?_ o1 _ | with_reducible refine Below.setCell ?_ o2 _ | with_reducible refine Below.drew ?_)
set_option maxRecDepth 100000 in
set_option maxHeartbeats 16000000 in
theorem rprice_low {t : Txv} {b cap u : Int} (h20 : t.to.length = 20) (w : World)
    (DR : Hid (∀ W, Below w.heap.size w W → Calls Tryd.prog 51 #[.agg (txC t).toArray] W fun e w' => e = .returned (.int .i64 0) ∧ Below W.heap.size W w')) (ct : ¬ 2 ≤ t.ty)
    (CO : Hid (∀ W, Below w.heap.size w W → Calls Tryd.prog 61 #[.agg (txC t).toArray] W fun e w' => e = .returned (.agg #[.int .u64 (l0 cap), .int .u64 (l1 cap), .int .u64 (l2 cap), .int .u64 (l3 cap)]) ∧ Below W.heap.size W w'))
    (SB : Hid (∀ W, Below w.heap.size w W → Calls Tryd.prog 60 #[.agg #[.int .u64 (l0 cap), .int .u64 (l1 cap), .int .u64 (l2 cap), .int .u64 (l3 cap)], .agg #[.int .u64 (l0 b), .int .u64 (l1 b), .int .u64 (l2 b), .int .u64 (l3 b)]] W fun e w' => e = .returned (.tuple #[.agg #[.int .u64 (l0 u), .int .u64 (l1 u), .int .u64 (l2 u), .int .u64 (l3 u)], .int .u64 1]) ∧ Below W.heap.size W w')) :
    Calls Tryd.prog 32 #[.agg (txC t).toArray, .agg #[.int .u64 (l0 b), .int .u64 (l1 b), .int .u64 (l2 b), .int .u64 (l3 b)]] w fun e w' => e = .returned (.tuple #[.agg #[.int .u64 0, .int .u64 0, .int .u64 0, .int .u64 0], .agg #[.int .u64 0, .int .u64 0, .int .u64 0, .int .u64 0], .int .i64 180]) ∧ Below w.heap.size w w' := by
  have hz := build_zero
  have sz := size_tx h20
  have hX0 := TxB.new (W := w) (ty := 32) h20
  obtain ⟨M, hM⟩ : ∃ M, M = txC t := ⟨_, rfl⟩
  have HM : Hid (M = txC t) := hM
  rw [← hM] at sz hX0 DR CO ⊢
  clear hM h20
  go_enter Tryd.func32, Tryd.ntmps32
  refine wp_seq_k fun K0 h0 => ?_
  have H0 : Hid _ := h0
  clear h0
  go_wp2
  refine H0.out _ _ ?_
  clear H0 K0
  refine wp_world (fun W => Below w.heap.size w W ∧ TxB W w.heap.size t ∧ Hold W (w.heap.size + 1) b ∧ Blank W (w.heap.size + 1 + 1) ∧ Blank W (w.heap.size + 1 + 1 + 1)) ⟨by repeat (first | with_reducible exact Below.refl _ _ | with_reducible refine Below.alloc ?_ (by first | omega | (simp; done) | (simp; omega)) _), hX0.keep ((((Below.refl _ _).alloc (Nat.le_refl _) _).alloc (by first | (simp; done) | (simp; omega)) _).alloc (by first | (simp; done) | (simp; omega)) _), ((Hold.fresh (by simp)).alloc _).alloc _, (Blank.new (by simp)).alloc _, Blank.new (by simp)⟩ ?_
  clear hX0
  rintro W ⟨B, hX, hB, hP, hQ⟩
  have o1 : w.heap.size ≤ w.heap.size + 1 + 1 := by omega
  have o2 : w.heap.size ≤ w.heap.size + 1 + 1 + 1 := by omega
  have npq : w.heap.size + 1 + 1 ≠ w.heap.size + 1 + 1 + 1 := by omega
  have nqp := npq.symm
  generalize w.heap.size + 1 + 1 + 1 = bt at *
  generalize w.heap.size + 1 + 1 = bp at *
  generalize w.heap.size + 1 = bb at *
  refine wp_seq_k fun K1 h1 => ?_
  have H1 : Hid _ := h1
  clear h1
  have rM0 : W.rangeAt w.heap.size 0 M := by have h := hX.all; rw [← HM.out] at h; exact h
  go_wp2_with first
    | (refine wpList_load_midT rfl 32 _ rfl w.heap.size 0 rfl M _ rM0 Tryd.underlying32 rfl sz ?_)
    | (go_at_call 51; refine (DR.out _ B).mono ?_; rintro e w2 ⟨rfl, hb⟩; replace B := B.trans (hb.mono B.size); replace hX := hX.keep hb; replace hB := hB.keep hb; replace hP := hP.keep hb; replace hQ := hQ.keep hb; clear hb rM0)
  refine H1.out _ _ ?_
  clear H1 K1
  clear DR W
  obtain ⟨W, rfl⟩ : ∃ W : World, W = w2 := ⟨w2, rfl⟩
  refine wp_seq_k fun K2 h2 => ?_
  have H2 : Hid _ := h2
  clear h2
  go_wp2
  refine H2.out _ _ ?_
  clear H2 K2
  refine wp_seq_k fun K3 h3 => ?_
  have H3 : Hid _ := h3
  clear h3
  have gty := hX.ty
  go_wp2
  refine H3.out _ _ ?_
  clear H3 K3
  clear gty
  refine wp_seq_k fun K4 h4 => ?_
  have H4 : Hid _ := h4
  clear h4
  go_wp2_with fail
  refine alloc_tail_late (A := ?AA1) 7 8 6 (by kernel_rfl) (by kernel_rfl) (fun _ _ _ _ _ h => h) (by kernel_rfl) rfl rfl (alloc_num _ _ _) (fun V hV => ?HH1) (fun V w1 hV hw => ?TT1)
  case HH1 =>
    have X : ∀ d os, TxB (grow (redrawn V d) os) w.heap.size t := fun d os => (hX.keep hV).keep (below_regrown V d os)
    have rM : ∀ w', (∃ q : Regrown, w' = grow (redrawn V q.d) q.os) → w'.rangeAt w.heap.size 0 M := by rintro w' ⟨q, rfl⟩; have h := (X q.d q.os).all; rw [← HM.out] at h; exact h
    have gB := (hB.keep hV).grown
    have BV : ∀ d os, Below w.heap.size w (grow (redrawn V d) os) := fun d os => (B.trans (hV.mono B.size)).trans ((below_regrown V d os).mono (Nat.le_trans B.size hV.size))
    unfold Gr
    simp only [List.take_succ_cons, List.take_zero]
    repeat
      first
        | go_big_quiet_skip
        | (go_big_quiet_want; refine quiet_load_midT 32 _ rfl w.heap.size 0 rfl M _ rM Tryd.underlying32 rfl sz ?_; simp only [Act.put, List.setIfInBounds_toArray, List.set_cons_succ, List.set_cons_zero]; go_big_quiet_on)
        | (go_big_quiet_want; go_big_quiet_op; go_big_quiet_on)
        | (go_big_quiet_want
           go_big_quiet_op
           apply Exists.intro
           refine ⟨fun p => ?_, ?_⟩
           · (first | (go_at_call 61; with_reducible exact Calls.regrown_of (CO.out _ (BV _ _))) | (go_at_call 60; with_reducible exact Calls.regrown_of (SB.out _ (BV _ _))))
           go_big_quiet_on)
    refine wpQuiet_nil ?_
    exact rfl
  case TT1 =>
    have hb := alloc_below hV hw
    have hN := (Blank.new rfl).keep hw
    have nhX : V.heap.size ≠ w.heap.size := Nat.ne_of_gt (Nat.lt_of_lt_of_le (hX.lt) hV.size)
    have nhB : V.heap.size ≠ bb := Nat.ne_of_gt (Nat.lt_of_lt_of_le (World.block_lt_of_cell? _ _ hB.1) hV.size)
    have nhP : V.heap.size ≠ bp := Nat.ne_of_gt (Nat.lt_of_lt_of_le (hP.1.lt (by simp)) hV.size)
    have nhQ : V.heap.size ≠ bt := Nat.ne_of_gt (Nat.lt_of_lt_of_le (hQ.1.lt (by simp)) hV.size)
    have gn : w.heap.size ≤ V.heap.size := Nat.le_trans B.size hV.size
    replace B := B.trans (hb.mono B.size)
    replace hX := hX.keep hb; replace hB := hB.keep hb; replace hP := hP.keep hb; replace hQ := hQ.keep hb
    clear hb hw hV W
    generalize V.heap.size = bu at *
    clear V
    have gN := hN.1.all4; have qN := hN.2.all4
    have mhX := nhX.symm
    have mhB := nhB.symm
    have mhP := nhP.symm
    have mhQ := nhQ.symm
    simp only [List.drop_succ_cons, List.drop_zero, Act.put, List.setIfInBounds_toArray, List.set_cons_zero, List.set_cons_succ]
    go_wp2_with fail
    refine H4.out _ _ ?_
    clear H4 K4
    refine wp_world (fun W => Below w.heap.size w W ∧ TxB W w.heap.size t ∧ Hold W bb b ∧ Blank W bp ∧ Blank W bt ∧ Hold W bu u) ⟨below_set4 B gn _ _ _ _, hX.set4 nhX _ _ _ _, hB.set4 nhB _ _ _ _, hP.set4 nhP _ _ _ _, hQ.set4 nhQ _ _ _ _, Hold.sets4 (Blank.has hN)⟩ ?_
    clear B hN gN qN hX hB hP hQ nhX mhX nhB mhB nhP mhP nhQ mhQ gn
    rintro W ⟨B, hX, hB, hP, hQ, hU⟩
    clear w1
    refine wp_seq_k fun K5 h5 => ?_
    have H5 : Hid _ := h5
    clear h5
    have gP := hP.1.all4; have fP := hP.2.all4
    have gQ := hQ.1.all4; have fQ := hQ.2.all4
    clear hX hB hU CO SB
    go_wp2_with fail
    simp (config := { maxDischargeDepth := 6, maxSteps := 4000000 }) [bodyPost, results, Tryd.results32, go_sem, *]
    repeat (first | with_reducible exact B | with_reducible refine Below.setCell ?_ o1 _ | with_reducible refine Below.setCell ?_ o2 _ | with_reducible refine Below.drew ?_)
set_option maxRecDepth 100000 in
set_option maxHeartbeats 16000000 in
theorem rprice_nlow {t : Txv} {b c1 cap u : Int} (h20 : t.to.length = 20) (w : World)
    (DR : Hid (∀ W, Below w.heap.size w W → Calls Tryd.prog 51 #[.agg (txC t).toArray] W fun e w' => e = .returned (.int .i64 0) ∧ Below W.heap.size W w')) (ct : 2 ≤ t.ty)
    (CM : Hid (∀ W, Below w.heap.size w W → Calls Tryd.prog 59 #[.agg #[.int .u64 (l0 t.ti), .int .u64 (l1 t.ti), .int .u64 (l2 t.ti), .int .u64 (l3 t.ti)], .agg #[.int .u64 (l0 t.ca), .int .u64 (l1 t.ca), .int .u64 (l2 t.ca), .int .u64 (l3 t.ca)]] W fun e w' => e = .returned (.int .i64 c1) ∧ Below W.heap.size W w')) (k1 : ¬ 0 < c1)
    (CO : Hid (∀ W, Below w.heap.size w W → Calls Tryd.prog 61 #[.agg (txC t).toArray] W fun e w' => e = .returned (.agg #[.int .u64 (l0 cap), .int .u64 (l1 cap), .int .u64 (l2 cap), .int .u64 (l3 cap)]) ∧ Below W.heap.size W w'))
    (SB : Hid (∀ W, Below w.heap.size w W → Calls Tryd.prog 60 #[.agg #[.int .u64 (l0 cap), .int .u64 (l1 cap), .int .u64 (l2 cap), .int .u64 (l3 cap)], .agg #[.int .u64 (l0 b), .int .u64 (l1 b), .int .u64 (l2 b), .int .u64 (l3 b)]] W fun e w' => e = .returned (.tuple #[.agg #[.int .u64 (l0 u), .int .u64 (l1 u), .int .u64 (l2 u), .int .u64 (l3 u)], .int .u64 1]) ∧ Below W.heap.size W w')) :
    Calls Tryd.prog 32 #[.agg (txC t).toArray, .agg #[.int .u64 (l0 b), .int .u64 (l1 b), .int .u64 (l2 b), .int .u64 (l3 b)]] w fun e w' => e = .returned (.tuple #[.agg #[.int .u64 0, .int .u64 0, .int .u64 0, .int .u64 0], .agg #[.int .u64 0, .int .u64 0, .int .u64 0, .int .u64 0], .int .i64 180]) ∧ Below w.heap.size w w' := by
  have hz := build_zero
  have sz := size_tx h20
  have hX0 := TxB.new (W := w) (ty := 32) h20
  obtain ⟨M, hM⟩ : ∃ M, M = txC t := ⟨_, rfl⟩
  have HM : Hid (M = txC t) := hM
  rw [← hM] at sz hX0 DR CO ⊢
  clear hM h20
  go_enter Tryd.func32, Tryd.ntmps32
  refine wp_seq_k fun K0 h0 => ?_
  have H0 : Hid _ := h0
  clear h0
  go_wp2
  refine H0.out _ _ ?_
  clear H0 K0
  refine wp_world (fun W => Below w.heap.size w W ∧ TxB W w.heap.size t ∧ Hold W (w.heap.size + 1) b ∧ Blank W (w.heap.size + 1 + 1) ∧ Blank W (w.heap.size + 1 + 1 + 1)) ⟨by repeat (first | with_reducible exact Below.refl _ _ | with_reducible refine Below.alloc ?_ (by first | omega | (simp; done) | (simp; omega)) _), hX0.keep ((((Below.refl _ _).alloc (Nat.le_refl _) _).alloc (by first | (simp; done) | (simp; omega)) _).alloc (by first | (simp; done) | (simp; omega)) _), ((Hold.fresh (by simp)).alloc _).alloc _, (Blank.new (by simp)).alloc _, Blank.new (by simp)⟩ ?_
  clear hX0
  rintro W ⟨B, hX, hB, hP, hQ⟩
  have o1 : w.heap.size ≤ w.heap.size + 1 + 1 := by omega
  have o2 : w.heap.size ≤ w.heap.size + 1 + 1 + 1 := by omega
  have npq : w.heap.size + 1 + 1 ≠ w.heap.size + 1 + 1 + 1 := by omega
  have nqp := npq.symm
  generalize w.heap.size + 1 + 1 + 1 = bt at *
  generalize w.heap.size + 1 + 1 = bp at *
  generalize w.heap.size + 1 = bb at *
  refine wp_seq_k fun K1 h1 => ?_
  have H1 : Hid _ := h1
  clear h1
  have rM0 : W.rangeAt w.heap.size 0 M := by have h := hX.all; rw [← HM.out] at h; exact h
  go_wp2_with first
    | (refine wpList_load_midT rfl 32 _ rfl w.heap.size 0 rfl M _ rM0 Tryd.underlying32 rfl sz ?_)
    | (go_at_call 51; refine (DR.out _ B).mono ?_; rintro e w2 ⟨rfl, hb⟩; replace B := B.trans (hb.mono B.size); replace hX := hX.keep hb; replace hB := hB.keep hb; replace hP := hP.keep hb; replace hQ := hQ.keep hb; clear hb rM0)
  refine H1.out _ _ ?_
  clear H1 K1
  clear DR W
  obtain ⟨W, rfl⟩ : ∃ W : World, W = w2 := ⟨w2, rfl⟩
  refine wp_seq_k fun K2 h2 => ?_
  have H2 : Hid _ := h2
  clear h2
  go_wp2
  refine H2.out _ _ ?_
  clear H2 K2
  refine wp_seq_k fun K3 h3 => ?_
  have H3 : Hid _ := h3
  clear h3
  have gty := hX.ty
  have gti := hX.ti
  have gca := hX.ca
  go_wp2_with fail
  refine (CM.out _ B).mono ?_
  rintro e w3 ⟨rfl, hb⟩
  replace B := B.trans (hb.mono B.size); replace hX := hX.keep hb; replace hB := hB.keep hb; replace hP := hP.keep hb; replace hQ := hQ.keep hb
  clear hb gty gti gca CM W
  go_wp2
  refine H3.out _ _ ?_
  clear H3 K3
  obtain ⟨W, rfl⟩ : ∃ W : World, W = w3 := ⟨w3, rfl⟩
  refine wp_seq_k fun K4 h4 => ?_
  have H4 : Hid _ := h4
  clear h4
  go_wp2_with fail
  refine alloc_tail_late (A := ?AA1) 7 8 6 (by kernel_rfl) (by kernel_rfl) (fun _ _ _ _ _ h => h) (by kernel_rfl) rfl rfl (alloc_num _ _ _) (fun V hV => ?HH1) (fun V w1 hV hw => ?TT1)
  case HH1 =>
    have X : ∀ d os, TxB (grow (redrawn V d) os) w.heap.size t := fun d os => (hX.keep hV).keep (below_regrown V d os)
    have rM : ∀ w', (∃ q : Regrown, w' = grow (redrawn V q.d) q.os) → w'.rangeAt w.heap.size 0 M := by rintro w' ⟨q, rfl⟩; have h := (X q.d q.os).all; rw [← HM.out] at h; exact h
    have gB := (hB.keep hV).grown
    have BV : ∀ d os, Below w.heap.size w (grow (redrawn V d) os) := fun d os => (B.trans (hV.mono B.size)).trans ((below_regrown V d os).mono (Nat.le_trans B.size hV.size))
    unfold Gr
    simp only [List.take_succ_cons, List.take_zero]
    repeat
      first
        | go_big_quiet_skip
        | (go_big_quiet_want; refine quiet_load_midT 32 _ rfl w.heap.size 0 rfl M _ rM Tryd.underlying32 rfl sz ?_; simp only [Act.put, List.setIfInBounds_toArray, List.set_cons_succ, List.set_cons_zero]; go_big_quiet_on)
        | (go_big_quiet_want; go_big_quiet_op; go_big_quiet_on)
        | (go_big_quiet_want
           go_big_quiet_op
           apply Exists.intro
           refine ⟨fun p => ?_, ?_⟩
           · (first | (go_at_call 61; with_reducible exact Calls.regrown_of (CO.out _ (BV _ _))) | (go_at_call 60; with_reducible exact Calls.regrown_of (SB.out _ (BV _ _))))
           go_big_quiet_on)
    refine wpQuiet_nil ?_
    exact rfl
  case TT1 =>
    have hb := alloc_below hV hw
    have hN := (Blank.new rfl).keep hw
    have nhX : V.heap.size ≠ w.heap.size := Nat.ne_of_gt (Nat.lt_of_lt_of_le (hX.lt) hV.size)
    have nhB : V.heap.size ≠ bb := Nat.ne_of_gt (Nat.lt_of_lt_of_le (World.block_lt_of_cell? _ _ hB.1) hV.size)
    have nhP : V.heap.size ≠ bp := Nat.ne_of_gt (Nat.lt_of_lt_of_le (hP.1.lt (by simp)) hV.size)
    have nhQ : V.heap.size ≠ bt := Nat.ne_of_gt (Nat.lt_of_lt_of_le (hQ.1.lt (by simp)) hV.size)
    have gn : w.heap.size ≤ V.heap.size := Nat.le_trans B.size hV.size
    replace B := B.trans (hb.mono B.size)
    replace hX := hX.keep hb; replace hB := hB.keep hb; replace hP := hP.keep hb; replace hQ := hQ.keep hb
    clear hb hw hV W
    generalize V.heap.size = bu at *
    clear V
    have gN := hN.1.all4; have qN := hN.2.all4
    have mhX := nhX.symm
    have mhB := nhB.symm
    have mhP := nhP.symm
    have mhQ := nhQ.symm
    simp only [List.drop_succ_cons, List.drop_zero, Act.put, List.setIfInBounds_toArray, List.set_cons_zero, List.set_cons_succ]
    go_wp2_with fail
    refine H4.out _ _ ?_
    clear H4 K4
    refine wp_world (fun W => Below w.heap.size w W ∧ TxB W w.heap.size t ∧ Hold W bb b ∧ Blank W bp ∧ Blank W bt ∧ Hold W bu u) ⟨below_set4 B gn _ _ _ _, hX.set4 nhX _ _ _ _, hB.set4 nhB _ _ _ _, hP.set4 nhP _ _ _ _, hQ.set4 nhQ _ _ _ _, Hold.sets4 (Blank.has hN)⟩ ?_
    clear B hN gN qN hX hB hP hQ nhX mhX nhB mhB nhP mhP nhQ mhQ gn
    rintro W ⟨B, hX, hB, hP, hQ, hU⟩
    clear w1
    refine wp_seq_k fun K5 h5 => ?_
    have H5 : Hid _ := h5
    clear h5
    have gP := hP.1.all4; have fP := hP.2.all4
    have gQ := hQ.1.all4; have fQ := hQ.2.all4
    clear hX hB hU CO SB
    go_wp2_with fail
    simp (config := { maxDischargeDepth := 6, maxSteps := 4000000 }) [bodyPost, results, Tryd.results32, go_sem, *]
    repeat (first | with_reducible exact B | with_reducible refine Below.setCell ?_ o1 _ | with_reducible refine Below.setCell ?_ o2 _ | with_reducible refine Below.drew ?_)
set_option maxRecDepth 100000 in
set_option maxHeartbeats 16000000 in
theorem rprice_all {t : Txv} {b cap u p kk : Int} (h20 : t.to.length = 20) (w : World)
    (DR : Hid (∀ W, Below w.heap.size w W → Calls Tryd.prog 51 #[.agg (txC t).toArray] W fun e w' => e = .returned (.int .i64 0) ∧ Below W.heap.size W w')) (ct : ¬ 2 ≤ t.ty)
    (CO : Hid (∀ W, Below w.heap.size w W → Calls Tryd.prog 61 #[.agg (txC t).toArray] W fun e w' => e = .returned (.agg #[.int .u64 (l0 cap), .int .u64 (l1 cap), .int .u64 (l2 cap), .int .u64 (l3 cap)]) ∧ Below W.heap.size W w'))
    (SB : Hid (∀ W, Below w.heap.size w W → Calls Tryd.prog 60 #[.agg #[.int .u64 (l0 cap), .int .u64 (l1 cap), .int .u64 (l2 cap), .int .u64 (l3 cap)], .agg #[.int .u64 (l0 b), .int .u64 (l1 b), .int .u64 (l2 b), .int .u64 (l3 b)]] W fun e w' => e = .returned (.tuple #[.agg #[.int .u64 (l0 u), .int .u64 (l1 u), .int .u64 (l2 u), .int .u64 (l3 u)], .int .u64 0]) ∧ Below W.heap.size W w'))
    (AD : Hid (∀ W, Below w.heap.size w W → Calls Tryd.prog 62 #[.agg #[.int .u64 (l0 b), .int .u64 (l1 b), .int .u64 (l2 b), .int .u64 (l3 b)], .agg #[.int .u64 (l0 u), .int .u64 (l1 u), .int .u64 (l2 u), .int .u64 (l3 u)]] W fun e w' => e = .returned (.tuple #[.agg #[.int .u64 (l0 p), .int .u64 (l1 p), .int .u64 (l2 p), .int .u64 (l3 p)], .int .u64 kk]) ∧ Below W.heap.size W w')) :
    Calls Tryd.prog 32 #[.agg (txC t).toArray, .agg #[.int .u64 (l0 b), .int .u64 (l1 b), .int .u64 (l2 b), .int .u64 (l3 b)]] w fun e w' => e = .returned (.tuple #[.agg #[.int .u64 (l0 p), .int .u64 (l1 p), .int .u64 (l2 p), .int .u64 (l3 p)], .agg #[.int .u64 (l0 u), .int .u64 (l1 u), .int .u64 (l2 u), .int .u64 (l3 u)], .int .i64 0]) ∧ Below w.heap.size w w' := by
  have hz := build_zero
  have sz := size_tx h20
  have hX0 := TxB.new (W := w) (ty := 32) h20
  obtain ⟨M, hM⟩ : ∃ M, M = txC t := ⟨_, rfl⟩
  have HM : Hid (M = txC t) := hM
  rw [← hM] at sz hX0 DR CO ⊢
  clear hM h20
  go_enter Tryd.func32, Tryd.ntmps32
  refine wp_seq_k fun K0 h0 => ?_
  have H0 : Hid _ := h0
  clear h0
  go_wp2
  refine H0.out _ _ ?_
  clear H0 K0
  refine wp_world (fun W => Below w.heap.size w W ∧ TxB W w.heap.size t ∧ Hold W (w.heap.size + 1) b ∧ Blank W (w.heap.size + 1 + 1) ∧ Blank W (w.heap.size + 1 + 1 + 1)) ⟨by repeat (first | with_reducible exact Below.refl _ _ | with_reducible refine Below.alloc ?_ (by first | omega | (simp; done) | (simp; omega)) _), hX0.keep ((((Below.refl _ _).alloc (Nat.le_refl _) _).alloc (by first | (simp; done) | (simp; omega)) _).alloc (by first | (simp; done) | (simp; omega)) _), ((Hold.fresh (by simp)).alloc _).alloc _, (Blank.new (by simp)).alloc _, Blank.new (by simp)⟩ ?_
  clear hX0
  rintro W ⟨B, hX, hB, hP, hQ⟩
  have o1 : w.heap.size ≤ w.heap.size + 1 + 1 := by omega
  have o2 : w.heap.size ≤ w.heap.size + 1 + 1 + 1 := by omega
  have npq : w.heap.size + 1 + 1 ≠ w.heap.size + 1 + 1 + 1 := by omega
  have nqp := npq.symm
  generalize w.heap.size + 1 + 1 + 1 = bt at *
  generalize w.heap.size + 1 + 1 = bp at *
  generalize w.heap.size + 1 = bb at *
  refine wp_seq_k fun K1 h1 => ?_
  have H1 : Hid _ := h1
  clear h1
  have rM0 : W.rangeAt w.heap.size 0 M := by have h := hX.all; rw [← HM.out] at h; exact h
  go_wp2_with first
    | (refine wpList_load_midT rfl 32 _ rfl w.heap.size 0 rfl M _ rM0 Tryd.underlying32 rfl sz ?_)
    | (go_at_call 51; refine (DR.out _ B).mono ?_; rintro e w2 ⟨rfl, hb⟩; replace B := B.trans (hb.mono B.size); replace hX := hX.keep hb; replace hB := hB.keep hb; replace hP := hP.keep hb; replace hQ := hQ.keep hb; clear hb rM0)
  refine H1.out _ _ ?_
  clear H1 K1
  clear DR W
  obtain ⟨W, rfl⟩ : ∃ W : World, W = w2 := ⟨w2, rfl⟩
  refine wp_seq_k fun K2 h2 => ?_
  have H2 : Hid _ := h2
  clear h2
  go_wp2
  refine H2.out _ _ ?_
  clear H2 K2
  refine wp_seq_k fun K3 h3 => ?_
  have H3 : Hid _ := h3
  clear h3
  have gty := hX.ty
  go_wp2
  refine H3.out _ _ ?_
  clear H3 K3
  clear gty
  refine wp_seq_k fun K4 h4 => ?_
  have H4 : Hid _ := h4
  clear h4
  go_wp2_with fail
  refine alloc_tail_late (A := ?AA1) 7 8 6 (by kernel_rfl) (by kernel_rfl) (fun _ _ _ _ _ h => h) (by kernel_rfl) rfl rfl (alloc_num _ _ _) (fun V hV => ?HH1) (fun V w1 hV hw => ?TT1)
  case HH1 =>
    have X : ∀ d os, TxB (grow (redrawn V d) os) w.heap.size t := fun d os => (hX.keep hV).keep (below_regrown V d os)
    have rM : ∀ w', (∃ q : Regrown, w' = grow (redrawn V q.d) q.os) → w'.rangeAt w.heap.size 0 M := by rintro w' ⟨q, rfl⟩; have h := (X q.d q.os).all; rw [← HM.out] at h; exact h
    have gB := (hB.keep hV).grown
    have BV : ∀ d os, Below w.heap.size w (grow (redrawn V d) os) := fun d os => (B.trans (hV.mono B.size)).trans ((below_regrown V d os).mono (Nat.le_trans B.size hV.size))
    unfold Gr
    simp only [List.take_succ_cons, List.take_zero]
    repeat
      first
        | go_big_quiet_skip
        | (go_big_quiet_want; refine quiet_load_midT 32 _ rfl w.heap.size 0 rfl M _ rM Tryd.underlying32 rfl sz ?_; simp only [Act.put, List.setIfInBounds_toArray, List.set_cons_succ, List.set_cons_zero]; go_big_quiet_on)
        | (go_big_quiet_want; go_big_quiet_op; go_big_quiet_on)
        | (go_big_quiet_want
           go_big_quiet_op
           apply Exists.intro
           refine ⟨fun p => ?_, ?_⟩
           · (first | (go_at_call 61; with_reducible exact Calls.regrown_of (CO.out _ (BV _ _))) | (go_at_call 60; with_reducible exact Calls.regrown_of (SB.out _ (BV _ _))))
           go_big_quiet_on)
    refine wpQuiet_nil ?_
    exact rfl
  case TT1 =>
    have hb := alloc_below hV hw
    have hN := (Blank.new rfl).keep hw
    have nhX : V.heap.size ≠ w.heap.size := Nat.ne_of_gt (Nat.lt_of_lt_of_le (hX.lt) hV.size)
    have nhB : V.heap.size ≠ bb := Nat.ne_of_gt (Nat.lt_of_lt_of_le (World.block_lt_of_cell? _ _ hB.1) hV.size)
    have nhP : V.heap.size ≠ bp := Nat.ne_of_gt (Nat.lt_of_lt_of_le (hP.1.lt (by simp)) hV.size)
    have nhQ : V.heap.size ≠ bt := Nat.ne_of_gt (Nat.lt_of_lt_of_le (hQ.1.lt (by simp)) hV.size)
    have gn : w.heap.size ≤ V.heap.size := Nat.le_trans B.size hV.size
    replace B := B.trans (hb.mono B.size)
    replace hX := hX.keep hb; replace hB := hB.keep hb; replace hP := hP.keep hb; replace hQ := hQ.keep hb
    clear hb hw hV W
    generalize V.heap.size = bu at *
    clear V
    have gN := hN.1.all4; have qN := hN.2.all4
    have mhX := nhX.symm
    have mhB := nhB.symm
    have mhP := nhP.symm
    have mhQ := nhQ.symm
    simp only [List.drop_succ_cons, List.drop_zero, Act.put, List.setIfInBounds_toArray, List.set_cons_zero, List.set_cons_succ]
    go_wp2_with fail
    refine H4.out _ _ ?_
    clear H4 K4
    refine wp_world (fun W => Below w.heap.size w W ∧ TxB W w.heap.size t ∧ Hold W bb b ∧ Blank W bp ∧ Blank W bt ∧ Hold W bu u) ⟨below_set4 B gn _ _ _ _, hX.set4 nhX _ _ _ _, hB.set4 nhB _ _ _ _, hP.set4 nhP _ _ _ _, hQ.set4 nhQ _ _ _ _, Hold.sets4 (Blank.has hN)⟩ ?_
    clear B hN gN qN hX hB hP hQ nhX mhX nhB mhB nhP mhP nhQ mhQ gn
    rintro W ⟨B, hX, hB, hP, hQ, hU⟩
    clear w1
    refine wp_seq_k fun K5 h5 => ?_
    have H5 : Hid _ := h5
    clear h5
    go_wp2
    refine H5.out _ _ ?_
    clear H5 K5
    refine wp_seq_k fun K6 h6 => ?_
    have H6 : Hid _ := h6
    clear h6
    have gU := hU.cells
    go_wp2_with fail
    refine H6.out _ _ ?_
    clear H6 K6
    refine wp_world (fun W' => Below w.heap.size w W' ∧ TxB W' w.heap.size t ∧ Hold W' bb b ∧ Blank W' bp ∧ Blank W' bt ∧ Hold W' bu u ∧ Var W' W.heap.size u) ⟨B.alloc B.size _, hX.keep ((Below.refl _ _).alloc (Nat.le_refl _) _), hB.alloc _, hP.alloc _, hQ.alloc _, hU.alloc _, Var.new rfl⟩ ?_
    have ng : ∀ k, k < W.heap.size → k ≠ W.heap.size := fun k h => Nat.ne_of_lt h
    have nbp : bp ≠ W.heap.size := ng _ (hP.1.lt (by simp))
    have nbt : bt ≠ W.heap.size := ng _ (hQ.1.lt (by simp))
    have nbb : bb ≠ W.heap.size := ng _ (World.block_lt_of_cell? _ _ hB.1)
    have nbx : w.heap.size ≠ W.heap.size := ng _ hX.lt
    have gb9 : w.heap.size ≤ W.heap.size := B.size
    clear gU ng B hX hB hP hQ hU
    generalize W.heap.size = bv at *
    clear W
    rintro W ⟨B, hX, hB, hP, hQ, hU, hT⟩
    refine wp_seq_k fun K7 h7 => ?_
    have H7 : Hid _ := h7
    clear h7
    have gty := hX.ty
    go_wp2
    refine H7.out _ _ ?_
    clear H7 K7
    clear gty
    replace hT := hT.1
    clear hU
    refine wp_seq_k fun K8 h8 => ?_
    have H8 : Hid _ := h8
    clear h8
    have gB := hB.cells
    have gT := hT.cells
    go_wp2_with fail
    refine (AD.out _ B).mono ?_
    rintro e w6 ⟨rfl, hb⟩
    replace B := B.trans (hb.mono B.size); replace hX := hX.keep hb; replace hB := hB.keep hb; replace hP := hP.keep hb; replace hQ := hQ.keep hb; replace hT := hT.keep hb
    clear hb gB gT hX hB W
    go_wp2_with fail
    refine H8.out _ _ ?_
    clear H8 K8
    refine wp_world (fun W' => Below w.heap.size w W' ∧ Blank W' bp ∧ Blank W' bt ∧ Hold W' bv u ∧ Hold W' w6.heap.size p) ⟨B.alloc B.size _, hP.alloc _, hQ.alloc _, hT.alloc _, Hold.new _ _ _⟩ ?_
    have mbp : bp ≠ w6.heap.size := Nat.ne_of_lt (hP.1.lt (by simp))
    have mbt : bt ≠ w6.heap.size := Nat.ne_of_lt (hQ.1.lt (by simp))
    clear B hP hQ hT
    generalize w6.heap.size = bz at *
    clear w6
    rintro W ⟨B, hP, hQ, hT, hZ⟩
    have gP := hP.1.all4; have fP := hP.2.all4; have gQ := hQ.1.all4; have fQ := hQ.2.all4; have gT := hT.cells; have gZ := hZ.cells
    have n1 := nbp.symm; have n2 := nbt.symm; have n3 := mbp.symm; have n4 := mbt.symm
    have BB : Hid (Below w.heap.size w W) := B
    clear B hP hQ hT hZ CO SB AD
    go_wp2_with fail
    go_region_held3 (fun w' => w'.cell? ⟨bv, 0, none⟩ = some (.int .u64 (l0 u)) ∧ w'.cell? ⟨bv, 1, none⟩ = some (.int .u64 (l1 u)) ∧ w'.cell? ⟨bv, 2, none⟩ = some (.int .u64 (l2 u)) ∧ w'.cell? ⟨bv, 3, none⟩ = some (.int .u64 (l3 u)) ∧ w'.cell? ⟨bz, 0, none⟩ = some (.int .u64 (l0 p)) ∧ w'.cell? ⟨bz, 1, none⟩ = some (.int .u64 (l1 p)) ∧ w'.cell? ⟨bz, 2, none⟩ = some (.int .u64 (l2 p)) ∧ w'.cell? ⟨bz, 3, none⟩ = some (.int .u64 (l3 p))) (((try dsimp only); (repeat' (apply And.intro)); (all_goals repeat (first | with_reducible assumption | with_reducible apply cell_alloc | (with_reducible refine cell_set ?_ (by with_reducible assumption)) | (simp [go_sem, *]; done))))) (fail)
    all_goals go_wp2
    all_goals simp (config := { maxDischargeDepth := 6, maxSteps := 4000000 }) [bodyPost, results, Tryd.results32, go_sem, *]
    all_goals repeat (first | with_reducible exact BB.out | with_reducible refine Below.drew ?_ | with_reducible refine Below.setCell ?_ o1 _ | with_reducible refine Below.setCell ?_ o2 _)
set_option maxRecDepth 100000 in
set_option maxHeartbeats 16000000 in
theorem rprice_nown {t : Txv} {b c1 cap u c2 p kk : Int} (h20 : t.to.length = 20) (w : World)
    (DR : Hid (∀ W, Below w.heap.size w W → Calls Tryd.prog 51 #[.agg (txC t).toArray] W fun e w' => e = .returned (.int .i64 0) ∧ Below W.heap.size W w')) (ct : 2 ≤ t.ty)
    (CM : Hid (∀ W, Below w.heap.size w W → Calls Tryd.prog 59 #[.agg #[.int .u64 (l0 t.ti), .int .u64 (l1 t.ti), .int .u64 (l2 t.ti), .int .u64 (l3 t.ti)], .agg #[.int .u64 (l0 t.ca), .int .u64 (l1 t.ca), .int .u64 (l2 t.ca), .int .u64 (l3 t.ca)]] W fun e w' => e = .returned (.int .i64 c1) ∧ Below W.heap.size W w')) (k1 : ¬ 0 < c1)
    (CO : Hid (∀ W, Below w.heap.size w W → Calls Tryd.prog 61 #[.agg (txC t).toArray] W fun e w' => e = .returned (.agg #[.int .u64 (l0 cap), .int .u64 (l1 cap), .int .u64 (l2 cap), .int .u64 (l3 cap)]) ∧ Below W.heap.size W w'))
    (SB : Hid (∀ W, Below w.heap.size w W → Calls Tryd.prog 60 #[.agg #[.int .u64 (l0 cap), .int .u64 (l1 cap), .int .u64 (l2 cap), .int .u64 (l3 cap)], .agg #[.int .u64 (l0 b), .int .u64 (l1 b), .int .u64 (l2 b), .int .u64 (l3 b)]] W fun e w' => e = .returned (.tuple #[.agg #[.int .u64 (l0 u), .int .u64 (l1 u), .int .u64 (l2 u), .int .u64 (l3 u)], .int .u64 0]) ∧ Below W.heap.size W w'))
    (CT : Hid (∀ W, Below w.heap.size w W → Calls Tryd.prog 59 #[.agg #[.int .u64 (l0 t.ti), .int .u64 (l1 t.ti), .int .u64 (l2 t.ti), .int .u64 (l3 t.ti)], .agg #[.int .u64 (l0 u), .int .u64 (l1 u), .int .u64 (l2 u), .int .u64 (l3 u)]] W fun e w' => e = .returned (.int .i64 c2) ∧ Below W.heap.size W w')) (k2 : c2 < 0)
    (AD : Hid (∀ W, Below w.heap.size w W → Calls Tryd.prog 62 #[.agg #[.int .u64 (l0 b), .int .u64 (l1 b), .int .u64 (l2 b), .int .u64 (l3 b)], .agg #[.int .u64 (l0 t.ti), .int .u64 (l1 t.ti), .int .u64 (l2 t.ti), .int .u64 (l3 t.ti)]] W fun e w' => e = .returned (.tuple #[.agg #[.int .u64 (l0 p), .int .u64 (l1 p), .int .u64 (l2 p), .int .u64 (l3 p)], .int .u64 kk]) ∧ Below W.heap.size W w')) :
    Calls Tryd.prog 32 #[.agg (txC t).toArray, .agg #[.int .u64 (l0 b), .int .u64 (l1 b), .int .u64 (l2 b), .int .u64 (l3 b)]] w fun e w' => e = .returned (.tuple #[.agg #[.int .u64 (l0 p), .int .u64 (l1 p), .int .u64 (l2 p), .int .u64 (l3 p)], .agg #[.int .u64 (l0 t.ti), .int .u64 (l1 t.ti), .int .u64 (l2 t.ti), .int .u64 (l3 t.ti)], .int .i64 0]) ∧ Below w.heap.size w w' := by
  have hz := build_zero
  have sz := size_tx h20
  have hX0 := TxB.new (W := w) (ty := 32) h20
  obtain ⟨M, hM⟩ : ∃ M, M = txC t := ⟨_, rfl⟩
  have HM : Hid (M = txC t) := hM
  rw [← hM] at sz hX0 DR CO ⊢
  clear hM h20
  go_enter Tryd.func32, Tryd.ntmps32
  refine wp_seq_k fun K0 h0 => ?_
  have H0 : Hid _ := h0
  clear h0
  go_wp2
  refine H0.out _ _ ?_
  clear H0 K0
  refine wp_world (fun W => Below w.heap.size w W ∧ TxB W w.heap.size t ∧ Hold W (w.heap.size + 1) b ∧ Blank W (w.heap.size + 1 + 1) ∧ Blank W (w.heap.size + 1 + 1 + 1)) ⟨by repeat (first | with_reducible exact Below.refl _ _ | with_reducible refine Below.alloc ?_ (by first | omega | (simp; done) | (simp; omega)) _), hX0.keep ((((Below.refl _ _).alloc (Nat.le_refl _) _).alloc (by first | (simp; done) | (simp; omega)) _).alloc (by first | (simp; done) | (simp; omega)) _), ((Hold.fresh (by simp)).alloc _).alloc _, (Blank.new (by simp)).alloc _, Blank.new (by simp)⟩ ?_
  clear hX0
  rintro W ⟨B, hX, hB, hP, hQ⟩
  have o1 : w.heap.size ≤ w.heap.size + 1 + 1 := by omega
  have o2 : w.heap.size ≤ w.heap.size + 1 + 1 + 1 := by omega
  have npq : w.heap.size + 1 + 1 ≠ w.heap.size + 1 + 1 + 1 := by omega
  have nqp := npq.symm
  generalize w.heap.size + 1 + 1 + 1 = bt at *
  generalize w.heap.size + 1 + 1 = bp at *
  generalize w.heap.size + 1 = bb at *
  refine wp_seq_k fun K1 h1 => ?_
  have H1 : Hid _ := h1
  clear h1
  have rM0 : W.rangeAt w.heap.size 0 M := by have h := hX.all; rw [← HM.out] at h; exact h
  go_wp2_with first
    | (refine wpList_load_midT rfl 32 _ rfl w.heap.size 0 rfl M _ rM0 Tryd.underlying32 rfl sz ?_)
    | (go_at_call 51; refine (DR.out _ B).mono ?_; rintro e w2 ⟨rfl, hb⟩; replace B := B.trans (hb.mono B.size); replace hX := hX.keep hb; replace hB := hB.keep hb; replace hP := hP.keep hb; replace hQ := hQ.keep hb; clear hb rM0)
  refine H1.out _ _ ?_
  clear H1 K1
  clear DR W
  obtain ⟨W, rfl⟩ : ∃ W : World, W = w2 := ⟨w2, rfl⟩
  refine wp_seq_k fun K2 h2 => ?_
  have H2 : Hid _ := h2
  clear h2
  go_wp2
  refine H2.out _ _ ?_
  clear H2 K2
  refine wp_seq_k fun K3 h3 => ?_
  have H3 : Hid _ := h3
  clear h3
  have gty := hX.ty
  have gti := hX.ti
  have gca := hX.ca
  go_wp2_with fail
  refine (CM.out _ B).mono ?_
  rintro e w3 ⟨rfl, hb⟩
  replace B := B.trans (hb.mono B.size); replace hX := hX.keep hb; replace hB := hB.keep hb; replace hP := hP.keep hb; replace hQ := hQ.keep hb
  clear hb gty gti gca CM W
  go_wp2
  refine H3.out _ _ ?_
  clear H3 K3
  obtain ⟨W, rfl⟩ : ∃ W : World, W = w3 := ⟨w3, rfl⟩
  refine wp_seq_k fun K4 h4 => ?_
  have H4 : Hid _ := h4
  clear h4
  go_wp2_with fail
  refine alloc_tail_late (A := ?AA1) 7 8 6 (by kernel_rfl) (by kernel_rfl) (fun _ _ _ _ _ h => h) (by kernel_rfl) rfl rfl (alloc_num _ _ _) (fun V hV => ?HH1) (fun V w1 hV hw => ?TT1)
  case HH1 =>
    have X : ∀ d os, TxB (grow (redrawn V d) os) w.heap.size t := fun d os => (hX.keep hV).keep (below_regrown V d os)
    have rM : ∀ w', (∃ q : Regrown, w' = grow (redrawn V q.d) q.os) → w'.rangeAt w.heap.size 0 M := by rintro w' ⟨q, rfl⟩; have h := (X q.d q.os).all; rw [← HM.out] at h; exact h
    have gB := (hB.keep hV).grown
    have BV : ∀ d os, Below w.heap.size w (grow (redrawn V d) os) := fun d os => (B.trans (hV.mono B.size)).trans ((below_regrown V d os).mono (Nat.le_trans B.size hV.size))
    unfold Gr
    simp only [List.take_succ_cons, List.take_zero]
    repeat
      first
        | go_big_quiet_skip
        | (go_big_quiet_want; refine quiet_load_midT 32 _ rfl w.heap.size 0 rfl M _ rM Tryd.underlying32 rfl sz ?_; simp only [Act.put, List.setIfInBounds_toArray, List.set_cons_succ, List.set_cons_zero]; go_big_quiet_on)
        | (go_big_quiet_want; go_big_quiet_op; go_big_quiet_on)
        | (go_big_quiet_want
           go_big_quiet_op
           apply Exists.intro
           refine ⟨fun p => ?_, ?_⟩
           · (first | (go_at_call 61; with_reducible exact Calls.regrown_of (CO.out _ (BV _ _))) | (go_at_call 60; with_reducible exact Calls.regrown_of (SB.out _ (BV _ _))))
           go_big_quiet_on)
    refine wpQuiet_nil ?_
    exact rfl
  case TT1 =>
    have hb := alloc_below hV hw
    have hN := (Blank.new rfl).keep hw
    have nhX : V.heap.size ≠ w.heap.size := Nat.ne_of_gt (Nat.lt_of_lt_of_le (hX.lt) hV.size)
    have nhB : V.heap.size ≠ bb := Nat.ne_of_gt (Nat.lt_of_lt_of_le (World.block_lt_of_cell? _ _ hB.1) hV.size)
    have nhP : V.heap.size ≠ bp := Nat.ne_of_gt (Nat.lt_of_lt_of_le (hP.1.lt (by simp)) hV.size)
    have nhQ : V.heap.size ≠ bt := Nat.ne_of_gt (Nat.lt_of_lt_of_le (hQ.1.lt (by simp)) hV.size)
    have gn : w.heap.size ≤ V.heap.size := Nat.le_trans B.size hV.size
    replace B := B.trans (hb.mono B.size)
    replace hX := hX.keep hb; replace hB := hB.keep hb; replace hP := hP.keep hb; replace hQ := hQ.keep hb
    clear hb hw hV W
    generalize V.heap.size = bu at *
    clear V
    have gN := hN.1.all4; have qN := hN.2.all4
    have mhX := nhX.symm
    have mhB := nhB.symm
    have mhP := nhP.symm
    have mhQ := nhQ.symm
    simp only [List.drop_succ_cons, List.drop_zero, Act.put, List.setIfInBounds_toArray, List.set_cons_zero, List.set_cons_succ]
    go_wp2_with fail
    refine H4.out _ _ ?_
    clear H4 K4
    refine wp_world (fun W => Below w.heap.size w W ∧ TxB W w.heap.size t ∧ Hold W bb b ∧ Blank W bp ∧ Blank W bt ∧ Hold W bu u) ⟨below_set4 B gn _ _ _ _, hX.set4 nhX _ _ _ _, hB.set4 nhB _ _ _ _, hP.set4 nhP _ _ _ _, hQ.set4 nhQ _ _ _ _, Hold.sets4 (Blank.has hN)⟩ ?_
    clear B hN gN qN hX hB hP hQ nhX mhX nhB mhB nhP mhP nhQ mhQ gn
    rintro W ⟨B, hX, hB, hP, hQ, hU⟩
    clear w1
    refine wp_seq_k fun K5 h5 => ?_
    have H5 : Hid _ := h5
    clear h5
    go_wp2
    refine H5.out _ _ ?_
    clear H5 K5
    refine wp_seq_k fun K6 h6 => ?_
    have H6 : Hid _ := h6
    clear h6
    have gU := hU.cells
    go_wp2_with fail
    refine H6.out _ _ ?_
    clear H6 K6
    refine wp_world (fun W' => Below w.heap.size w W' ∧ TxB W' w.heap.size t ∧ Hold W' bb b ∧ Blank W' bp ∧ Blank W' bt ∧ Hold W' bu u ∧ Var W' W.heap.size u) ⟨B.alloc B.size _, hX.keep ((Below.refl _ _).alloc (Nat.le_refl _) _), hB.alloc _, hP.alloc _, hQ.alloc _, hU.alloc _, Var.new rfl⟩ ?_
    have ng : ∀ k, k < W.heap.size → k ≠ W.heap.size := fun k h => Nat.ne_of_lt h
    have nbp : bp ≠ W.heap.size := ng _ (hP.1.lt (by simp))
    have nbt : bt ≠ W.heap.size := ng _ (hQ.1.lt (by simp))
    have nbb : bb ≠ W.heap.size := ng _ (World.block_lt_of_cell? _ _ hB.1)
    have nbx : w.heap.size ≠ W.heap.size := ng _ hX.lt
    have gb9 : w.heap.size ≤ W.heap.size := B.size
    clear gU ng B hX hB hP hQ hU
    generalize W.heap.size = bv at *
    clear W
    rintro W ⟨B, hX, hB, hP, hQ, hU, hT⟩
    refine wp_seq_k fun K7 h7 => ?_
    have H7 : Hid _ := h7
    clear h7
    have gty := hX.ty
    have gti := hX.ti
    have gU := hU.cells
    go_wp2_with fail
    refine (CT.out _ B).mono ?_
    rintro e w5 ⟨rfl, hb⟩
    replace B := B.trans (hb.mono B.size); replace hX := hX.keep hb; replace hB := hB.keep hb; replace hP := hP.keep hb; replace hQ := hQ.keep hb; replace hU := hU.keep hb; replace hT := hT.keep hb
    clear hb gty gti gU CT W
    have gti := hX.ti
    have fT := hT.2.all4
    have gT := hT.1.cells
    go_wp2_with fail
    refine H7.out _ _ ?_
    clear H7 K7
    refine wp_world (fun W' => Below w.heap.size w W' ∧ TxB W' w.heap.size t ∧ Hold W' bb b ∧ Blank W' bp ∧ Blank W' bt ∧ Hold W' bv t.ti) ⟨below_set4 B gb9 _ _ _ _, hX.set4 nbx.symm _ _ _ _, hB.set4 nbb.symm _ _ _ _, hP.set4 nbp.symm _ _ _ _, hQ.set4 nbt.symm _ _ _ _, Hold.sets4 hT.1.has⟩ ?_
    clear gti fT gT B hX hB hP hQ hU hT
    rintro W ⟨B, hX, hB, hP, hQ, hT⟩
    refine wp_seq_k fun K8 h8 => ?_
    have H8 : Hid _ := h8
    clear h8
    have gB := hB.cells
    have gT := hT.cells
    go_wp2_with fail
    refine (AD.out _ B).mono ?_
    rintro e w6 ⟨rfl, hb⟩
    replace B := B.trans (hb.mono B.size); replace hX := hX.keep hb; replace hB := hB.keep hb; replace hP := hP.keep hb; replace hQ := hQ.keep hb; replace hT := hT.keep hb
    clear hb gB gT hX hB W
    go_wp2_with fail
    refine H8.out _ _ ?_
    clear H8 K8
    refine wp_world (fun W' => Below w.heap.size w W' ∧ Blank W' bp ∧ Blank W' bt ∧ Hold W' bv t.ti ∧ Hold W' w6.heap.size p) ⟨B.alloc B.size _, hP.alloc _, hQ.alloc _, hT.alloc _, Hold.new _ _ _⟩ ?_
    have mbp : bp ≠ w6.heap.size := Nat.ne_of_lt (hP.1.lt (by simp))
    have mbt : bt ≠ w6.heap.size := Nat.ne_of_lt (hQ.1.lt (by simp))
    clear B hP hQ hT
    generalize w6.heap.size = bz at *
    clear w6
    rintro W ⟨B, hP, hQ, hT, hZ⟩
    have gP := hP.1.all4; have fP := hP.2.all4; have gQ := hQ.1.all4; have fQ := hQ.2.all4; have gT := hT.cells; have gZ := hZ.cells
    have n1 := nbp.symm; have n2 := nbt.symm; have n3 := mbp.symm; have n4 := mbt.symm
    have BB : Hid (Below w.heap.size w W) := B
    clear B hP hQ hT hZ CO SB AD
    go_wp2_with fail
    go_region_held3 (fun w' => w'.cell? ⟨bv, 0, none⟩ = some (.int .u64 (l0 t.ti)) ∧ w'.cell? ⟨bv, 1, none⟩ = some (.int .u64 (l1 t.ti)) ∧ w'.cell? ⟨bv, 2, none⟩ = some (.int .u64 (l2 t.ti)) ∧ w'.cell? ⟨bv, 3, none⟩ = some (.int .u64 (l3 t.ti)) ∧ w'.cell? ⟨bz, 0, none⟩ = some (.int .u64 (l0 p)) ∧ w'.cell? ⟨bz, 1, none⟩ = some (.int .u64 (l1 p)) ∧ w'.cell? ⟨bz, 2, none⟩ = some (.int .u64 (l2 p)) ∧ w'.cell? ⟨bz, 3, none⟩ = some (.int .u64 (l3 p))) (((try dsimp only); (repeat' (apply And.intro)); (all_goals repeat (first | with_reducible assumption | with_reducible apply cell_alloc | (with_reducible refine cell_set ?_ (by with_reducible assumption)) | (simp [go_sem, *]; done))))) (fail)
    all_goals go_wp2
    all_goals simp (config := { maxDischargeDepth := 6, maxSteps := 4000000 }) [bodyPost, results, Tryd.results32, go_sem, *]
    all_goals repeat (first | with_reducible exact BB.out | with_reducible refine Below.drew ?_ | with_reducible refine Below.setCell ?_ o1 _ | with_reducible refine Below.setCell ?_ o2 _)
set_option maxRecDepth 100000 in
set_option maxHeartbeats 16000000 in
theorem rprice_nall {t : Txv} {b c1 cap u c2 p kk : Int} (h20 : t.to.length = 20) (w : World)
    (DR : Hid (∀ W, Below w.heap.size w W → Calls Tryd.prog 51 #[.agg (txC t).toArray] W fun e w' => e = .returned (.int .i64 0) ∧ Below W.heap.size W w')) (ct : 2 ≤ t.ty)
    (CM : Hid (∀ W, Below w.heap.size w W → Calls Tryd.prog 59 #[.agg #[.int .u64 (l0 t.ti), .int .u64 (l1 t.ti), .int .u64 (l2 t.ti), .int .u64 (l3 t.ti)], .agg #[.int .u64 (l0 t.ca), .int .u64 (l1 t.ca), .int .u64 (l2 t.ca), .int .u64 (l3 t.ca)]] W fun e w' => e = .returned (.int .i64 c1) ∧ Below W.heap.size W w')) (k1 : ¬ 0 < c1)
    (CO : Hid (∀ W, Below w.heap.size w W → Calls Tryd.prog 61 #[.agg (txC t).toArray] W fun e w' => e = .returned (.agg #[.int .u64 (l0 cap), .int .u64 (l1 cap), .int .u64 (l2 cap), .int .u64 (l3 cap)]) ∧ Below W.heap.size W w'))
    (SB : Hid (∀ W, Below w.heap.size w W → Calls Tryd.prog 60 #[.agg #[.int .u64 (l0 cap), .int .u64 (l1 cap), .int .u64 (l2 cap), .int .u64 (l3 cap)], .agg #[.int .u64 (l0 b), .int .u64 (l1 b), .int .u64 (l2 b), .int .u64 (l3 b)]] W fun e w' => e = .returned (.tuple #[.agg #[.int .u64 (l0 u), .int .u64 (l1 u), .int .u64 (l2 u), .int .u64 (l3 u)], .int .u64 0]) ∧ Below W.heap.size W w'))
    (CT : Hid (∀ W, Below w.heap.size w W → Calls Tryd.prog 59 #[.agg #[.int .u64 (l0 t.ti), .int .u64 (l1 t.ti), .int .u64 (l2 t.ti), .int .u64 (l3 t.ti)], .agg #[.int .u64 (l0 u), .int .u64 (l1 u), .int .u64 (l2 u), .int .u64 (l3 u)]] W fun e w' => e = .returned (.int .i64 c2) ∧ Below W.heap.size W w')) (k2 : ¬ c2 < 0)
    (AD : Hid (∀ W, Below w.heap.size w W → Calls Tryd.prog 62 #[.agg #[.int .u64 (l0 b), .int .u64 (l1 b), .int .u64 (l2 b), .int .u64 (l3 b)], .agg #[.int .u64 (l0 u), .int .u64 (l1 u), .int .u64 (l2 u), .int .u64 (l3 u)]] W fun e w' => e = .returned (.tuple #[.agg #[.int .u64 (l0 p), .int .u64 (l1 p), .int .u64 (l2 p), .int .u64 (l3 p)], .int .u64 kk]) ∧ Below W.heap.size W w')) :
    Calls Tryd.prog 32 #[.agg (txC t).toArray, .agg #[.int .u64 (l0 b), .int .u64 (l1 b), .int .u64 (l2 b), .int .u64 (l3 b)]] w fun e w' => e = .returned (.tuple #[.agg #[.int .u64 (l0 p), .int .u64 (l1 p), .int .u64 (l2 p), .int .u64 (l3 p)], .agg #[.int .u64 (l0 u), .int .u64 (l1 u), .int .u64 (l2 u), .int .u64 (l3 u)], .int .i64 0]) ∧ Below w.heap.size w w' := by
  have hz := build_zero
  have sz := size_tx h20
  have hX0 := TxB.new (W := w) (ty := 32) h20
  obtain ⟨M, hM⟩ : ∃ M, M = txC t := ⟨_, rfl⟩
  have HM : Hid (M = txC t) := hM
  rw [← hM] at sz hX0 DR CO ⊢
  clear hM h20
  go_enter Tryd.func32, Tryd.ntmps32
  refine wp_seq_k fun K0 h0 => ?_
  have H0 : Hid _ := h0
  clear h0
  go_wp2
  refine H0.out _ _ ?_
  clear H0 K0
  refine wp_world (fun W => Below w.heap.size w W ∧ TxB W w.heap.size t ∧ Hold W (w.heap.size + 1) b ∧ Blank W (w.heap.size + 1 + 1) ∧ Blank W (w.heap.size + 1 + 1 + 1)) ⟨by repeat (first | with_reducible exact Below.refl _ _ | with_reducible refine Below.alloc ?_ (by first | omega | (simp; done) | (simp; omega)) _), hX0.keep ((((Below.refl _ _).alloc (Nat.le_refl _) _).alloc (by first | (simp; done) | (simp; omega)) _).alloc (by first | (simp; done) | (simp; omega)) _), ((Hold.fresh (by simp)).alloc _).alloc _, (Blank.new (by simp)).alloc _, Blank.new (by simp)⟩ ?_
  clear hX0
  rintro W ⟨B, hX, hB, hP, hQ⟩
  have o1 : w.heap.size ≤ w.heap.size + 1 + 1 := by omega
  have o2 : w.heap.size ≤ w.heap.size + 1 + 1 + 1 := by omega
  have npq : w.heap.size + 1 + 1 ≠ w.heap.size + 1 + 1 + 1 := by omega
  have nqp := npq.symm
  generalize w.heap.size + 1 + 1 + 1 = bt at *
  generalize w.heap.size + 1 + 1 = bp at *
  generalize w.heap.size + 1 = bb at *
  refine wp_seq_k fun K1 h1 => ?_
  have H1 : Hid _ := h1
  clear h1
  have rM0 : W.rangeAt w.heap.size 0 M := by have h := hX.all; rw [← HM.out] at h; exact h
  go_wp2_with first
    | (refine wpList_load_midT rfl 32 _ rfl w.heap.size 0 rfl M _ rM0 Tryd.underlying32 rfl sz ?_)
    | (go_at_call 51; refine (DR.out _ B).mono ?_; rintro e w2 ⟨rfl, hb⟩; replace B := B.trans (hb.mono B.size); replace hX := hX.keep hb; replace hB := hB.keep hb; replace hP := hP.keep hb; replace hQ := hQ.keep hb; clear hb rM0)
  refine H1.out _ _ ?_
  clear H1 K1
  clear DR W
  obtain ⟨W, rfl⟩ : ∃ W : World, W = w2 := ⟨w2, rfl⟩
  refine wp_seq_k fun K2 h2 => ?_
  have H2 : Hid _ := h2
  clear h2
  go_wp2
  refine H2.out _ _ ?_
  clear H2 K2
  refine wp_seq_k fun K3 h3 => ?_
  have H3 : Hid _ := h3
  clear h3
  have gty := hX.ty
  have gti := hX.ti
  have gca := hX.ca
  go_wp2_with fail
  refine (CM.out _ B).mono ?_
  rintro e w3 ⟨rfl, hb⟩
  replace B := B.trans (hb.mono B.size); replace hX := hX.keep hb; replace hB := hB.keep hb; replace hP := hP.keep hb; replace hQ := hQ.keep hb
  clear hb gty gti gca CM W
  go_wp2
  refine H3.out _ _ ?_
  clear H3 K3
  obtain ⟨W, rfl⟩ : ∃ W : World, W = w3 := ⟨w3, rfl⟩
  refine wp_seq_k fun K4 h4 => ?_
  have H4 : Hid _ := h4
  clear h4
  go_wp2_with fail
  refine alloc_tail_late (A := ?AA1) 7 8 6 (by kernel_rfl) (by kernel_rfl) (fun _ _ _ _ _ h => h) (by kernel_rfl) rfl rfl (alloc_num _ _ _) (fun V hV => ?HH1) (fun V w1 hV hw => ?TT1)
  case HH1 =>
    have X : ∀ d os, TxB (grow (redrawn V d) os) w.heap.size t := fun d os => (hX.keep hV).keep (below_regrown V d os)
    have rM : ∀ w', (∃ q : Regrown, w' = grow (redrawn V q.d) q.os) → w'.rangeAt w.heap.size 0 M := by rintro w' ⟨q, rfl⟩; have h := (X q.d q.os).all; rw [← HM.out] at h; exact h
    have gB := (hB.keep hV).grown
    have BV : ∀ d os, Below w.heap.size w (grow (redrawn V d) os) := fun d os => (B.trans (hV.mono B.size)).trans ((below_regrown V d os).mono (Nat.le_trans B.size hV.size))
    unfold Gr
    simp only [List.take_succ_cons, List.take_zero]
    repeat
      first
        | go_big_quiet_skip
        | (go_big_quiet_want; refine quiet_load_midT 32 _ rfl w.heap.size 0 rfl M _ rM Tryd.underlying32 rfl sz ?_; simp only [Act.put, List.setIfInBounds_toArray, List.set_cons_succ, List.set_cons_zero]; go_big_quiet_on)
        | (go_big_quiet_want; go_big_quiet_op; go_big_quiet_on)
        | (go_big_quiet_want
           go_big_quiet_op
           apply Exists.intro
           refine ⟨fun p => ?_, ?_⟩
           · (first | (go_at_call 61; with_reducible exact Calls.regrown_of (CO.out _ (BV _ _))) | (go_at_call 60; with_reducible exact Calls.regrown_of (SB.out _ (BV _ _))))
           go_big_quiet_on)
    refine wpQuiet_nil ?_
    exact rfl
  case TT1 =>
    have hb := alloc_below hV hw
    have hN := (Blank.new rfl).keep hw
    have nhX : V.heap.size ≠ w.heap.size := Nat.ne_of_gt (Nat.lt_of_lt_of_le (hX.lt) hV.size)
    have nhB : V.heap.size ≠ bb := Nat.ne_of_gt (Nat.lt_of_lt_of_le (World.block_lt_of_cell? _ _ hB.1) hV.size)
    have nhP : V.heap.size ≠ bp := Nat.ne_of_gt (Nat.lt_of_lt_of_le (hP.1.lt (by simp)) hV.size)
    have nhQ : V.heap.size ≠ bt := Nat.ne_of_gt (Nat.lt_of_lt_of_le (hQ.1.lt (by simp)) hV.size)
    have gn : w.heap.size ≤ V.heap.size := Nat.le_trans B.size hV.size
    replace B := B.trans (hb.mono B.size)
    replace hX := hX.keep hb; replace hB := hB.keep hb; replace hP := hP.keep hb; replace hQ := hQ.keep hb
    clear hb hw hV W
    generalize V.heap.size = bu at *
    clear V
    have gN := hN.1.all4; have qN := hN.2.all4
    have mhX := nhX.symm
    have mhB := nhB.symm
    have mhP := nhP.symm
    have mhQ := nhQ.symm
    simp only [List.drop_succ_cons, List.drop_zero, Act.put, List.setIfInBounds_toArray, List.set_cons_zero, List.set_cons_succ]
    go_wp2_with fail
    refine H4.out _ _ ?_
    clear H4 K4
    refine wp_world (fun W => Below w.heap.size w W ∧ TxB W w.heap.size t ∧ Hold W bb b ∧ Blank W bp ∧ Blank W bt ∧ Hold W bu u) ⟨below_set4 B gn _ _ _ _, hX.set4 nhX _ _ _ _, hB.set4 nhB _ _ _ _, hP.set4 nhP _ _ _ _, hQ.set4 nhQ _ _ _ _, Hold.sets4 (Blank.has hN)⟩ ?_
    clear B hN gN qN hX hB hP hQ nhX mhX nhB mhB nhP mhP nhQ mhQ gn
    rintro W ⟨B, hX, hB, hP, hQ, hU⟩
    clear w1
    refine wp_seq_k fun K5 h5 => ?_
    have H5 : Hid _ := h5
    clear h5
    go_wp2
    refine H5.out _ _ ?_
    clear H5 K5
    refine wp_seq_k fun K6 h6 => ?_
    have H6 : Hid _ := h6
    clear h6
    have gU := hU.cells
    go_wp2_with fail
    refine H6.out _ _ ?_
    clear H6 K6
    refine wp_world (fun W' => Below w.heap.size w W' ∧ TxB W' w.heap.size t ∧ Hold W' bb b ∧ Blank W' bp ∧ Blank W' bt ∧ Hold W' bu u ∧ Var W' W.heap.size u) ⟨B.alloc B.size _, hX.keep ((Below.refl _ _).alloc (Nat.le_refl _) _), hB.alloc _, hP.alloc _, hQ.alloc _, hU.alloc _, Var.new rfl⟩ ?_
    have ng : ∀ k, k < W.heap.size → k ≠ W.heap.size := fun k h => Nat.ne_of_lt h
    have nbp : bp ≠ W.heap.size := ng _ (hP.1.lt (by simp))
    have nbt : bt ≠ W.heap.size := ng _ (hQ.1.lt (by simp))
    have nbb : bb ≠ W.heap.size := ng _ (World.block_lt_of_cell? _ _ hB.1)
    have nbx : w.heap.size ≠ W.heap.size := ng _ hX.lt
    have gb9 : w.heap.size ≤ W.heap.size := B.size
    clear gU ng B hX hB hP hQ hU
    generalize W.heap.size = bv at *
    clear W
    rintro W ⟨B, hX, hB, hP, hQ, hU, hT⟩
    refine wp_seq_k fun K7 h7 => ?_
    have H7 : Hid _ := h7
    clear h7
    have gty := hX.ty
    have gti := hX.ti
    have gU := hU.cells
    go_wp2_with fail
    refine (CT.out _ B).mono ?_
    rintro e w5 ⟨rfl, hb⟩
    replace B := B.trans (hb.mono B.size); replace hX := hX.keep hb; replace hB := hB.keep hb; replace hP := hP.keep hb; replace hQ := hQ.keep hb; replace hU := hU.keep hb; replace hT := hT.keep hb
    clear hb gty gti gU CT W
    go_wp2
    refine H7.out _ _ ?_
    clear H7 K7
    obtain ⟨W, rfl⟩ : ∃ W : World, W = w5 := ⟨w5, rfl⟩
    replace hT := hT.1
    clear hU
    refine wp_seq_k fun K8 h8 => ?_
    have H8 : Hid _ := h8
    clear h8
    have gB := hB.cells
    have gT := hT.cells
    go_wp2_with fail
    refine (AD.out _ B).mono ?_
    rintro e w6 ⟨rfl, hb⟩
    replace B := B.trans (hb.mono B.size); replace hX := hX.keep hb; replace hB := hB.keep hb; replace hP := hP.keep hb; replace hQ := hQ.keep hb; replace hT := hT.keep hb
    clear hb gB gT hX hB W
    go_wp2_with fail
    refine H8.out _ _ ?_
    clear H8 K8
    refine wp_world (fun W' => Below w.heap.size w W' ∧ Blank W' bp ∧ Blank W' bt ∧ Hold W' bv u ∧ Hold W' w6.heap.size p) ⟨B.alloc B.size _, hP.alloc _, hQ.alloc _, hT.alloc _, Hold.new _ _ _⟩ ?_
    have mbp : bp ≠ w6.heap.size := Nat.ne_of_lt (hP.1.lt (by simp))
    have mbt : bt ≠ w6.heap.size := Nat.ne_of_lt (hQ.1.lt (by simp))
    clear B hP hQ hT
    generalize w6.heap.size = bz at *
    clear w6
    rintro W ⟨B, hP, hQ, hT, hZ⟩
    have gP := hP.1.all4; have fP := hP.2.all4; have gQ := hQ.1.all4; have fQ := hQ.2.all4; have gT := hT.cells; have gZ := hZ.cells
    have n1 := nbp.symm; have n2 := nbt.symm; have n3 := mbp.symm; have n4 := mbt.symm
    have BB : Hid (Below w.heap.size w W) := B
    clear B hP hQ hT hZ CO SB AD
    go_wp2_with fail
    go_region_held3 (fun w' => w'.cell? ⟨bv, 0, none⟩ = some (.int .u64 (l0 u)) ∧ w'.cell? ⟨bv, 1, none⟩ = some (.int .u64 (l1 u)) ∧ w'.cell? ⟨bv, 2, none⟩ = some (.int .u64 (l2 u)) ∧ w'.cell? ⟨bv, 3, none⟩ = some (.int .u64 (l3 u)) ∧ w'.cell? ⟨bz, 0, none⟩ = some (.int .u64 (l0 p)) ∧ w'.cell? ⟨bz, 1, none⟩ = some (.int .u64 (l1 p)) ∧ w'.cell? ⟨bz, 2, none⟩ = some (.int .u64 (l2 p)) ∧ w'.cell? ⟨bz, 3, none⟩ = some (.int .u64 (l3 p))) (((try dsimp only); (repeat' (apply And.intro)); (all_goals repeat (first | with_reducible assumption | with_reducible apply cell_alloc | (with_reducible refine cell_set ?_ (by with_reducible assumption)) | (simp [go_sem, *]; done))))) (fail)
    all_goals go_wp2
    all_goals simp (config := { maxDischargeDepth := 6, maxSteps := 4000000 }) [bodyPost, results, Tryd.results32, go_sem, *]
    all_goals repeat (first | with_reducible exact BB.out | with_reducible refine Below.drew ?_ | with_reducible refine Below.setCell ?_ o1 _ | with_reducible refine Below.setCell ?_ o2 _)
end Go.Proofs.YtlpmphldmfefkaaDoor
