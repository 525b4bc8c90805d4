import Derived.Test.YtlpmphldmfefkaaDoorFxE
/- Layer 18: Charge of the document. -/
namespace Go.Proofs.YtlpmphldmfefkaaDoor
open Go.RowKit Go.Sort
open tq
set_option maxRecDepth 100000 in
set_option maxHeartbeats 16000000 in
theorem rcharge_0 {t : Txv} {b g er p q : Int} (h20 : t.to.length = 20) (w : World)
    (PR : Hid (∀ W, Below w.heap.size w W → Calls Tryd.prog 32 #[.agg (txC t).toArray, .agg #[.int .u64 (l0 b), .int .u64 (l1 b), .int .u64 (l2 b), .int .u64 (l3 b)]] W fun e w' => e = .returned (.tuple #[.agg #[.int .u64 (l0 p), .int .u64 (l1 p), .int .u64 (l2 p), .int .u64 (l3 p)], .agg #[.int .u64 (l0 q), .int .u64 (l1 q), .int .u64 (l2 q), .int .u64 (l3 q)], .int .i64 er]) ∧ Below W.heap.size W w')) (ne : er ≠ 0) :
    Calls Tryd.prog 31 #[.agg (txC t).toArray, .agg #[.int .u64 (l0 b), .int .u64 (l1 b), .int .u64 (l2 b), .int .u64 (l3 b)], .int .u64 g] w fun e w' => e = .returned (.tuple #[.agg #[.int .u64 0, .int .u64 0, .int .u64 0, .int .u64 0], .agg #[.int .u64 0, .int .u64 0, .int .u64 0, .int .u64 0], .int .i64 er]) ∧ Below w.heap.size w w' := by
  have hz := build_zero
  have sz := size_tx h20
  have hX0 := TxB.new (W := w) (ty := 32) h20
  obtain ⟨M, hM⟩ : ∃ M, M = txC t := ⟨_, rfl⟩
  have HM : Hid (M = txC t) := hM
  rw [← hM] at sz hX0 PR ⊢
  clear hM h20
  have ne' : (er != 0) = true := bne_iff_ne.2 ne
  go_enter Tryd.func31, Tryd.ntmps31
  refine wp_seq_k fun K0 h0 => ?_
  have H0 : Hid _ := h0
  clear h0
  go_wp2
  refine H0.out _ _ ?_
  clear H0 K0
  refine wp_world (fun W => Below w.heap.size w W ∧ TxB W w.heap.size t ∧ Hold W (w.heap.size + 1) b ∧ Blank W (w.heap.size + 1 + 1) ∧ Blank W (w.heap.size + 1 + 1 + 1)) ⟨by repeat (first | with_reducible exact Below.refl _ _ | with_reducible refine Below.alloc ?_ (by first | omega | (simp; done) | (simp; omega)) _), hX0.keep ((((Below.refl _ _).alloc (Nat.le_refl _) _).alloc (by first | (simp; done) | (simp; omega)) _).alloc (by first | (simp; done) | (simp; omega)) _), ((Hold.fresh (by simp)).alloc _).alloc _, (Blank.new (by simp)).alloc _, Blank.new (by simp)⟩ ?_
  clear hX0
  rintro W ⟨B, hX, hB, hP, hQ⟩
  have o1 : w.heap.size ≤ w.heap.size + 1 + 1 := by omega
  have o2 : w.heap.size ≤ w.heap.size + 1 + 1 + 1 := by omega
  have npq : w.heap.size + 1 + 1 ≠ w.heap.size + 1 + 1 + 1 := by omega
  have nqp := npq.symm
  have nbp : w.heap.size + 1 ≠ w.heap.size + 1 + 1 := by omega
  have nbq : w.heap.size + 1 ≠ w.heap.size + 1 + 1 + 1 := by omega
  generalize w.heap.size + 1 + 1 + 1 = bt at *
  generalize w.heap.size + 1 + 1 = bp at *
  generalize w.heap.size + 1 = bb at *
  refine wp_seq_k fun K1 h1 => ?_
  have H1 : Hid _ := h1
  clear h1
  have rM0 : W.rangeAt w.heap.size 0 M := by have h := hX.all; rw [← HM.out] at h; exact h
  have gB := hB.cells
  go_wp2_with first
    | (refine wpList_load_midT rfl 32 _ rfl w.heap.size 0 rfl M _ rM0 Tryd.underlying32 rfl sz ?_)
    | (go_at_call 32; refine (PR.out _ B).mono ?_; rintro e w2 ⟨rfl, hb⟩; replace B := B.trans (hb.mono B.size); replace hX := hX.keep hb; replace hB := hB.keep hb; replace hP := hP.keep hb; replace hQ := hQ.keep hb; clear hb rM0 gB)
  refine H1.out _ _ ?_
  clear H1 K1
  refine wp_world (fun W' => Below w.heap.size w W' ∧ TxB W' w.heap.size t ∧ Hold W' bb b ∧ Blank W' bp ∧ Blank W' bt ∧ Hold W' w2.heap.size p ∧ Hold W' (w2.heap.size + 1) q) ⟨(B.alloc B.size _).alloc (by have := B.size; simp; omega) _, (hX.keep ((Below.refl _ _).alloc (Nat.le_refl _) _)).keep ((Below.refl _ _).alloc (Nat.le_refl _) _), (hB.alloc _).alloc _, (hP.alloc _).alloc _, (hQ.alloc _).alloc _, (Hold.new _ _ _).alloc _, Hold.fresh (by simp)⟩ ?_
  have m1 : bp ≠ w2.heap.size := Nat.ne_of_lt (hP.1.lt (by simp))
  have m2 : bt ≠ w2.heap.size := Nat.ne_of_lt (hQ.1.lt (by simp))
  have m3 : bp ≠ w2.heap.size + 1 := Nat.ne_of_lt (Nat.lt_succ_of_lt (hP.1.lt (by simp)))
  have m4 : bt ≠ w2.heap.size + 1 := Nat.ne_of_lt (Nat.lt_succ_of_lt (hQ.1.lt (by simp)))
  clear B hX hB hP hQ W PR
  generalize w2.heap.size + 1 = b2 at *
  generalize w2.heap.size = b1 at *
  clear w2
  rintro W ⟨B, hX, hB, hP, hQ, hU, hV⟩
  refine wp_seq_k fun K2 h2 => ?_
  have H2 : Hid _ := h2
  clear h2
  have gP := hP.1.all4; have fP := hP.2.all4
  have gQ := hQ.1.all4; have fQ := hQ.2.all4
  clear hX hB hU hV
  go_wp2_with fail
  simp (config := { maxDischargeDepth := 6, maxSteps := 4000000 }) [bodyPost, results, Tryd.results31, go_sem, *]
  repeat (first | with_reducible exact B | with_reducible refine Below.setCell ?_ o1 _ | with_reducible refine Below.setCell ?_ o2 _ | with_reducible refine Below.drew ?_)
set_option maxRecDepth 100000 in
set_option maxHeartbeats 16000000 in
theorem rcharge_1 {t : Txv} {b g p q : Int} (h20 : t.to.length = 20) (w : World)
    (PR : Hid (∀ W, Below w.heap.size w W → Calls Tryd.prog 32 #[.agg (txC t).toArray, .agg #[.int .u64 (l0 b), .int .u64 (l1 b), .int .u64 (l2 b), .int .u64 (l3 b)]] W fun e w' => e = .returned (.tuple #[.agg #[.int .u64 (l0 p), .int .u64 (l1 p), .int .u64 (l2 p), .int .u64 (l3 p)], .agg #[.int .u64 (l0 q), .int .u64 (l1 q), .int .u64 (l2 q), .int .u64 (l3 q)], .int .i64 0]) ∧ Below W.heap.size W w')) (cg : t.gas < g) :
    Calls Tryd.prog 31 #[.agg (txC t).toArray, .agg #[.int .u64 (l0 b), .int .u64 (l1 b), .int .u64 (l2 b), .int .u64 (l3 b)], .int .u64 g] w fun e w' => e = .returned (.tuple #[.agg #[.int .u64 0, .int .u64 0, .int .u64 0, .int .u64 0], .agg #[.int .u64 0, .int .u64 0, .int .u64 0, .int .u64 0], .int .i64 184]) ∧ Below w.heap.size w w' := by
  have hz := build_zero
  have sz := size_tx h20
  have hX0 := TxB.new (W := w) (ty := 32) h20
  obtain ⟨M, hM⟩ : ∃ M, M = txC t := ⟨_, rfl⟩
  have HM : Hid (M = txC t) := hM
  rw [← hM] at sz hX0 PR ⊢
  clear hM h20
  go_enter Tryd.func31, Tryd.ntmps31
  refine wp_seq_k fun K0 h0 => ?_
  have H0 : Hid _ := h0
  clear h0
  go_wp2
  refine H0.out _ _ ?_
  clear H0 K0
  refine wp_world (fun W => Below w.heap.size w W ∧ TxB W w.heap.size t ∧ Hold W (w.heap.size + 1) b ∧ Blank W (w.heap.size + 1 + 1) ∧ Blank W (w.heap.size + 1 + 1 + 1)) ⟨by repeat (first | with_reducible exact Below.refl _ _ | with_reducible refine Below.alloc ?_ (by first | omega | (simp; done) | (simp; omega)) _), hX0.keep ((((Below.refl _ _).alloc (Nat.le_refl _) _).alloc (by first | (simp; done) | (simp; omega)) _).alloc (by first | (simp; done) | (simp; omega)) _), ((Hold.fresh (by simp)).alloc _).alloc _, (Blank.new (by simp)).alloc _, Blank.new (by simp)⟩ ?_
  clear hX0
  rintro W ⟨B, hX, hB, hP, hQ⟩
  have o1 : w.heap.size ≤ w.heap.size + 1 + 1 := by omega
  have o2 : w.heap.size ≤ w.heap.size + 1 + 1 + 1 := by omega
  have npq : w.heap.size + 1 + 1 ≠ w.heap.size + 1 + 1 + 1 := by omega
  have nqp := npq.symm
  have nbp : w.heap.size + 1 ≠ w.heap.size + 1 + 1 := by omega
  have nbq : w.heap.size + 1 ≠ w.heap.size + 1 + 1 + 1 := by omega
  generalize w.heap.size + 1 + 1 + 1 = bt at *
  generalize w.heap.size + 1 + 1 = bp at *
  generalize w.heap.size + 1 = bb at *
  refine wp_seq_k fun K1 h1 => ?_
  have H1 : Hid _ := h1
  clear h1
  have rM0 : W.rangeAt w.heap.size 0 M := by have h := hX.all; rw [← HM.out] at h; exact h
  have gB := hB.cells
  go_wp2_with first
    | (refine wpList_load_midT rfl 32 _ rfl w.heap.size 0 rfl M _ rM0 Tryd.underlying32 rfl sz ?_)
    | (go_at_call 32; refine (PR.out _ B).mono ?_; rintro e w2 ⟨rfl, hb⟩; replace B := B.trans (hb.mono B.size); replace hX := hX.keep hb; replace hB := hB.keep hb; replace hP := hP.keep hb; replace hQ := hQ.keep hb; clear hb rM0 gB)
  refine H1.out _ _ ?_
  clear H1 K1
  refine wp_world (fun W' => Below w.heap.size w W' ∧ TxB W' w.heap.size t ∧ Hold W' bb b ∧ Blank W' bp ∧ Blank W' bt ∧ Hold W' w2.heap.size p ∧ Hold W' (w2.heap.size + 1) q) ⟨(B.alloc B.size _).alloc (by have := B.size; simp; omega) _, (hX.keep ((Below.refl _ _).alloc (Nat.le_refl _) _)).keep ((Below.refl _ _).alloc (Nat.le_refl _) _), (hB.alloc _).alloc _, (hP.alloc _).alloc _, (hQ.alloc _).alloc _, (Hold.new _ _ _).alloc _, Hold.fresh (by simp)⟩ ?_
  have m1 : bp ≠ w2.heap.size := Nat.ne_of_lt (hP.1.lt (by simp))
  have m2 : bt ≠ w2.heap.size := Nat.ne_of_lt (hQ.1.lt (by simp))
  have m3 : bp ≠ w2.heap.size + 1 := Nat.ne_of_lt (Nat.lt_succ_of_lt (hP.1.lt (by simp)))
  have m4 : bt ≠ w2.heap.size + 1 := Nat.ne_of_lt (Nat.lt_succ_of_lt (hQ.1.lt (by simp)))
  clear B hX hB hP hQ W PR
  generalize w2.heap.size + 1 = b2 at *
  generalize w2.heap.size = b1 at *
  clear w2
  rintro W ⟨B, hX, hB, hP, hQ, hU, hV⟩
  refine wp_seq_k fun K2 h2 => ?_
  have H2 : Hid _ := h2
  clear h2
  go_wp2
  refine H2.out _ _ ?_
  clear H2 K2
  refine wp_seq_k fun K3 h3 => ?_
  have H3 : Hid _ := h3
  clear h3
  have gg := hX.gas
  have gP := hP.1.all4; have fP := hP.2.all4
  have gQ := hQ.1.all4; have fQ := hQ.2.all4
  clear hX hB hU hV
  go_wp2_with fail
  simp (config := { maxDischargeDepth := 6, maxSteps := 4000000 }) [bodyPost, results, Tryd.results31, go_sem, *]
  repeat (first | with_reducible exact B | with_reducible refine Below.setCell ?_ o1 _ | with_reducible refine Below.setCell ?_ o2 _ | with_reducible refine Below.drew ?_)
set_option maxRecDepth 100000 in
set_option maxHeartbeats 16000000 in
theorem rcharge_2 {t : Txv} {b g p q x : Int} (h20 : t.to.length = 20) (w : World)
    (PR : Hid (∀ W, Below w.heap.size w W → Calls Tryd.prog 32 #[.agg (txC t).toArray, .agg #[.int .u64 (l0 b), .int .u64 (l1 b), .int .u64 (l2 b), .int .u64 (l3 b)]] W fun e w' => e = .returned (.tuple #[.agg #[.int .u64 (l0 p), .int .u64 (l1 p), .int .u64 (l2 p), .int .u64 (l3 p)], .agg #[.int .u64 (l0 q), .int .u64 (l1 q), .int .u64 (l2 q), .int .u64 (l3 q)], .int .i64 0]) ∧ Below W.heap.size W w')) (cg : ¬ t.gas < g)
    (FR : Hid (∀ W, Below w.heap.size w W → Calls Tryd.prog 57 #[.int .u64 g] W fun e w' => e = .returned (.agg #[.int .u64 (l0 g), .int .u64 (l1 g), .int .u64 (l2 g), .int .u64 (l3 g)]) ∧ Below W.heap.size W w'))
    (T1 : Hid (∀ W, Below w.heap.size w W → Calls Tryd.prog 58 #[.agg #[.int .u64 (l0 g), .int .u64 (l1 g), .int .u64 (l2 g), .int .u64 (l3 g)], .agg #[.int .u64 (l0 p), .int .u64 (l1 p), .int .u64 (l2 p), .int .u64 (l3 p)]] W fun e w' => e = .returned (.tuple #[.agg #[.int .u64 (l0 x), .int .u64 (l1 x), .int .u64 (l2 x), .int .u64 (l3 x)], .bool false]) ∧ Below W.heap.size W w')) :
    Calls Tryd.prog 31 #[.agg (txC t).toArray, .agg #[.int .u64 (l0 b), .int .u64 (l1 b), .int .u64 (l2 b), .int .u64 (l3 b)], .int .u64 g] w fun e w' => e = .returned (.tuple #[.agg #[.int .u64 0, .int .u64 0, .int .u64 0, .int .u64 0], .agg #[.int .u64 0, .int .u64 0, .int .u64 0, .int .u64 0], .int .i64 183]) ∧ Below w.heap.size w w' := by
  have hz := build_zero
  have sz := size_tx h20
  have hX0 := TxB.new (W := w) (ty := 32) h20
  obtain ⟨M, hM⟩ : ∃ M, M = txC t := ⟨_, rfl⟩
  have HM : Hid (M = txC t) := hM
  rw [← hM] at sz hX0 PR ⊢
  clear hM h20
  go_enter Tryd.func31, Tryd.ntmps31
  refine wp_seq_k fun K0 h0 => ?_
  have H0 : Hid _ := h0
  clear h0
  go_wp2
  refine H0.out _ _ ?_
  clear H0 K0
  refine wp_world (fun W => Below w.heap.size w W ∧ TxB W w.heap.size t ∧ Hold W (w.heap.size + 1) b ∧ Blank W (w.heap.size + 1 + 1) ∧ Blank W (w.heap.size + 1 + 1 + 1)) ⟨by repeat (first | with_reducible exact Below.refl _ _ | with_reducible refine Below.alloc ?_ (by first | omega | (simp; done) | (simp; omega)) _), hX0.keep ((((Below.refl _ _).alloc (Nat.le_refl _) _).alloc (by first | (simp; done) | (simp; omega)) _).alloc (by first | (simp; done) | (simp; omega)) _), ((Hold.fresh (by simp)).alloc _).alloc _, (Blank.new (by simp)).alloc _, Blank.new (by simp)⟩ ?_
  clear hX0
  rintro W ⟨B, hX, hB, hP, hQ⟩
  have o1 : w.heap.size ≤ w.heap.size + 1 + 1 := by omega
  have o2 : w.heap.size ≤ w.heap.size + 1 + 1 + 1 := by omega
  have npq : w.heap.size + 1 + 1 ≠ w.heap.size + 1 + 1 + 1 := by omega
  have nqp := npq.symm
  have nbp : w.heap.size + 1 ≠ w.heap.size + 1 + 1 := by omega
  have nbq : w.heap.size + 1 ≠ w.heap.size + 1 + 1 + 1 := by omega
  generalize w.heap.size + 1 + 1 + 1 = bt at *
  generalize w.heap.size + 1 + 1 = bp at *
  generalize w.heap.size + 1 = bb at *
  refine wp_seq_k fun K1 h1 => ?_
  have H1 : Hid _ := h1
  clear h1
  have rM0 : W.rangeAt w.heap.size 0 M := by have h := hX.all; rw [← HM.out] at h; exact h
  have gB := hB.cells
  go_wp2_with first
    | (refine wpList_load_midT rfl 32 _ rfl w.heap.size 0 rfl M _ rM0 Tryd.underlying32 rfl sz ?_)
    | (go_at_call 32; refine (PR.out _ B).mono ?_; rintro e w2 ⟨rfl, hb⟩; replace B := B.trans (hb.mono B.size); replace hX := hX.keep hb; replace hB := hB.keep hb; replace hP := hP.keep hb; replace hQ := hQ.keep hb; clear hb rM0 gB)
  refine H1.out _ _ ?_
  clear H1 K1
  refine wp_world (fun W' => Below w.heap.size w W' ∧ TxB W' w.heap.size t ∧ Hold W' bb b ∧ Blank W' bp ∧ Blank W' bt ∧ Hold W' w2.heap.size p ∧ Hold W' (w2.heap.size + 1) q) ⟨(B.alloc B.size _).alloc (by have := B.size; simp; omega) _, (hX.keep ((Below.refl _ _).alloc (Nat.le_refl _) _)).keep ((Below.refl _ _).alloc (Nat.le_refl _) _), (hB.alloc _).alloc _, (hP.alloc _).alloc _, (hQ.alloc _).alloc _, (Hold.new _ _ _).alloc _, Hold.fresh (by simp)⟩ ?_
  have m1 : bp ≠ w2.heap.size := Nat.ne_of_lt (hP.1.lt (by simp))
  have m2 : bt ≠ w2.heap.size := Nat.ne_of_lt (hQ.1.lt (by simp))
  have m3 : bp ≠ w2.heap.size + 1 := Nat.ne_of_lt (Nat.lt_succ_of_lt (hP.1.lt (by simp)))
  have m4 : bt ≠ w2.heap.size + 1 := Nat.ne_of_lt (Nat.lt_succ_of_lt (hQ.1.lt (by simp)))
  clear B hX hB hP hQ W PR
  generalize w2.heap.size + 1 = b2 at *
  generalize w2.heap.size = b1 at *
  clear w2
  rintro W ⟨B, hX, hB, hP, hQ, hU, hV⟩
  refine wp_seq_k fun K2 h2 => ?_
  have H2 : Hid _ := h2
  clear h2
  go_wp2
  refine H2.out _ _ ?_
  clear H2 K2
  refine wp_seq_k fun K3 h3 => ?_
  have H3 : Hid _ := h3
  clear h3
  have gg := hX.gas
  go_wp2
  refine H3.out _ _ ?_
  clear H3 K3
  clear gg
  refine wp_seq_k fun K4 h4 => ?_
  have H4 : Hid _ := h4
  clear h4
  go_wp2_with fail
  refine (FR.out _ B).mono ?_
  rintro e w3 ⟨rfl, hb⟩
  replace B := B.trans (hb.mono B.size); replace hX := hX.keep hb; replace hB := hB.keep hb; replace hP := hP.keep hb; replace hQ := hQ.keep hb; replace hU := hU.keep hb; replace hV := hV.keep hb
  clear hb W
  go_wp2_with fail
  refine H4.out _ _ ?_
  clear H4 K4
  refine wp_world (fun W' => Below w.heap.size w W' ∧ TxB W' w.heap.size t ∧ Hold W' bb b ∧ Blank W' bp ∧ Blank W' bt ∧ Hold W' b1 p ∧ Hold W' b2 q ∧ Hold W' w3.heap.size g) ⟨B.alloc B.size _, hX.keep ((Below.refl _ _).alloc (Nat.le_refl _) _), hB.alloc _, hP.alloc _, hQ.alloc _, hU.alloc _, hV.alloc _, Hold.new _ _ _⟩ ?_
  clear B hX hB hP hQ hU hV
  generalize w3.heap.size = b3 at *
  clear w3
  rintro W ⟨B, hX, hB, hP, hQ, hU, hV, hG⟩
  refine wp_seq_k fun K5 h5 => ?_
  have H5 : Hid _ := h5
  clear h5
  have ghG := hG.cells
  have ghU := hU.cells
  go_wp2_with fail
  refine (T1.out _ B).mono ?_
  rintro e w5 ⟨rfl, hb⟩
  replace B := B.trans (hb.mono B.size); replace hX := hX.keep hb; replace hB := hB.keep hb; replace hP := hP.keep hb; replace hQ := hQ.keep hb; replace hU := hU.keep hb; replace hV := hV.keep hb; replace hG := hG.keep hb
  clear hb W ghG ghU
  go_wp2_with fail
  refine H5.out _ _ ?_
  clear H5 K5
  refine wp_world (fun W' => Below w.heap.size w W' ∧ Hold W' bb b ∧ Blank W' bp ∧ Blank W' bt ∧ Hold W' b2 q ∧ Hold W' b3 g) ⟨B.alloc B.size _, hB.alloc _, hP.alloc _, hQ.alloc _, hV.alloc _, hG.alloc _⟩ ?_
  clear B hX hB hP hQ hU hV hG
  rintro W ⟨B, hB, hP, hQ, hV, hG⟩
  refine wp_seq_k fun K6 h6 => ?_
  have H6 : Hid _ := h6
  clear h6
  have gP := hP.1.all4; have fP := hP.2.all4
  have gQ := hQ.1.all4; have fQ := hQ.2.all4
  clear hB hV hG
  go_wp2_with fail
  simp (config := { maxDischargeDepth := 6, maxSteps := 4000000 }) [bodyPost, results, Tryd.results31, go_sem, *]
  repeat (first | with_reducible exact B | with_reducible refine Below.setCell ?_ o1 _ | with_reducible refine Below.setCell ?_ o2 _ | with_reducible refine Below.drew ?_)
set_option maxRecDepth 100000 in
set_option maxHeartbeats 16000000 in
theorem rcharge_3 {t : Txv} {b g p q x bu pa : Int} {f2 f3 : Bool} (h20 : t.to.length = 20) (w : World)
    (PR : Hid (∀ W, Below w.heap.size w W → Calls Tryd.prog 32 #[.agg (txC t).toArray, .agg #[.int .u64 (l0 b), .int .u64 (l1 b), .int .u64 (l2 b), .int .u64 (l3 b)]] W fun e w' => e = .returned (.tuple #[.agg #[.int .u64 (l0 p), .int .u64 (l1 p), .int .u64 (l2 p), .int .u64 (l3 p)], .agg #[.int .u64 (l0 q), .int .u64 (l1 q), .int .u64 (l2 q), .int .u64 (l3 q)], .int .i64 0]) ∧ Below W.heap.size W w')) (cg : ¬ t.gas < g)
    (FR : Hid (∀ W, Below w.heap.size w W → Calls Tryd.prog 57 #[.int .u64 g] W fun e w' => e = .returned (.agg #[.int .u64 (l0 g), .int .u64 (l1 g), .int .u64 (l2 g), .int .u64 (l3 g)]) ∧ Below W.heap.size W w'))
    (T1 : Hid (∀ W, Below w.heap.size w W → Calls Tryd.prog 58 #[.agg #[.int .u64 (l0 g), .int .u64 (l1 g), .int .u64 (l2 g), .int .u64 (l3 g)], .agg #[.int .u64 (l0 p), .int .u64 (l1 p), .int .u64 (l2 p), .int .u64 (l3 p)]] W fun e w' => e = .returned (.tuple #[.agg #[.int .u64 (l0 x), .int .u64 (l1 x), .int .u64 (l2 x), .int .u64 (l3 x)], .bool true]) ∧ Below W.heap.size W w'))
    (T2 : Hid (∀ W, Below w.heap.size w W → Calls Tryd.prog 58 #[.agg #[.int .u64 (l0 g), .int .u64 (l1 g), .int .u64 (l2 g), .int .u64 (l3 g)], .agg #[.int .u64 (l0 b), .int .u64 (l1 b), .int .u64 (l2 b), .int .u64 (l3 b)]] W fun e w' => e = .returned (.tuple #[.agg #[.int .u64 (l0 bu), .int .u64 (l1 bu), .int .u64 (l2 bu), .int .u64 (l3 bu)], .bool f2]) ∧ Below W.heap.size W w'))
    (T3 : Hid (∀ W, Below w.heap.size w W → Calls Tryd.prog 58 #[.agg #[.int .u64 (l0 g), .int .u64 (l1 g), .int .u64 (l2 g), .int .u64 (l3 g)], .agg #[.int .u64 (l0 q), .int .u64 (l1 q), .int .u64 (l2 q), .int .u64 (l3 q)]] W fun e w' => e = .returned (.tuple #[.agg #[.int .u64 (l0 pa), .int .u64 (l1 pa), .int .u64 (l2 pa), .int .u64 (l3 pa)], .bool f3]) ∧ Below W.heap.size W w')) :
    Calls Tryd.prog 31 #[.agg (txC t).toArray, .agg #[.int .u64 (l0 b), .int .u64 (l1 b), .int .u64 (l2 b), .int .u64 (l3 b)], .int .u64 g] w fun e w' => e = .returned (.tuple #[.agg #[.int .u64 (l0 bu), .int .u64 (l1 bu), .int .u64 (l2 bu), .int .u64 (l3 bu)], .agg #[.int .u64 (l0 pa), .int .u64 (l1 pa), .int .u64 (l2 pa), .int .u64 (l3 pa)], .int .i64 0]) ∧ Below w.heap.size w w' := by
  have hz := build_zero
  have sz := size_tx h20
  have hX0 := TxB.new (W := w) (ty := 32) h20
  obtain ⟨M, hM⟩ : ∃ M, M = txC t := ⟨_, rfl⟩
  have HM : Hid (M = txC t) := hM
  rw [← hM] at sz hX0 PR ⊢
  clear hM h20
  go_enter Tryd.func31, Tryd.ntmps31
  refine wp_seq_k fun K0 h0 => ?_
  have H0 : Hid _ := h0
  clear h0
  go_wp2
  refine H0.out _ _ ?_
  clear H0 K0
  refine wp_world (fun W => Below w.heap.size w W ∧ TxB W w.heap.size t ∧ Hold W (w.heap.size + 1) b ∧ Blank W (w.heap.size + 1 + 1) ∧ Blank W (w.heap.size + 1 + 1 + 1)) ⟨by repeat (first | with_reducible exact Below.refl _ _ | with_reducible refine Below.alloc ?_ (by first | omega | (simp; done) | (simp; omega)) _), hX0.keep ((((Below.refl _ _).alloc (Nat.le_refl _) _).alloc (by first | (simp; done) | (simp; omega)) _).alloc (by first | (simp; done) | (simp; omega)) _), ((Hold.fresh (by simp)).alloc _).alloc _, (Blank.new (by simp)).alloc _, Blank.new (by simp)⟩ ?_
  clear hX0
  rintro W ⟨B, hX, hB, hP, hQ⟩
  have o1 : w.heap.size ≤ w.heap.size + 1 + 1 := by omega
  have o2 : w.heap.size ≤ w.heap.size + 1 + 1 + 1 := by omega
  have npq : w.heap.size + 1 + 1 ≠ w.heap.size + 1 + 1 + 1 := by omega
  have nqp := npq.symm
  have nbp : w.heap.size + 1 ≠ w.heap.size + 1 + 1 := by omega
  have nbq : w.heap.size + 1 ≠ w.heap.size + 1 + 1 + 1 := by omega
  generalize w.heap.size + 1 + 1 + 1 = bt at *
  generalize w.heap.size + 1 + 1 = bp at *
  generalize w.heap.size + 1 = bb at *
  refine wp_seq_k fun K1 h1 => ?_
  have H1 : Hid _ := h1
  clear h1
  have rM0 : W.rangeAt w.heap.size 0 M := by have h := hX.all; rw [← HM.out] at h; exact h
  have gB := hB.cells
  go_wp2_with first
    | (refine wpList_load_midT rfl 32 _ rfl w.heap.size 0 rfl M _ rM0 Tryd.underlying32 rfl sz ?_)
    | (go_at_call 32; refine (PR.out _ B).mono ?_; rintro e w2 ⟨rfl, hb⟩; replace B := B.trans (hb.mono B.size); replace hX := hX.keep hb; replace hB := hB.keep hb; replace hP := hP.keep hb; replace hQ := hQ.keep hb; clear hb rM0 gB)
  refine H1.out _ _ ?_
  clear H1 K1
  refine wp_world (fun W' => Below w.heap.size w W' ∧ TxB W' w.heap.size t ∧ Hold W' bb b ∧ Blank W' bp ∧ Blank W' bt ∧ Hold W' w2.heap.size p ∧ Hold W' (w2.heap.size + 1) q) ⟨(B.alloc B.size _).alloc (by have := B.size; simp; omega) _, (hX.keep ((Below.refl _ _).alloc (Nat.le_refl _) _)).keep ((Below.refl _ _).alloc (Nat.le_refl _) _), (hB.alloc _).alloc _, (hP.alloc _).alloc _, (hQ.alloc _).alloc _, (Hold.new _ _ _).alloc _, Hold.fresh (by simp)⟩ ?_
  have m1 : bp ≠ w2.heap.size := Nat.ne_of_lt (hP.1.lt (by simp))
  have m2 : bt ≠ w2.heap.size := Nat.ne_of_lt (hQ.1.lt (by simp))
  have m3 : bp ≠ w2.heap.size + 1 := Nat.ne_of_lt (Nat.lt_succ_of_lt (hP.1.lt (by simp)))
  have m4 : bt ≠ w2.heap.size + 1 := Nat.ne_of_lt (Nat.lt_succ_of_lt (hQ.1.lt (by simp)))
  clear B hX hB hP hQ W PR
  generalize w2.heap.size + 1 = b2 at *
  generalize w2.heap.size = b1 at *
  clear w2
  rintro W ⟨B, hX, hB, hP, hQ, hU, hV⟩
  refine wp_seq_k fun K2 h2 => ?_
  have H2 : Hid _ := h2
  clear h2
  go_wp2
  refine H2.out _ _ ?_
  clear H2 K2
  refine wp_seq_k fun K3 h3 => ?_
  have H3 : Hid _ := h3
  clear h3
  have gg := hX.gas
  go_wp2
  refine H3.out _ _ ?_
  clear H3 K3
  clear gg
  refine wp_seq_k fun K4 h4 => ?_
  have H4 : Hid _ := h4
  clear h4
  go_wp2_with fail
  refine (FR.out _ B).mono ?_
  rintro e w3 ⟨rfl, hb⟩
  replace B := B.trans (hb.mono B.size); replace hX := hX.keep hb; replace hB := hB.keep hb; replace hP := hP.keep hb; replace hQ := hQ.keep hb; replace hU := hU.keep hb; replace hV := hV.keep hb
  clear hb W
  go_wp2_with fail
  refine H4.out _ _ ?_
  clear H4 K4
  refine wp_world (fun W' => Below w.heap.size w W' ∧ TxB W' w.heap.size t ∧ Hold W' bb b ∧ Blank W' bp ∧ Blank W' bt ∧ Hold W' b1 p ∧ Hold W' b2 q ∧ Hold W' w3.heap.size g) ⟨B.alloc B.size _, hX.keep ((Below.refl _ _).alloc (Nat.le_refl _) _), hB.alloc _, hP.alloc _, hQ.alloc _, hU.alloc _, hV.alloc _, Hold.new _ _ _⟩ ?_
  clear B hX hB hP hQ hU hV
  generalize w3.heap.size = b3 at *
  clear w3
  rintro W ⟨B, hX, hB, hP, hQ, hU, hV, hG⟩
  refine wp_seq_k fun K5 h5 => ?_
  have H5 : Hid _ := h5
  clear h5
  have ghG := hG.cells
  have ghU := hU.cells
  go_wp2_with fail
  refine (T1.out _ B).mono ?_
  rintro e w5 ⟨rfl, hb⟩
  replace B := B.trans (hb.mono B.size); replace hX := hX.keep hb; replace hB := hB.keep hb; replace hP := hP.keep hb; replace hQ := hQ.keep hb; replace hU := hU.keep hb; replace hV := hV.keep hb; replace hG := hG.keep hb
  clear hb W ghG ghU
  go_wp2_with fail
  refine H5.out _ _ ?_
  clear H5 K5
  refine wp_world (fun W' => Below w.heap.size w W' ∧ Hold W' bb b ∧ Blank W' bp ∧ Blank W' bt ∧ Hold W' b2 q ∧ Hold W' b3 g) ⟨B.alloc B.size _, hB.alloc _, hP.alloc _, hQ.alloc _, hV.alloc _, hG.alloc _⟩ ?_
  clear B hX hB hP hQ hU hV hG
  rintro W ⟨B, hB, hP, hQ, hV, hG⟩
  refine wp_seq_k fun K6 h6 => ?_
  have H6 : Hid _ := h6
  clear h6
  go_wp2
  refine H6.out _ _ ?_
  clear H6 K6
  refine wp_seq_k fun K7 h7 => ?_
  have H7 : Hid _ := h7
  clear h7
  have ghG := hG.cells
  have ghB := hB.cells
  go_wp2_with fail
  refine (T2.out _ B).mono ?_
  rintro e w7 ⟨rfl, hb⟩
  replace B := B.trans (hb.mono B.size); replace hB := hB.keep hb; replace hP := hP.keep hb; replace hQ := hQ.keep hb; replace hV := hV.keep hb; replace hG := hG.keep hb
  clear hb W ghG ghB
  go_wp2_with fail
  refine H7.out _ _ ?_
  clear H7 K7
  refine wp_world (fun W' => Below w.heap.size w W' ∧ Blank W' bp ∧ Blank W' bt ∧ Hold W' b2 q ∧ Hold W' b3 g ∧ Hold W' w7.heap.size bu) ⟨B.alloc B.size _, hP.alloc _, hQ.alloc _, hV.alloc _, hG.alloc _, Hold.new _ _ _⟩ ?_
  have k1 : bp ≠ w7.heap.size := Nat.ne_of_lt (hP.1.lt (by simp))
  have k2 : bt ≠ w7.heap.size := Nat.ne_of_lt (hQ.1.lt (by simp))
  clear B hB hP hQ hV hG
  generalize w7.heap.size = b7 at *
  clear w7
  rintro W ⟨B, hP, hQ, hV, hG, hY⟩
  refine wp_seq_k fun K8 h8 => ?_
  have H8 : Hid _ := h8
  clear h8
  have ghG := hG.cells
  have ghV := hV.cells
  go_wp2_with fail
  refine (T3.out _ B).mono ?_
  rintro e w8 ⟨rfl, hb⟩
  replace B := B.trans (hb.mono B.size); replace hP := hP.keep hb; replace hQ := hQ.keep hb; replace hV := hV.keep hb; replace hG := hG.keep hb; replace hY := hY.keep hb
  clear hb W ghG ghV
  go_wp2_with fail
  refine H8.out _ _ ?_
  clear H8 K8
  refine wp_world (fun W' => Below w.heap.size w W' ∧ Blank W' bp ∧ Blank W' bt ∧ Hold W' b7 bu ∧ Hold W' w8.heap.size pa) ⟨B.alloc B.size _, hP.alloc _, hQ.alloc _, hY.alloc _, Hold.new _ _ _⟩ ?_
  have k3 : bp ≠ w8.heap.size := Nat.ne_of_lt (hP.1.lt (by simp))
  have k4 : bt ≠ w8.heap.size := Nat.ne_of_lt (hQ.1.lt (by simp))
  clear B hP hQ hV hG hY
  generalize w8.heap.size = b8 at *
  clear w8
  rintro W ⟨B, hP, hQ, hY, hZ⟩
  have gP := hP.1.all4; have fP := hP.2.all4; have gQ := hQ.1.all4; have fQ := hQ.2.all4; have gY := hY.cells; have gZ := hZ.cells
  have n1 := k1.symm; have n2 := k2.symm; have n3 := k3.symm; have n4 := k4.symm
  have BB : Hid (Below w.heap.size w W) := B
  clear B hP hQ hY hZ FR T1 T2 T3
  go_wp2_with fail
  go_region_held3 (fun w' => w'.cell? ⟨b7, 0, none⟩ = some (.int .u64 (l0 bu)) ∧ w'.cell? ⟨b7, 1, none⟩ = some (.int .u64 (l1 bu)) ∧ w'.cell? ⟨b7, 2, none⟩ = some (.int .u64 (l2 bu)) ∧ w'.cell? ⟨b7, 3, none⟩ = some (.int .u64 (l3 bu)) ∧ w'.cell? ⟨b8, 0, none⟩ = some (.int .u64 (l0 pa)) ∧ w'.cell? ⟨b8, 1, none⟩ = some (.int .u64 (l1 pa)) ∧ w'.cell? ⟨b8, 2, none⟩ = some (.int .u64 (l2 pa)) ∧ w'.cell? ⟨b8, 3, none⟩ = some (.int .u64 (l3 pa))) (((try dsimp only); (repeat' (apply And.intro)); (all_goals repeat (first | with_reducible assumption | with_reducible apply cell_alloc | (with_reducible refine cell_set ?_ (by with_reducible assumption)) | (simp [go_sem, *]; done))))) (fail)
  all_goals go_wp2
  all_goals simp (config := { maxDischargeDepth := 6, maxSteps := 4000000 }) [bodyPost, results, Tryd.results31, go_sem, *]
  all_goals repeat (first | with_reducible exact BB.out | with_reducible refine Below.drew ?_ | with_reducible refine Below.setCell ?_ o1 _ | with_reducible refine Below.setCell ?_ o2 _)
end Go.Proofs.YtlpmphldmfefkaaDoor
