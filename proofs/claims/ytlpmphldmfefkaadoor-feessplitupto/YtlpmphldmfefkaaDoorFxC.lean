import Derived.Test.YtlpmphldmfefkaaDoorFxP
/- Layer 18: Charge of the program. -/
namespace Go.Proofs.YtlpmphldmfefkaaDoor
open Go.RowKit Go.Sort
open tq
theorem var_far {W : World} {b b' : Nat} {n : Int} (h : Var W b n) (ne : b' ≠ b) (v0 v1 v2 v3 : Value) : Hold ((((W.setCell ⟨b', 0, none⟩ v0).setCell ⟨b', 1, none⟩ v1).setCell ⟨b', 2, none⟩ v2).setCell ⟨b', 3, none⟩ v3) b n ∧ Loose ((((W.setCell ⟨b', 0, none⟩ v0).setCell ⟨b', 1, none⟩ v1).setCell ⟨b', 2, none⟩ v2).setCell ⟨b', 3, none⟩ v3) b 4 := ⟨h.1.set4 ne _ _ _ _, (((h.2.set _ _).set _ _).set _ _).set _ _⟩
set_option maxRecDepth 100000 in
set_option maxHeartbeats 16000000 in
theorem charge_0 {t : Txv} {b g er p q : Int} (h20 : t.to.length = 20) (w : World)
    (PR : Hid (∀ W, Below w.heap.size w W → Calls Tryd.prog 14 #[.agg (txC t).toArray, .agg #[.int .u64 (l0 b), .int .u64 (l1 b), .int .u64 (l2 b), .int .u64 (l3 b)]] W fun e w' => e = .returned (.tuple #[.agg #[.int .u64 (l0 p), .int .u64 (l1 p), .int .u64 (l2 p), .int .u64 (l3 p)], .agg #[.int .u64 (l0 q), .int .u64 (l1 q), .int .u64 (l2 q), .int .u64 (l3 q)], .int .i64 er]) ∧ Below W.heap.size W w')) (ne : er ≠ 0) :
    Calls Tryd.prog 15 #[.agg (txC t).toArray, .agg #[.int .u64 (l0 b), .int .u64 (l1 b), .int .u64 (l2 b), .int .u64 (l3 b)], .int .u64 g] w fun e w' => e = .returned (.tuple #[.agg #[.int .u64 0, .int .u64 0, .int .u64 0, .int .u64 0], .agg #[.int .u64 0, .int .u64 0, .int .u64 0, .int .u64 0], .int .i64 er]) ∧ Below w.heap.size w w' := by
  have hz := build_zero
  have sz := size_tx h20
  have hX0 := TxB.new (W := w) (ty := 32) h20
  obtain ⟨M, hM⟩ : ∃ M, M = txC t := ⟨_, rfl⟩
  have HM : Hid (M = txC t) := hM
  rw [← hM] at sz hX0 PR ⊢
  clear hM h20
  have ne' : (er != 0) = true := bne_iff_ne.2 ne
  go_enter Tryd.func15, Tryd.ntmps15
  refine wp_seq_k fun K0 h0 => ?_
  have H0 : Hid _ := h0
  clear h0
  go_wp2
  refine H0.out _ _ ?_
  clear H0 K0
  refine wp_world (fun W => Below w.heap.size w W ∧ TxB W w.heap.size t ∧ Hold W (w.heap.size + 1) b ∧ Blank W (w.heap.size + 1 + 1) ∧ Blank W (w.heap.size + 1 + 1 + 1)) ⟨by repeat (first | with_reducible exact Below.refl _ _ | with_reducible refine Below.alloc ?_ (by first | omega | (simp; done) | (simp; omega)) _), hX0.keep ((((Below.refl _ _).alloc (Nat.le_refl _) _).alloc (by first | (simp; done) | (simp; omega)) _).alloc (by first | (simp; done) | (simp; omega)) _), ((Hold.fresh (by simp)).alloc _).alloc _, (Blank.new (by simp)).alloc _, Blank.new (by simp)⟩ ?_
  clear hX0
  rintro W ⟨B, hX, hB, hP, hQ⟩
  have o1 : w.heap.size ≤ w.heap.size + 1 + 1 := by omega
  have o2 : w.heap.size ≤ w.heap.size + 1 + 1 + 1 := by omega
  have npq : w.heap.size + 1 + 1 ≠ w.heap.size + 1 + 1 + 1 := by omega
  have nqp := npq.symm
  have nbp : w.heap.size + 1 ≠ w.heap.size + 1 + 1 := by omega
  have nbq : w.heap.size + 1 ≠ w.heap.size + 1 + 1 + 1 := by omega
  generalize w.heap.size + 1 + 1 + 1 = bt at *
  generalize w.heap.size + 1 + 1 = bp at *
  generalize w.heap.size + 1 = bb at *
  refine wp_seq_k fun K1 h1 => ?_
  have H1 : Hid _ := h1
  clear h1
  have rM0 : W.rangeAt w.heap.size 0 M := by have h := hX.all; rw [← HM.out] at h; exact h
  have gB := hB.cells
  go_wp2_with first
    | (refine wpList_load_midT rfl 32 _ rfl w.heap.size 0 rfl M _ rM0 Tryd.underlying32 rfl sz ?_)
    | (go_at_call 14; refine (PR.out _ B).mono ?_; rintro e w2 ⟨rfl, hb⟩; replace B := B.trans (hb.mono B.size); replace hX := hX.keep hb; replace hB := hB.keep hb; replace hP := hP.keep hb; replace hQ := hQ.keep hb; clear hb rM0 gB)
  refine H1.out _ _ ?_
  clear H1 K1
  refine wp_world (fun W' => Below w.heap.size w W' ∧ TxB W' w.heap.size t ∧ Hold W' bb b ∧ Blank W' bp ∧ Blank W' bt ∧ Hold W' w2.heap.size p ∧ Hold W' (w2.heap.size + 1) q) ⟨(B.alloc B.size _).alloc (by have := B.size; simp; omega) _, (hX.keep ((Below.refl _ _).alloc (Nat.le_refl _) _)).keep ((Below.refl _ _).alloc (Nat.le_refl _) _), (hB.alloc _).alloc _, (hP.alloc _).alloc _, (hQ.alloc _).alloc _, (Hold.new _ _ _).alloc _, Hold.fresh (by simp)⟩ ?_
  have m1 : bp ≠ w2.heap.size := Nat.ne_of_lt (hP.1.lt (by simp))
  have m2 : bt ≠ w2.heap.size := Nat.ne_of_lt (hQ.1.lt (by simp))
  have m3 : bp ≠ w2.heap.size + 1 := Nat.ne_of_lt (Nat.lt_succ_of_lt (hP.1.lt (by simp)))
  have m4 : bt ≠ w2.heap.size + 1 := Nat.ne_of_lt (Nat.lt_succ_of_lt (hQ.1.lt (by simp)))
  clear B hX hB hP hQ W PR
  generalize w2.heap.size + 1 = b2 at *
  generalize w2.heap.size = b1 at *
  clear w2
  rintro W ⟨B, hX, hB, hP, hQ, hU, hV⟩
  refine wp_seq_k fun K2 h2 => ?_
  have H2 : Hid _ := h2
  clear h2
  have gP := hP.1.all4; have fP := hP.2.all4
  have gQ := hQ.1.all4; have fQ := hQ.2.all4
  clear hX hB hU hV
  go_wp2_with fail
  simp (config := { maxDischargeDepth := 6, maxSteps := 4000000 }) [bodyPost, results, Tryd.results15, go_sem, *]
  repeat (first | with_reducible exact B | with_reducible refine Below.setCell ?_ o1 _ | with_reducible refine Below.setCell ?_ o2 _ | with_reducible refine Below.drew ?_)
set_option maxRecDepth 100000 in
set_option maxHeartbeats 16000000 in
theorem charge_1 {t : Txv} {b g p q : Int} (h20 : t.to.length = 20) (w : World)
    (PR : Hid (∀ W, Below w.heap.size w W → Calls Tryd.prog 14 #[.agg (txC t).toArray, .agg #[.int .u64 (l0 b), .int .u64 (l1 b), .int .u64 (l2 b), .int .u64 (l3 b)]] W fun e w' => e = .returned (.tuple #[.agg #[.int .u64 (l0 p), .int .u64 (l1 p), .int .u64 (l2 p), .int .u64 (l3 p)], .agg #[.int .u64 (l0 q), .int .u64 (l1 q), .int .u64 (l2 q), .int .u64 (l3 q)], .int .i64 0]) ∧ Below W.heap.size W w')) (cg : t.gas < g) :
    Calls Tryd.prog 15 #[.agg (txC t).toArray, .agg #[.int .u64 (l0 b), .int .u64 (l1 b), .int .u64 (l2 b), .int .u64 (l3 b)], .int .u64 g] w fun e w' => e = .returned (.tuple #[.agg #[.int .u64 0, .int .u64 0, .int .u64 0, .int .u64 0], .agg #[.int .u64 0, .int .u64 0, .int .u64 0, .int .u64 0], .int .i64 184]) ∧ Below w.heap.size w w' := by
  have hz := build_zero
  have sz := size_tx h20
  have hX0 := TxB.new (W := w) (ty := 32) h20
  obtain ⟨M, hM⟩ : ∃ M, M = txC t := ⟨_, rfl⟩
  have HM : Hid (M = txC t) := hM
  rw [← hM] at sz hX0 PR ⊢
  clear hM h20
  go_enter Tryd.func15, Tryd.ntmps15
  refine wp_seq_k fun K0 h0 => ?_
  have H0 : Hid _ := h0
  clear h0
  go_wp2
  refine H0.out _ _ ?_
  clear H0 K0
  refine wp_world (fun W => Below w.heap.size w W ∧ TxB W w.heap.size t ∧ Hold W (w.heap.size + 1) b ∧ Blank W (w.heap.size + 1 + 1) ∧ Blank W (w.heap.size + 1 + 1 + 1)) ⟨by repeat (first | with_reducible exact Below.refl _ _ | with_reducible refine Below.alloc ?_ (by first | omega | (simp; done) | (simp; omega)) _), hX0.keep ((((Below.refl _ _).alloc (Nat.le_refl _) _).alloc (by first | (simp; done) | (simp; omega)) _).alloc (by first | (simp; done) | (simp; omega)) _), ((Hold.fresh (by simp)).alloc _).alloc _, (Blank.new (by simp)).alloc _, Blank.new (by simp)⟩ ?_
  clear hX0
  rintro W ⟨B, hX, hB, hP, hQ⟩
  have o1 : w.heap.size ≤ w.heap.size + 1 + 1 := by omega
  have o2 : w.heap.size ≤ w.heap.size + 1 + 1 + 1 := by omega
  have npq : w.heap.size + 1 + 1 ≠ w.heap.size + 1 + 1 + 1 := by omega
  have nqp := npq.symm
  have nbp : w.heap.size + 1 ≠ w.heap.size + 1 + 1 := by omega
  have nbq : w.heap.size + 1 ≠ w.heap.size + 1 + 1 + 1 := by omega
  generalize w.heap.size + 1 + 1 + 1 = bt at *
  generalize w.heap.size + 1 + 1 = bp at *
  generalize w.heap.size + 1 = bb at *
  refine wp_seq_k fun K1 h1 => ?_
  have H1 : Hid _ := h1
  clear h1
  have rM0 : W.rangeAt w.heap.size 0 M := by have h := hX.all; rw [← HM.out] at h; exact h
  have gB := hB.cells
  go_wp2_with first
    | (refine wpList_load_midT rfl 32 _ rfl w.heap.size 0 rfl M _ rM0 Tryd.underlying32 rfl sz ?_)
    | (go_at_call 14; refine (PR.out _ B).mono ?_; rintro e w2 ⟨rfl, hb⟩; replace B := B.trans (hb.mono B.size); replace hX := hX.keep hb; replace hB := hB.keep hb; replace hP := hP.keep hb; replace hQ := hQ.keep hb; clear hb rM0 gB)
  refine H1.out _ _ ?_
  clear H1 K1
  refine wp_world (fun W' => Below w.heap.size w W' ∧ TxB W' w.heap.size t ∧ Hold W' bb b ∧ Blank W' bp ∧ Blank W' bt ∧ Hold W' w2.heap.size p ∧ Hold W' (w2.heap.size + 1) q) ⟨(B.alloc B.size _).alloc (by have := B.size; simp; omega) _, (hX.keep ((Below.refl _ _).alloc (Nat.le_refl _) _)).keep ((Below.refl _ _).alloc (Nat.le_refl _) _), (hB.alloc _).alloc _, (hP.alloc _).alloc _, (hQ.alloc _).alloc _, (Hold.new _ _ _).alloc _, Hold.fresh (by simp)⟩ ?_
  have m1 : bp ≠ w2.heap.size := Nat.ne_of_lt (hP.1.lt (by simp))
  have m2 : bt ≠ w2.heap.size := Nat.ne_of_lt (hQ.1.lt (by simp))
  have m3 : bp ≠ w2.heap.size + 1 := Nat.ne_of_lt (Nat.lt_succ_of_lt (hP.1.lt (by simp)))
  have m4 : bt ≠ w2.heap.size + 1 := Nat.ne_of_lt (Nat.lt_succ_of_lt (hQ.1.lt (by simp)))
  clear B hX hB hP hQ W PR
  generalize w2.heap.size + 1 = b2 at *
  generalize w2.heap.size = b1 at *
  clear w2
  rintro W ⟨B, hX, hB, hP, hQ, hU, hV⟩
  refine wp_seq_k fun K2 h2 => ?_
  have H2 : Hid _ := h2
  clear h2
  go_wp2
  refine H2.out _ _ ?_
  clear H2 K2
  refine wp_seq_k fun K3 h3 => ?_
  have H3 : Hid _ := h3
  clear h3
  have gg := hX.gas
  have gP := hP.1.all4; have fP := hP.2.all4
  have gQ := hQ.1.all4; have fQ := hQ.2.all4
  clear hX hB hU hV
  go_wp2_with fail
  simp (config := { maxDischargeDepth := 6, maxSteps := 4000000 }) [bodyPost, results, Tryd.results15, go_sem, *]
  repeat (first | with_reducible exact B | with_reducible refine Below.setCell ?_ o1 _ | with_reducible refine Below.setCell ?_ o2 _ | with_reducible refine Below.drew ?_)
set_option maxRecDepth 100000 in
set_option maxHeartbeats 16000000 in
theorem charge_2 {t : Txv} {b g p q x e1 : Int} (h20 : t.to.length = 20) (w : World)
    (PR : Hid (∀ W, Below w.heap.size w W → Calls Tryd.prog 14 #[.agg (txC t).toArray, .agg #[.int .u64 (l0 b), .int .u64 (l1 b), .int .u64 (l2 b), .int .u64 (l3 b)]] W fun e w' => e = .returned (.tuple #[.agg #[.int .u64 (l0 p), .int .u64 (l1 p), .int .u64 (l2 p), .int .u64 (l3 p)], .agg #[.int .u64 (l0 q), .int .u64 (l1 q), .int .u64 (l2 q), .int .u64 (l3 q)], .int .i64 0]) ∧ Below W.heap.size W w')) (cg : ¬ t.gas < g)
    (T1 : Hid (∀ W, Below w.heap.size w W → Calls Tryd.prog 44 #[.int .u64 g, .agg #[.int .u64 (l0 p), .int .u64 (l1 p), .int .u64 (l2 p), .int .u64 (l3 p)]] W fun e w' => e = .returned (.tuple #[.agg #[.int .u64 (l0 x), .int .u64 (l1 x), .int .u64 (l2 x), .int .u64 (l3 x)], .int .i64 e1]) ∧ Below W.heap.size W w')) (ne : e1 ≠ 0) :
    Calls Tryd.prog 15 #[.agg (txC t).toArray, .agg #[.int .u64 (l0 b), .int .u64 (l1 b), .int .u64 (l2 b), .int .u64 (l3 b)], .int .u64 g] w fun e w' => e = .returned (.tuple #[.agg #[.int .u64 0, .int .u64 0, .int .u64 0, .int .u64 0], .agg #[.int .u64 0, .int .u64 0, .int .u64 0, .int .u64 0], .int .i64 e1]) ∧ Below w.heap.size w w' := by
  have hz := build_zero
  have sz := size_tx h20
  have hX0 := TxB.new (W := w) (ty := 32) h20
  obtain ⟨M, hM⟩ : ∃ M, M = txC t := ⟨_, rfl⟩
  have HM : Hid (M = txC t) := hM
  rw [← hM] at sz hX0 PR ⊢
  clear hM h20
  have ne' : (e1 != 0) = true := bne_iff_ne.2 ne
  go_enter Tryd.func15, Tryd.ntmps15
  refine wp_seq_k fun K0 h0 => ?_
  have H0 : Hid _ := h0
  clear h0
  go_wp2
  refine H0.out _ _ ?_
  clear H0 K0
  refine wp_world (fun W => Below w.heap.size w W ∧ TxB W w.heap.size t ∧ Hold W (w.heap.size + 1) b ∧ Blank W (w.heap.size + 1 + 1) ∧ Blank W (w.heap.size + 1 + 1 + 1)) ⟨by repeat (first | with_reducible exact Below.refl _ _ | with_reducible refine Below.alloc ?_ (by first | omega | (simp; done) | (simp; omega)) _), hX0.keep ((((Below.refl _ _).alloc (Nat.le_refl _) _).alloc (by first | (simp; done) | (simp; omega)) _).alloc (by first | (simp; done) | (simp; omega)) _), ((Hold.fresh (by simp)).alloc _).alloc _, (Blank.new (by simp)).alloc _, Blank.new (by simp)⟩ ?_
  clear hX0
  rintro W ⟨B, hX, hB, hP, hQ⟩
  have o1 : w.heap.size ≤ w.heap.size + 1 + 1 := by omega
  have o2 : w.heap.size ≤ w.heap.size + 1 + 1 + 1 := by omega
  have npq : w.heap.size + 1 + 1 ≠ w.heap.size + 1 + 1 + 1 := by omega
  have nqp := npq.symm
  have nbp : w.heap.size + 1 ≠ w.heap.size + 1 + 1 := by omega
  have nbq : w.heap.size + 1 ≠ w.heap.size + 1 + 1 + 1 := by omega
  generalize w.heap.size + 1 + 1 + 1 = bt at *
  generalize w.heap.size + 1 + 1 = bp at *
  generalize w.heap.size + 1 = bb at *
  refine wp_seq_k fun K1 h1 => ?_
  have H1 : Hid _ := h1
  clear h1
  have rM0 : W.rangeAt w.heap.size 0 M := by have h := hX.all; rw [← HM.out] at h; exact h
  have gB := hB.cells
  go_wp2_with first
    | (refine wpList_load_midT rfl 32 _ rfl w.heap.size 0 rfl M _ rM0 Tryd.underlying32 rfl sz ?_)
    | (go_at_call 14; refine (PR.out _ B).mono ?_; rintro e w2 ⟨rfl, hb⟩; replace B := B.trans (hb.mono B.size); replace hX := hX.keep hb; replace hB := hB.keep hb; replace hP := hP.keep hb; replace hQ := hQ.keep hb; clear hb rM0 gB)
  refine H1.out _ _ ?_
  clear H1 K1
  refine wp_world (fun W' => Below w.heap.size w W' ∧ TxB W' w.heap.size t ∧ Hold W' bb b ∧ Blank W' bp ∧ Blank W' bt ∧ Hold W' w2.heap.size p ∧ Hold W' (w2.heap.size + 1) q) ⟨(B.alloc B.size _).alloc (by have := B.size; simp; omega) _, (hX.keep ((Below.refl _ _).alloc (Nat.le_refl _) _)).keep ((Below.refl _ _).alloc (Nat.le_refl _) _), (hB.alloc _).alloc _, (hP.alloc _).alloc _, (hQ.alloc _).alloc _, (Hold.new _ _ _).alloc _, Hold.fresh (by simp)⟩ ?_
  have m1 : bp ≠ w2.heap.size := Nat.ne_of_lt (hP.1.lt (by simp))
  have m2 : bt ≠ w2.heap.size := Nat.ne_of_lt (hQ.1.lt (by simp))
  have m3 : bp ≠ w2.heap.size + 1 := Nat.ne_of_lt (Nat.lt_succ_of_lt (hP.1.lt (by simp)))
  have m4 : bt ≠ w2.heap.size + 1 := Nat.ne_of_lt (Nat.lt_succ_of_lt (hQ.1.lt (by simp)))
  clear B hX hB hP hQ W PR
  generalize w2.heap.size + 1 = b2 at *
  generalize w2.heap.size = b1 at *
  clear w2
  rintro W ⟨B, hX, hB, hP, hQ, hU, hV⟩
  refine wp_seq_k fun K2 h2 => ?_
  have H2 : Hid _ := h2
  clear h2
  go_wp2
  refine H2.out _ _ ?_
  clear H2 K2
  refine wp_seq_k fun K3 h3 => ?_
  have H3 : Hid _ := h3
  clear h3
  have gg := hX.gas
  go_wp2
  refine H3.out _ _ ?_
  clear H3 K3
  clear gg
  refine wp_seq_k fun K4 h4 => ?_
  have H4 : Hid _ := h4
  clear h4
  have ghU := hU.cells
  go_wp2_with fail
  refine (T1.out _ B).mono ?_
  rintro e w4 ⟨rfl, hb⟩
  replace B := B.trans (hb.mono B.size); replace hX := hX.keep hb; replace hB := hB.keep hb; replace hP := hP.keep hb; replace hQ := hQ.keep hb; replace hU := hU.keep hb; replace hV := hV.keep hb
  clear hb W ghU
  have gP := fun o => (hP.alloc o).1.all4; have fP := fun o => (hP.alloc o).2.all4
  have gQ := fun o => (hQ.alloc o).1.all4; have fQ := fun o => (hQ.alloc o).2.all4
  clear hX hB hU hV
  go_wp2
  simp (config := { maxDischargeDepth := 6, maxSteps := 4000000 }) [bodyPost, results, Tryd.results15, go_sem, *]
  repeat (first | with_reducible exact B | with_reducible refine Below.setCell ?_ o1 _ | with_reducible refine Below.setCell ?_ o2 _ | with_reducible refine Below.drew ?_ | with_reducible refine Below.alloc ?_ (by first | exact B.size | omega | (simp; done) | (simp; omega)) _)
set_option maxRecDepth 100000 in
set_option maxHeartbeats 16000000 in
theorem charge_3 {t : Txv} {b g p q x bu pa f2 f3 : Int} (h20 : t.to.length = 20) (w : World)
    (PR : Hid (∀ W, Below w.heap.size w W → Calls Tryd.prog 14 #[.agg (txC t).toArray, .agg #[.int .u64 (l0 b), .int .u64 (l1 b), .int .u64 (l2 b), .int .u64 (l3 b)]] W fun e w' => e = .returned (.tuple #[.agg #[.int .u64 (l0 p), .int .u64 (l1 p), .int .u64 (l2 p), .int .u64 (l3 p)], .agg #[.int .u64 (l0 q), .int .u64 (l1 q), .int .u64 (l2 q), .int .u64 (l3 q)], .int .i64 0]) ∧ Below W.heap.size W w')) (cg : ¬ t.gas < g)
    (T1 : Hid (∀ W, Below w.heap.size w W → Calls Tryd.prog 44 #[.int .u64 g, .agg #[.int .u64 (l0 p), .int .u64 (l1 p), .int .u64 (l2 p), .int .u64 (l3 p)]] W fun e w' => e = .returned (.tuple #[.agg #[.int .u64 (l0 x), .int .u64 (l1 x), .int .u64 (l2 x), .int .u64 (l3 x)], .int .i64 0]) ∧ Below W.heap.size W w'))
    (T2 : Hid (∀ W, Below w.heap.size w W → Calls Tryd.prog 44 #[.int .u64 g, .agg #[.int .u64 (l0 b), .int .u64 (l1 b), .int .u64 (l2 b), .int .u64 (l3 b)]] W fun e w' => e = .returned (.tuple #[.agg #[.int .u64 (l0 bu), .int .u64 (l1 bu), .int .u64 (l2 bu), .int .u64 (l3 bu)], .int .i64 f2]) ∧ Below W.heap.size W w'))
    (T3 : Hid (∀ W, Below w.heap.size w W → Calls Tryd.prog 44 #[.int .u64 g, .agg #[.int .u64 (l0 q), .int .u64 (l1 q), .int .u64 (l2 q), .int .u64 (l3 q)]] W fun e w' => e = .returned (.tuple #[.agg #[.int .u64 (l0 pa), .int .u64 (l1 pa), .int .u64 (l2 pa), .int .u64 (l3 pa)], .int .i64 f3]) ∧ Below W.heap.size W w')) :
    Calls Tryd.prog 15 #[.agg (txC t).toArray, .agg #[.int .u64 (l0 b), .int .u64 (l1 b), .int .u64 (l2 b), .int .u64 (l3 b)], .int .u64 g] w fun e w' => e = .returned (.tuple #[.agg #[.int .u64 (l0 bu), .int .u64 (l1 bu), .int .u64 (l2 bu), .int .u64 (l3 bu)], .agg #[.int .u64 (l0 pa), .int .u64 (l1 pa), .int .u64 (l2 pa), .int .u64 (l3 pa)], .int .i64 0]) ∧ Below w.heap.size w w' := by
  have hz := build_zero
  have sz := size_tx h20
  have hX0 := TxB.new (W := w) (ty := 32) h20
  obtain ⟨M, hM⟩ : ∃ M, M = txC t := ⟨_, rfl⟩
  have HM : Hid (M = txC t) := hM
  rw [← hM] at sz hX0 PR ⊢
  clear hM h20
  go_enter Tryd.func15, Tryd.ntmps15
  refine wp_seq_k fun K0 h0 => ?_
  have H0 : Hid _ := h0
  clear h0
  go_wp2
  refine H0.out _ _ ?_
  clear H0 K0
  refine wp_world (fun W => Below w.heap.size w W ∧ TxB W w.heap.size t ∧ Hold W (w.heap.size + 1) b ∧ Blank W (w.heap.size + 1 + 1) ∧ Blank W (w.heap.size + 1 + 1 + 1)) ⟨by repeat (first | with_reducible exact Below.refl _ _ | with_reducible refine Below.alloc ?_ (by first | omega | (simp; done) | (simp; omega)) _), hX0.keep ((((Below.refl _ _).alloc (Nat.le_refl _) _).alloc (by first | (simp; done) | (simp; omega)) _).alloc (by first | (simp; done) | (simp; omega)) _), ((Hold.fresh (by simp)).alloc _).alloc _, (Blank.new (by simp)).alloc _, Blank.new (by simp)⟩ ?_
  clear hX0
  rintro W ⟨B, hX, hB, hP, hQ⟩
  have o1 : w.heap.size ≤ w.heap.size + 1 + 1 := by omega
  have o2 : w.heap.size ≤ w.heap.size + 1 + 1 + 1 := by omega
  have npq : w.heap.size + 1 + 1 ≠ w.heap.size + 1 + 1 + 1 := by omega
  have nqp := npq.symm
  have nbp : w.heap.size + 1 ≠ w.heap.size + 1 + 1 := by omega
  have nbq : w.heap.size + 1 ≠ w.heap.size + 1 + 1 + 1 := by omega
  generalize w.heap.size + 1 + 1 + 1 = bt at *
  generalize w.heap.size + 1 + 1 = bp at *
  generalize w.heap.size + 1 = bb at *
  refine wp_seq_k fun K1 h1 => ?_
  have H1 : Hid _ := h1
  clear h1
  have rM0 : W.rangeAt w.heap.size 0 M := by have h := hX.all; rw [← HM.out] at h; exact h
  have gB := hB.cells
  go_wp2_with first
    | (refine wpList_load_midT rfl 32 _ rfl w.heap.size 0 rfl M _ rM0 Tryd.underlying32 rfl sz ?_)
    | (go_at_call 14; refine (PR.out _ B).mono ?_; rintro e w2 ⟨rfl, hb⟩; replace B := B.trans (hb.mono B.size); replace hX := hX.keep hb; replace hB := hB.keep hb; replace hP := hP.keep hb; replace hQ := hQ.keep hb; clear hb rM0 gB)
  refine H1.out _ _ ?_
  clear H1 K1
  refine wp_world (fun W' => Below w.heap.size w W' ∧ TxB W' w.heap.size t ∧ Hold W' bb b ∧ Blank W' bp ∧ Blank W' bt ∧ Hold W' w2.heap.size p ∧ Hold W' (w2.heap.size + 1) q) ⟨(B.alloc B.size _).alloc (by have := B.size; simp; omega) _, (hX.keep ((Below.refl _ _).alloc (Nat.le_refl _) _)).keep ((Below.refl _ _).alloc (Nat.le_refl _) _), (hB.alloc _).alloc _, (hP.alloc _).alloc _, (hQ.alloc _).alloc _, (Hold.new _ _ _).alloc _, Hold.fresh (by simp)⟩ ?_
  have m1 : bp ≠ w2.heap.size := Nat.ne_of_lt (hP.1.lt (by simp))
  have m2 : bt ≠ w2.heap.size := Nat.ne_of_lt (hQ.1.lt (by simp))
  have m3 : bp ≠ w2.heap.size + 1 := Nat.ne_of_lt (Nat.lt_succ_of_lt (hP.1.lt (by simp)))
  have m4 : bt ≠ w2.heap.size + 1 := Nat.ne_of_lt (Nat.lt_succ_of_lt (hQ.1.lt (by simp)))
  clear B hX hB hP hQ W PR
  generalize w2.heap.size + 1 = b2 at *
  generalize w2.heap.size = b1 at *
  clear w2
  rintro W ⟨B, hX, hB, hP, hQ, hU, hV⟩
  refine wp_seq_k fun K2 h2 => ?_
  have H2 : Hid _ := h2
  clear h2
  go_wp2
  refine H2.out _ _ ?_
  clear H2 K2
  refine wp_seq_k fun K3 h3 => ?_
  have H3 : Hid _ := h3
  clear h3
  have gg := hX.gas
  go_wp2
  refine H3.out _ _ ?_
  clear H3 K3
  clear gg
  refine wp_seq_k fun K4 h4 => ?_
  have H4 : Hid _ := h4
  clear h4
  have ghU := hU.cells
  go_wp2_with fail
  refine (T1.out _ B).mono ?_
  rintro e w4 ⟨rfl, hb⟩
  replace B := B.trans (hb.mono B.size); replace hX := hX.keep hb; replace hB := hB.keep hb; replace hP := hP.keep hb; replace hQ := hQ.keep hb; replace hU := hU.keep hb; replace hV := hV.keep hb
  clear hb W ghU
  go_wp2
  refine H4.out _ _ ?_
  clear H4 K4
  refine wp_world (fun W' => Below w.heap.size w W' ∧ Hold W' bb b ∧ Var W' bp 0 ∧ Blank W' bt ∧ Hold W' b2 q) ⟨B.alloc B.size _, hB.alloc _, (hP.alloc _).zeroT, hQ.alloc _, hV.alloc _⟩ ?_
  clear B hX hB hP hQ hU hV
  rintro W ⟨B, hB, hP, hQ, hV⟩
  refine wp_seq_k fun K5 h5 => ?_
  have H5 : Hid _ := h5
  clear h5
  have gB := hB.cells
  go_wp2_with fail
  refine (T2.out _ B).mono ?_
  rintro e w5 ⟨rfl, hb⟩
  replace B := B.trans (hb.mono B.size); replace hB := hB.keep hb; replace hP := hP.keep hb; replace hQ := hQ.keep hb; replace hV := hV.keep hb
  clear hb gB W
  have gP := hP.1.cells; have fP := hP.2.all4
  go_wp2_with fail
  refine H5.out _ _ ?_
  clear H5 K5
  refine wp_world (fun W' => Below w.heap.size w W' ∧ Var W' bp bu ∧ Var W' bt 0 ∧ Hold W' b2 q) ⟨below_set4 B o1 _ _ _ _, hP.sets bu, (hQ.set4 npq _ _ _ _).zeroT, hV.set4 m3 _ _ _ _⟩ ?_
  clear B gP fP hB hP hQ hV
  rintro W ⟨B, hP, hQ, hV⟩
  refine wp_seq_k fun K6 h6 => ?_
  have H6 : Hid _ := h6
  clear h6
  have gV := hV.cells
  go_wp2_with fail
  refine (T3.out _ B).mono ?_
  rintro e w6 ⟨rfl, hb⟩
  replace B := B.trans (hb.mono B.size); replace hP := hP.keep hb; replace hQ := hQ.keep hb; replace hV := hV.keep hb
  clear hb gV W
  have gQ := hQ.1.cells; have fQ := hQ.2.all4
  go_wp2_with fail
  refine H6.out _ _ ?_
  clear H6 K6
  refine wp_world (fun W' => Below w.heap.size w W' ∧ (Hold W' bp bu ∧ Loose W' bp 4) ∧ (Hold W' bt pa ∧ Loose W' bt 4)) ⟨below_set4 B o2 _ _ _ _, var_far hP nqp _ _ _ _, hQ.sets pa⟩ ?_
  clear B gQ fQ hP hQ hV
  rintro W ⟨B, hP, hQ⟩
  have gP := hP.1.cells; have fP := hP.2.all4; have gQ := hQ.1.cells; have fQ := hQ.2.all4
  have BB : Hid (Below w.heap.size w W) := B
  clear B hP hQ T1 T2 T3
  go_wp2_with fail
  go_region_held3 (fun w' => w'.cell? ⟨bp, 0, none⟩ = some (.int .u64 (l0 bu)) ∧ w'.cell? ⟨bp, 1, none⟩ = some (.int .u64 (l1 bu)) ∧ w'.cell? ⟨bp, 2, none⟩ = some (.int .u64 (l2 bu)) ∧ w'.cell? ⟨bp, 3, none⟩ = some (.int .u64 (l3 bu)) ∧ w'.cell? ⟨bt, 0, none⟩ = some (.int .u64 (l0 pa)) ∧ w'.cell? ⟨bt, 1, none⟩ = some (.int .u64 (l1 pa)) ∧ w'.cell? ⟨bt, 2, none⟩ = some (.int .u64 (l2 pa)) ∧ w'.cell? ⟨bt, 3, none⟩ = some (.int .u64 (l3 pa))) (((try dsimp only); (repeat' (apply And.intro)); (all_goals repeat (first | with_reducible assumption | with_reducible apply cell_alloc | (with_reducible refine cell_set ?_ (by with_reducible assumption)) | (simp [go_sem, *]; done))))) (fail)
  all_goals go_wp2
  all_goals simp (config := { maxDischargeDepth := 6, maxSteps := 4000000 }) [bodyPost, results, Tryd.results15, go_sem, *]
  all_goals repeat (first | with_reducible exact BB.out | with_reducible refine Below.drew ?_ | with_reducible refine Below.setCell ?_ o1 _ | with_reducible refine Below.setCell ?_ o2 _)
end Go.Proofs.YtlpmphldmfefkaaDoor
