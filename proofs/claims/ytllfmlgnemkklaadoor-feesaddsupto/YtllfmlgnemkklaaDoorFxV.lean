import Derived.Test.YtllfmlgnemkklaaDoorFxU
/- Layer 18: the plain transaction lives. -/
namespace Go.Proofs.YtllfmlgnemkklaaDoor
open Go.RowKit Go.Sort
open tq
set_option maxRecDepth 100000 in
set_option maxHeartbeats 4000000 in
theorem dataGas_nil (w : World) : Calls Tryd.prog 42 #[.slice none 0 0, .int .u64 4, .int .u64 16] w fun e w' => e = .returned (.int .u64 0) ∧ Below w.heap.size w w' := by
  have CN := fun (b d : Nat) (W : World) (h : W.cell? ⟨b, 0, none⟩ = some (.int .u8 0)) => Tryd.bytes_Count_one_nil b 0 d 0 W h
  go_enter Tryd.func42, Tryd.ntmps42
  go_wp2_with first
    | (go_at_call 53; refine (CN _ _ _ (by simp)).mono ?_; rintro e W ⟨rfl, rfl⟩)
  simp [bodyPost, results, Tryd.results42, go_sem]
  repeat (first | with_reducible exact Below.refl _ _ | with_reducible refine Below.drew ?_ | with_reducible refine Below.setCell ?_ (by omega) _ | with_reducible refine Below.alloc ?_ (by first | omega | (simp; done) | (simp; omega)) _)
set_option maxRecDepth 100000 in
set_option maxHeartbeats 4000000 in
theorem count_nil (w : World) : Calls Tryd.prog 44 #[.slice none 0 0] w fun e w' => e = .returned (.tuple #[.int .i64 0, .int .i64 0]) ∧ Below w.heap.size w w' := by
  go_enter Tryd.func44, Tryd.ntmps44
  go_wp2_with fail
  go_loopg [3, 8] 0 (fun k sv iv wr => sv = .int .i64 0 ∧ iv = .int .i64 0 ∧ wr = w)
  case atStart => exact ⟨rfl, rfl, rfl⟩
  case round =>
    obtain ⟨rfl, rfl, rfl⟩ := hrel
    go_wp2
    simp [bodyPost, results, Tryd.results44, go_sem]
    exact Below.refl _ _
set_option maxRecDepth 100000 in
set_option maxHeartbeats 4000000 in
theorem intrinsic_pl (w : World) : Calls Tryd.prog 26 #[.agg (txC plT).toArray] w fun e w' => e = .returned (.int .u64 21000) ∧ Below w.heap.size w w' := by
  have h20 : plT.to.length = 20 := rfl
  have DG := dataGas_nil
  have CN := count_nil
  have hX := TxB.new (W := w) (ty := 32) h20
  generalize txC plT = M at *
  go_enter Tryd.func26, Tryd.ntmps26
  refine wp_seq_k fun K0 h0 => ?_
  have H0 : Hid _ := h0
  clear h0
  go_wp2
  refine H0.out _ _ ?_
  clear H0 K0
  refine wp_world (fun W => Below w.heap.size w W ∧ w.heap.size < W.heap.size ∧ W.cell? ⟨w.heap.size, 16, none⟩ = some (.bool false) ∧ W.cell? ⟨w.heap.size, 41, none⟩ = some (.slice none 0 0) ∧ W.cell? ⟨w.heap.size, 42, none⟩ = some (.slice none 0 0) ∧ W.cell? ⟨w.heap.size, 48, none⟩ = some (.slice none 0 0)) ⟨(Below.refl _ _).alloc (Nat.le_refl _) _, by rw [World.size_alloc]; omega, hX.cr, hX.D, hX.E, hX.U⟩ ?_
  clear hX h20
  rintro W ⟨B, lt, gr, gd, ge, gu⟩
  go_wp2_with first
    | (go_at_call 42; refine (DG _).mono ?_; rintro e w2 ⟨rfl, hb⟩; replace B := B.trans (hb.mono B.size); replace gr := cell_keep hb gr; replace gd := cell_keep hb gd; replace ge := cell_keep hb ge; replace gu := cell_keep hb gu; clear hb)
    | (go_at_call 44; refine (CN _).mono ?_; rintro e w3 ⟨rfl, hb⟩; replace B := B.trans (hb.mono B.size); replace gr := cell_keep hb gr; replace gd := cell_keep hb gd; replace ge := cell_keep hb ge; replace gu := cell_keep hb gu; clear hb)
  simp [bodyPost, results, Tryd.results26, go_sem]
  exact B
set_option maxRecDepth 100000 in
set_option maxHeartbeats 4000000 in
theorem Intrinsic_pl (w : World) (hR : Rws w) : Calls Tryd.prog 7 #[.agg (txC plT).toArray] w fun e w' => e = .returned (.tuple #[.int .u64 21000, .int .i64 0]) ∧ Below w.heap.size w w' := by
  have h20 : plT.to.length = 20 := rfl
  have IN := intrinsic_pl
  have DR : Hid (∀ W, Below w.heap.size w W → Calls Tryd.prog 6 #[.agg (txC plT).toArray] W fun e w' => e = .returned (.int .i64 0) ∧ Below W.heap.size W w') := fun W B => by have := draft_at (plT_G w) (by decide) (by decide) hR B; rwa [plT_df] at this
  have hX := (TxB.new (W := w) (ty := 32) h20).all
  have sz := size_tx h20
  generalize txC plT = M at *
  clear hR h20
  go_enter Tryd.func7, Tryd.ntmps7
  refine wp_seq_k fun K0 h0 => ?_
  have H0 : Hid _ := h0
  clear h0
  go_wp2
  refine H0.out _ _ ?_
  clear H0 K0
  refine wp_world (fun W => Below w.heap.size w W ∧ W.rangeAt w.heap.size 0 M) ⟨(Below.refl _ _).alloc (Nat.le_refl _) _, hX⟩ ?_
  clear hX
  rintro W ⟨B, rM⟩
  refine wp_seq_k fun K1 h1 => ?_
  have H1 : Hid _ := h1
  clear h1
  go_wp2_with first
    | (refine wpList_load_midT (by rfl) 32 _ rfl w.heap.size 0 rfl M _ rM Tryd.underlying32 rfl sz ?_)
    | (go_at_call 6; refine (DR.out _ B).mono ?_; rintro e w2 ⟨rfl, hb⟩; replace B := B.trans (hb.mono B.size); replace rM : w2.rangeAt w.heap.size 0 M := fun j v hv => cell_keep hb (rM j v hv); clear hb)
  refine H1.out _ _ ?_
  clear H1 K1
  go_wp2_with first
    | (refine wpList_load_midT (by rfl) 32 _ rfl w.heap.size 0 rfl M _ rM Tryd.underlying32 rfl sz ?_)
    | (go_at_call 26; refine (IN _).mono ?_; rintro e w3 ⟨rfl, hb⟩; replace B := B.trans (hb.mono B.size); clear hb)
  simp [bodyPost, results, Tryd.results7, go_sem]
  exact B
set_option maxRecDepth 100000 in
set_option maxHeartbeats 4000000 in
theorem lives_walk {w0 : World} {M : List Value} {X1 X2 : Int} (PL : ∀ w, Calls Tryd.prog 21 #[.int .u64 2, .int .u64 10, .int .u64 21000] w fun e w' => e = .returned (.agg M.toArray) ∧ Below w.heap.size w w')
    (PR : Hid (∀ W, Below w0.heap.size w0 W → Calls Tryd.prog 20 #[.agg M.toArray, .agg #[.int .u64 9, .int .u64 0, .int .u64 0, .int .u64 0]] W fun e w' => e = .returned (.tuple #[.agg #[.int .u64 (l0 X1), .int .u64 (l1 X1), .int .u64 (l2 X1), .int .u64 (l3 X1)], .agg #[.int .u64 (l0 X2), .int .u64 (l1 X2), .int .u64 (l2 X2), .int .u64 (l3 X2)], .int .i64 0]) ∧ Below W.heap.size W w'))
    (IN : Hid (∀ W, Below w0.heap.size w0 W → Calls Tryd.prog 7 #[.agg M.toArray] W fun e w' => e = .returned (.tuple #[.int .u64 21000, .int .i64 0]) ∧ Below W.heap.size W w'))
    (q1 : ∀ w, (Op.equalIn 10000 24 (.agg #[.int .u64 (l0 X1), .int .u64 (l1 X1), .int .u64 (l2 X1), .int .u64 (l3 X1)]) (.agg #[.int .u64 10, .int .u64 0, .int .u64 0, .int .u64 0])).run Tryd.prog w = .ok true w)
    (q2 : ∀ w, (Op.equalIn 10000 24 (.agg #[.int .u64 (l0 X2), .int .u64 (l1 X2), .int .u64 (l2 X2), .int .u64 (l3 X2)]) (.agg #[.int .u64 1, .int .u64 0, .int .u64 0, .int .u64 0])).run Tryd.prog w = .ok true w) (w : World) (B0 : Below w0.heap.size w0 w) :
    Calls Tryd.prog 5 #[] w fun e w' => e = .returned (.bool true) ∧ Below w0.heap.size w0 w' := by
  have BW : Hid (Below w0.heap.size w0 w) := B0
  clear B0
  have Q1 : Hid _ := q1
  have Q2 : Hid _ := q2
  clear q1 q2
  go_enter Tryd.func5, Tryd.ntmps5
  refine wp_seq_k fun K0 h0 => ?_
  have H0 : Hid _ := h0
  clear h0
  go_wp2
  refine H0.out _ _ ?_
  clear H0 K0
  refine wp_seq_k fun K1 h1 => ?_
  have H1 : Hid _ := h1
  clear h1
  go_wp2_with first
    | (go_at_call 21; refine (PL _).mono ?_; rintro e w2 ⟨rfl, hb⟩; replace BW : Hid (Below w0.heap.size w0 w2) := BW.out.trans (hb.mono BW.out.size); clear hb)
    | (go_at_call 20; refine (PR.out _ BW.out).mono ?_; rintro e w3 ⟨rfl, hb⟩; replace BW : Hid (Below w0.heap.size w0 w3) := BW.out.trans (hb.mono BW.out.size); clear hb)
  refine H1.out _ _ ?_
  clear H1 K1
  refine wp_world (fun V => Below w0.heap.size w0 V ∧ Hold V w3.heap.size X1 ∧ Hold V (w3.heap.size + 1) X2) ⟨(BW.out.alloc BW.out.size _).alloc (by have := BW.out.size; simp; omega) _, (Hold.new _ _ _).alloc _, Hold.fresh (by simp)⟩ ?_
  clear BW
  generalize w3.heap.size + 1 = d1 at *
  generalize w3.heap.size = d0 at *
  rintro W ⟨B, g1, g2⟩
  have BW : Hid (Below w0.heap.size w0 W) := B
  clear B
  refine wp_seq_k fun K2 h2 => ?_
  have H2 : Hid _ := h2
  clear h2
  go_wp2_with first
    | (go_at_call 21; refine (PL _).mono ?_; rintro e w4 ⟨rfl, hb⟩; replace BW : Hid (Below w0.heap.size w0 w4) := BW.out.trans (hb.mono BW.out.size); replace g1 := g1.keep hb; replace g2 := g2.keep hb; clear hb)
    | (go_at_call 7; refine (IN.out _ BW.out).mono ?_; rintro e w5 ⟨rfl, hb⟩; replace BW : Hid (Below w0.heap.size w0 w5) := BW.out.trans (hb.mono BW.out.size); replace g1 := g1.keep hb; replace g2 := g2.keep hb; clear hb)
  refine H2.out _ _ ?_
  clear H2 K2
  have c1 := g1.cells; have c2 := g2.cells
  have e1 := Q1.out
  have e2 := Q2.out
  go_wp2
  simp [bodyPost, results, Tryd.results5, go_sem]
  exact BW.out
set_option maxRecDepth 100000 in
set_option maxHeartbeats 4000000 in
theorem lives_any (w : World) (hR : Rws w) : Calls Tryd.prog 5 #[] w fun e w' => e = .returned (.bool true) ∧ Below w.heap.size w w' := by
  have PL := plain_any
  have PR : Hid (∀ W, Below w.heap.size w W → Calls Tryd.prog 20 #[.agg (txC plT).toArray, .agg #[.int .u64 9, .int .u64 0, .int .u64 0, .int .u64 0]] W fun e w' => e = .returned (.tuple #[.agg #[.int .u64 (l0 10), .int .u64 (l1 10), .int .u64 (l2 10), .int .u64 (l3 10)], .agg #[.int .u64 (l0 1), .int .u64 (l1 1), .int .u64 (l2 1), .int .u64 (l3 1)], .int .i64 0]) ∧ Below W.heap.size W w') := fun W B => by
    have := price_any (t := plT) (b := 9) W (plT_G W) ⟨by decide, by decide⟩ (by decide) (by decide) (hR.keep B)
    rw [plT_pr.1, plT_pr.2.1, plT_pr.2.2] at this
    exact this
  have IN : Hid (∀ W, Below w.heap.size w W → Calls Tryd.prog 7 #[.agg (txC plT).toArray] W fun e w' => e = .returned (.tuple #[.int .u64 21000, .int .i64 0]) ∧ Below W.heap.size W w') := fun W B => Intrinsic_pl W (hR.keep B)
  have q1 : ∀ w, (Op.equalIn 10000 24 (.agg #[.int .u64 (l0 10), .int .u64 (l1 10), .int .u64 (l2 10), .int .u64 (l3 10)]) (.agg #[.int .u64 10, .int .u64 0, .int .u64 0, .int .u64 0])).run Tryd.prog w = .ok true w := fun w => by
    have h := eq_lim 9998 10 0 0 0 10 0 0 0 w
    have e : (Op.equalIn 10000 24 (.agg #[.int .u64 10, .int .u64 0, .int .u64 0, .int .u64 0]) (.agg #[.int .u64 10, .int .u64 0, .int .u64 0, .int .u64 0])).run Tryd.prog w = .ok true w := by simpa using h
    exact e
  have q2 : ∀ w, (Op.equalIn 10000 24 (.agg #[.int .u64 (l0 1), .int .u64 (l1 1), .int .u64 (l2 1), .int .u64 (l3 1)]) (.agg #[.int .u64 1, .int .u64 0, .int .u64 0, .int .u64 0])).run Tryd.prog w = .ok true w := fun w => by
    have h := eq_lim 9998 1 0 0 0 1 0 0 0 w
    have e : (Op.equalIn 10000 24 (.agg #[.int .u64 1, .int .u64 0, .int .u64 0, .int .u64 0]) (.agg #[.int .u64 1, .int .u64 0, .int .u64 0, .int .u64 0])).run Tryd.prog w = .ok true w := by simpa using h
    exact e
  exact lives_walk PL PR IN q1 q2 w (Below.refl _ _)
end Go.Proofs.YtllfmlgnemkklaaDoor
