import Derived.Test.YtllfmlgnemkklaaDoorFgE
/- Layer 18: the document's Enough. -/
namespace Go.Proofs.YtllfmlgnemkklaaDoor
open Go.RowKit Go.Sort
open tq
set_option maxRecDepth 100000 in
set_option maxHeartbeats 8000000 in
theorem rEnough_any {t : Txv} (hd : Hid (BdG t)) (h2 : t.Hsl.length < 1000000000) (w : World) (hG : TxG w t) : Calls Tryd.prog 16 #[.agg (txC t).toArray] w fun e w' => e = .returned (.int .i64 (enV t)) ∧ Below w.heap.size w w' := by
  have h20 := hG.to.1
  have IN : Hid (∀ W, Below w.heap.size w W → Calls Tryd.prog 11 #[.agg (txC t).toArray] W fun e w' => e = .returned (.tuple #[.int .u64 (igV t), .int .i64 (dfN t)]) ∧ Below W.heap.size W w') := fun W B => rIntrinsic_any hd h2 W (hG.keep B)
  have FL : Hid (∀ W, Below w.heap.size w W → Calls Tryd.prog 12 #[.agg (txC t).toArray] W fun e w' => e = .returned (.tuple #[.int .u64 (flV t), .int .i64 (dfN t)]) ∧ Below W.heap.size W w') := fun W B => rFloor_any hd h2 W (hG.keep B)
  have hX := TxB.new (W := w) (ty := 32) h20
  have sz := size_tx h20
  have EV : Hid (enV t = if dfN t = 0 then (if t.gas < max (igV t) (flV t) then 182 else 0) else dfN t) := by
    show _ = _
    unfold enV igV flV
    by_cases c : dfN t = 0
    · simp only [if_pos c]
    · simp only [if_neg c]
  have hM := hX.all
  have hg := hX.gas
  clear hX
  generalize txC t = M at *
  generalize enV t = v at *
  generalize igV t = r1 at *
  generalize flV t = r2 at *
  generalize dfN t = q at *
  generalize t.gas = gas at *
  clear h20 hG hd h2
  by_cases c : q = 0
  · subst c
    have ev : Hid (v = if gas < max r1 r2 then 182 else 0) := by have := EV.out; rwa [if_pos rfl] at this
    clear EV
    go_enter Tryd.func16, Tryd.ntmps16
    refine wp_seq_k fun K0 h0 => ?_
    have H0 : Hid _ := h0
    clear h0
    go_wp2
    refine H0.out _ _ ?_
    clear H0 K0
    refine wp_world (fun W => Below w.heap.size w W ∧ W.rangeAt w.heap.size 0 M ∧ W.cell? ⟨w.heap.size, 15, none⟩ = some (.int .u64 gas)) ⟨(Below.refl _ _).alloc (Nat.le_refl _) _, hM, hg⟩ ?_
    clear hM hg
    rintro W ⟨B, rM, cg⟩
    refine wp_seq_k fun K1 h1 => ?_
    have H1 : Hid _ := h1
    clear h1
    go_wp2_with first
      | (refine wpList_load_midT (by rfl) 32 _ rfl w.heap.size 0 rfl M _ rM Tryd.underlying32 rfl sz ?_)
      | (go_at_call 11; refine (IN.out _ B).mono ?_; rintro e w2 ⟨rfl, hb⟩; replace B := B.trans (hb.mono B.size); replace rM : w2.rangeAt w.heap.size 0 M := fun j v hv => cell_keep hb (rM j v hv); replace cg := cell_keep hb cg; clear hb W)
    refine H1.out _ _ ?_
    clear H1
    refine wp_seq_k fun K2 h2 => ?_
    have H2 : Hid _ := h2
    clear h2
    go_wp2
    refine H2.out _ _ ?_
    clear H2
    refine wp_seq_k fun K3 h3 => ?_
    have H3 : Hid _ := h3
    clear h3
    go_wp2_with first
      | (refine wpList_load_midT (by rfl) 32 _ rfl w.heap.size 0 rfl M _ rM Tryd.underlying32 rfl sz ?_)
      | (go_at_call 12; refine (FL.out _ B).mono ?_; rintro e w3 ⟨rfl, hb⟩; replace B := B.trans (hb.mono B.size); replace cg := cell_keep hb cg; clear hb rM)
    refine H3.out _ _ ?_
    clear H3
    by_cases c1 : gas < r1
    · have e1 : v = 182 := by have := ev.out; rwa [if_pos (by omega)] at this
      subst e1
      have c2 := c1
      go_wp2
      simp [bodyPost, results, Tryd.results16, go_sem]
      exact B
    · by_cases c2 : gas < r2
      · have e1 : v = 182 := by have := ev.out; rwa [if_pos (by omega)] at this
        subst e1
        go_wp2
        simp [bodyPost, results, Tryd.results16, go_sem]
        exact B
      · have e1 : v = 0 := by have := ev.out; rwa [if_neg (by omega)] at this
        subst e1
        go_wp2
        simp [bodyPost, results, Tryd.results16, go_sem]
        exact B
  · have ev : v = q := by have := EV.out; rwa [if_neg c] at this
    subst ev
    have c1 : (v != 0) = true := bne_iff_ne.2 c
    clear EV FL hg
    go_enter Tryd.func16, Tryd.ntmps16
    refine wp_seq_k fun K0 h0 => ?_
    have H0 : Hid _ := h0
    clear h0
    go_wp2
    refine H0.out _ _ ?_
    clear H0 K0
    refine wp_world (fun W => Below w.heap.size w W ∧ W.rangeAt w.heap.size 0 M) ⟨(Below.refl _ _).alloc (Nat.le_refl _) _, hM⟩ ?_
    clear hM
    rintro W ⟨B, rM⟩
    go_wp2_with first
      | (refine wpList_load_midT (by rfl) 32 _ rfl w.heap.size 0 rfl M _ rM Tryd.underlying32 rfl sz ?_)
      | (go_at_call 11; refine (IN.out _ B).mono ?_; rintro e w2 ⟨rfl, hb⟩; replace B := B.trans (hb.mono B.size); clear hb)
    simp [bodyPost, results, Tryd.results16, go_sem]
    exact B
end Go.Proofs.YtllfmlgnemkklaaDoor
