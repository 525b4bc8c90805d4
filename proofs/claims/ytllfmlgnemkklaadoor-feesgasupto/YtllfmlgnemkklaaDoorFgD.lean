import Derived.Test.YtllfmlgnemkklaaDoorFgC
import Derived.Test.YtllfmlgnemkklaaDoorFxL
/- Layer 18: Intrinsic, Floor and Enough of the program, whole. -/
namespace Go.Proofs.YtllfmlgnemkklaaDoor
open Go.RowKit Go.Sort
open tq
theorem BdG.two {t : Txv} (h : BdG t) (h2 : t.Hsl.length < 1000000000) : t.Hsl.length < 1000000000 ∧ t.Ul.length < 1000000000 := ⟨h2, by have := h.2.2.2; omega⟩
def igV (t : Txv) : Int := if dfN t = 0 then igT t else 0
def flV (t : Txv) : Int := if dfN t = 0 then flT t else 0
def enV (t : Txv) : Int := if dfN t = 0 then (if t.gas < max (igT t) (flT t) then 182 else 0) else dfN t
set_option maxRecDepth 100000 in
set_option maxHeartbeats 4000000 in
theorem Intrinsic_any {t : Txv} (hd : Hid (BdG t)) (h2 : t.Hsl.length < 1000000000) (w : World) (hG : TxG w t) (hR : Rws w) : Calls Tryd.prog 7 #[.agg (txC t).toArray] w fun e w' => e = .returned (.tuple #[.int .u64 (igV t), .int .i64 (dfN t)]) ∧ Below w.heap.size w w' := by
  have h20 := hG.to.1
  have IN : Hid (∀ W, Below w.heap.size w W → Calls Tryd.prog 26 #[.agg (txC t).toArray] W fun e w' => e = .returned (.int .u64 (igT t)) ∧ Below W.heap.size W w') := fun W B => intrinsic_any hd W (hG.keep B)
  have DR : Hid (∀ W, Below w.heap.size w W → Calls Tryd.prog 6 #[.agg (txC t).toArray] W fun e w' => e = .returned (.int .i64 (dfN t)) ∧ Below W.heap.size W w') := fun W B => draft_at hG (hd.out.two h2).1 (hd.out.two h2).2 hR B
  have hX := (TxB.new (W := w) (ty := 32) h20).all
  have sz := size_tx h20
  have EV : Hid (igV t = if dfN t = 0 then igT t else 0) := rfl
  generalize txC t = M at *
  generalize igV t = v at *
  generalize igT t = r at *
  generalize dfN t = q at *
  clear hR h20 hG hd h2
  by_cases c : q = 0
  · subst c
    have ev : v = r := by have := EV.out; rwa [if_pos rfl] at this
    subst ev
    clear EV
    go_enter Tryd.func7, Tryd.ntmps7
    refine wp_seq_k fun K0 h0 => ?_
    have H0 : Hid _ := h0
    clear h0
    go_wp2
    refine H0.out _ _ ?_
    clear H0 K0
    refine wp_world (fun W => Below w.heap.size w W ∧ W.rangeAt w.heap.size 0 M) ⟨(Below.refl _ _).alloc (Nat.le_refl _) _, hX⟩ ?_
    clear hX
    rintro W ⟨B, rM⟩
    refine wp_seq_k fun K1 h1 => ?_
    have H1 : Hid _ := h1
    clear h1
    go_wp2_with first
      | (refine wpList_load_midT (by rfl) 32 _ rfl w.heap.size 0 rfl M _ rM Tryd.underlying32 rfl sz ?_)
      | (go_at_call 6; refine (DR.out _ B).mono ?_; rintro e w2 ⟨rfl, hb⟩; replace B := B.trans (hb.mono B.size); replace rM : w2.rangeAt w.heap.size 0 M := fun j v hv => cell_keep hb (rM j v hv); clear hb)
    refine H1.out _ _ ?_
    clear H1 K1
    go_wp2_with first
      | (refine wpList_load_midT (by rfl) 32 _ rfl w.heap.size 0 rfl M _ rM Tryd.underlying32 rfl sz ?_)
      | (go_at_call 26; refine (IN.out _ B).mono ?_; rintro e w3 ⟨rfl, hb⟩; replace B := B.trans (hb.mono B.size); clear hb)
    simp [bodyPost, results, Tryd.results7, go_sem]
    exact B
  · have ev : v = 0 := by have := EV.out; rwa [if_neg c] at this
    subst ev
    have c1 : (q != 0) = true := bne_iff_ne.2 c
    clear EV IN
    go_enter Tryd.func7, Tryd.ntmps7
    refine wp_seq_k fun K0 h0 => ?_
    have H0 : Hid _ := h0
    clear h0
    go_wp2
    refine H0.out _ _ ?_
    clear H0 K0
    refine wp_world (fun W => Below w.heap.size w W ∧ W.rangeAt w.heap.size 0 M) ⟨(Below.refl _ _).alloc (Nat.le_refl _) _, hX⟩ ?_
    clear hX
    rintro W ⟨B, rM⟩
    go_wp2_with first
      | (refine wpList_load_midT (by rfl) 32 _ rfl w.heap.size 0 rfl M _ rM Tryd.underlying32 rfl sz ?_)
      | (go_at_call 6; refine (DR.out _ B).mono ?_; rintro e w2 ⟨rfl, hb⟩; replace B := B.trans (hb.mono B.size); clear hb)
    simp [bodyPost, results, Tryd.results7, go_sem]
    exact B
set_option maxRecDepth 100000 in
set_option maxHeartbeats 4000000 in
theorem Floor_any {t : Txv} (hd : Hid (BdG t)) (h2 : t.Hsl.length < 1000000000) (w : World) (hG : TxG w t) (hR : Rws w) : Calls Tryd.prog 9 #[.agg (txC t).toArray] w fun e w' => e = .returned (.tuple #[.int .u64 (flV t), .int .i64 (dfN t)]) ∧ Below w.heap.size w w' := by
  have h20 := hG.to.1
  have IN : Hid (∀ W, Below w.heap.size w W → Calls Tryd.prog 28 #[.agg (txC t).toArray] W fun e w' => e = .returned (.int .u64 (flT t)) ∧ Below W.heap.size W w') := fun W B => floor_any hd.out.1 W (hG.keep B)
  have DR : Hid (∀ W, Below w.heap.size w W → Calls Tryd.prog 6 #[.agg (txC t).toArray] W fun e w' => e = .returned (.int .i64 (dfN t)) ∧ Below W.heap.size W w') := fun W B => draft_at hG (hd.out.two h2).1 (hd.out.two h2).2 hR B
  have hX := (TxB.new (W := w) (ty := 32) h20).all
  have sz := size_tx h20
  have EV : Hid (flV t = if dfN t = 0 then flT t else 0) := rfl
  generalize txC t = M at *
  generalize flV t = v at *
  generalize flT t = r at *
  generalize dfN t = q at *
  clear hR h20 hG hd h2
  by_cases c : q = 0
  · subst c
    have ev : v = r := by have := EV.out; rwa [if_pos rfl] at this
    subst ev
    clear EV
    go_enter Tryd.func9, Tryd.ntmps9
    refine wp_seq_k fun K0 h0 => ?_
    have H0 : Hid _ := h0
    clear h0
    go_wp2
    refine H0.out _ _ ?_
    clear H0 K0
    refine wp_world (fun W => Below w.heap.size w W ∧ W.rangeAt w.heap.size 0 M) ⟨(Below.refl _ _).alloc (Nat.le_refl _) _, hX⟩ ?_
    clear hX
    rintro W ⟨B, rM⟩
    refine wp_seq_k fun K1 h1 => ?_
    have H1 : Hid _ := h1
    clear h1
    go_wp2_with first
      | (refine wpList_load_midT (by rfl) 32 _ rfl w.heap.size 0 rfl M _ rM Tryd.underlying32 rfl sz ?_)
      | (go_at_call 6; refine (DR.out _ B).mono ?_; rintro e w2 ⟨rfl, hb⟩; replace B := B.trans (hb.mono B.size); replace rM : w2.rangeAt w.heap.size 0 M := fun j v hv => cell_keep hb (rM j v hv); clear hb)
    refine H1.out _ _ ?_
    clear H1 K1
    go_wp2_with first
      | (refine wpList_load_midT (by rfl) 32 _ rfl w.heap.size 0 rfl M _ rM Tryd.underlying32 rfl sz ?_)
      | (go_at_call 28; refine (IN.out _ B).mono ?_; rintro e w3 ⟨rfl, hb⟩; replace B := B.trans (hb.mono B.size); clear hb)
    simp [bodyPost, results, Tryd.results9, go_sem]
    exact B
  · have ev : v = 0 := by have := EV.out; rwa [if_neg c] at this
    subst ev
    have c1 : (q != 0) = true := bne_iff_ne.2 c
    clear EV IN
    go_enter Tryd.func9, Tryd.ntmps9
    refine wp_seq_k fun K0 h0 => ?_
    have H0 : Hid _ := h0
    clear h0
    go_wp2
    refine H0.out _ _ ?_
    clear H0 K0
    refine wp_world (fun W => Below w.heap.size w W ∧ W.rangeAt w.heap.size 0 M) ⟨(Below.refl _ _).alloc (Nat.le_refl _) _, hX⟩ ?_
    clear hX
    rintro W ⟨B, rM⟩
    go_wp2_with first
      | (refine wpList_load_midT (by rfl) 32 _ rfl w.heap.size 0 rfl M _ rM Tryd.underlying32 rfl sz ?_)
      | (go_at_call 6; refine (DR.out _ B).mono ?_; rintro e w2 ⟨rfl, hb⟩; replace B := B.trans (hb.mono B.size); clear hb)
    simp [bodyPost, results, Tryd.results9, go_sem]
    exact B
theorem quiet_loadG {P : Program} {C : World → Prop} {a : Act} {o : Oper} {K : Act → Prop} (ty : TypeId) (x : Operand) (h : o.op = .load ty x) (b f : Nat) (hx : a.eval x = .pointer (some ⟨b, f, none⟩)) (cs : List Value) (d : TypeDesc) (hc : ∀ w, C w → w.rangeAt b f cs)
    (hu : P.underlying ty = some d) (hd : d.isRow = true) (hi : (P.info? ty).map (·.size) = some cs.length) (hk : K (a.put o.dst (.agg cs.toArray))) : o.quiet P a C K :=
  ⟨_, fun w hw => by
    unfold Oper.quietAt execOp
    simp only [h, hx, Instr.loadAt, Instr.sureAddr, Sem.run_bind, Sem.run_pure, Result.andThen_ok, run_loadVar_mid w b f ty cs d (hc w hw) hu hd hi]
    exact ⟨rfl, rfl⟩, hk⟩
set_option maxRecDepth 100000 in
set_option maxHeartbeats 4000000 in
theorem Enough_any {t : Txv} (hd : Hid (BdG t)) (h2 : t.Hsl.length < 1000000000) (w : World) (hG : TxG w t) (hR : Rws w) : Calls Tryd.prog 14 #[.agg (txC t).toArray] w fun e w' => e = .returned (.int .i64 (enV t)) ∧ Below w.heap.size w w' := by
  have h20 := hG.to.1
  have IN : Hid (∀ W, Below w.heap.size w W → Calls Tryd.prog 26 #[.agg (txC t).toArray] W fun e w' => e = .returned (.int .u64 (igT t)) ∧ Below W.heap.size W w') := fun W B => intrinsic_any hd W (hG.keep B)
  have FL : Hid (∀ W, Below w.heap.size w W → Calls Tryd.prog 28 #[.agg (txC t).toArray] W fun e w' => e = .returned (.int .u64 (flT t)) ∧ Below W.heap.size W w') := fun W B => floor_any hd.out.1 W (hG.keep B)
  have DR : Hid (∀ W, Below w.heap.size w W → Calls Tryd.prog 6 #[.agg (txC t).toArray] W fun e w' => e = .returned (.int .i64 (dfN t)) ∧ Below W.heap.size W w') := fun W B => draft_at hG (hd.out.two h2).1 (hd.out.two h2).2 hR B
  have hX := TxB.new (W := w) (ty := 32) h20
  have sz := size_tx h20
  have EV : Hid (enV t = if dfN t = 0 then (if t.gas < max (igT t) (flT t) then 182 else 0) else dfN t) := rfl
  have hM := hX.all
  have hg := hX.gas
  clear hX
  generalize txC t = M at *
  generalize enV t = v at *
  generalize igT t = r1 at *
  generalize flT t = r2 at *
  generalize dfN t = q at *
  generalize t.gas = gas at *
  clear hR h20 hG hd h2
  by_cases c : q = 0
  · subst c
    have ev : Hid (v = if gas < max r1 r2 then 182 else 0) := by have := EV.out; rwa [if_pos rfl] at this
    clear EV
    go_enter Tryd.func14, Tryd.ntmps14
    refine wp_seq_k fun K0 h0 => ?_
    have H0 : Hid _ := h0
    clear h0
    go_wp2
    refine H0.out _ _ ?_
    clear H0 K0
    refine wp_world (fun W => Below w.heap.size w W ∧ W.rangeAt w.heap.size 0 M ∧ W.cell? ⟨w.heap.size, 15, none⟩ = some (.int .u64 gas)) ⟨(Below.refl _ _).alloc (Nat.le_refl _) _, hM, hg⟩ ?_
    clear hM hg
    rintro W ⟨B, rM, cg⟩
    refine wp_seq_k fun K1 h1 => ?_
    have H1 : Hid _ := h1
    clear h1
    go_wp2_with first
      | (refine wpList_load_midT (by rfl) 32 _ rfl w.heap.size 0 rfl M _ rM Tryd.underlying32 rfl sz ?_)
      | (go_at_call 6; refine (DR.out _ B).mono ?_; rintro e w2 ⟨rfl, hb⟩; replace B := B.trans (hb.mono B.size); replace rM : w2.rangeAt w.heap.size 0 M := fun j v hv => cell_keep hb (rM j v hv); replace cg := cell_keep hb cg; clear hb W)
    refine H1.out _ _ ?_
    clear H1 K1
    refine wp_seq_k fun K2 h2 => ?_
    have H2 : Hid _ := h2
    clear h2
    have RM : Hid (∀ d os, (grow (redrawn w2 d) os).rangeAt w.heap.size 0 M) := fun d os j v hv => cell_keep (below_regrown w2 d os) (rM j v hv)
    have cg2 : ∀ d os, (grow (redrawn w2 d) os).cell? ⟨w.heap.size, 15, none⟩ = some (.int .u64 gas) := fun d os => cell_keep (below_regrown w2 d os) cg
    have BG : Hid (∀ d os, Below w.heap.size w (grow (redrawn w2 d) os)) := fun d os => B.trans ((below_regrown w2 d os).mono B.size)
    clear rM cg B
    refine wp_seq_k fun K3 h3 => ?_
    have H3 : Hid _ := h3
    clear h3
    refine wp_region_quiet_below (by kernel_rfl) (by kernel_rfl) ?_
    repeat
      first
        | go_big_quiet_skip
        | (go_big_quiet_want; refine quiet_loadG 32 _ rfl w.heap.size 0 rfl M _ (fun W' ⟨p, e⟩ => by subst e; exact RM.out p.d p.os) Tryd.underlying32 rfl sz ?_; simp only [Act.put, List.setIfInBounds_toArray, List.set_cons_zero, List.set_cons_succ]; go_big_quiet_on)
        | (go_big_quiet_want; go_big_quiet_op; go_big_quiet_on)
        | (go_big_quiet_want
           go_big_quiet_op
           apply Exists.intro
           refine ⟨fun p => ?_, ?_⟩
           · (first | (go_at_call 26; with_reducible exact Calls.regrown_of (IN.out _ (BG.out p.d p.os))) | (go_at_call 28; with_reducible exact Calls.regrown_of (FL.out _ (BG.out p.d p.os))))
           go_big_quiet_on)
    refine wpQuiet_nil ?_
    rintro w1 ⟨p, rfl⟩
    have B := BG.out p.d p.os
    generalize grow (redrawn w2 p.d) p.os = w1 at *
    clear IN FL DR RM cg2 BG
    by_cases c3 : gas < max r1 r2
    · have e1 : v = 182 := by have := ev.out; rwa [if_pos c3] at this
      have e2 : decide (gas < max r1 r2) = true := decide_eq_true c3
      rw [e2]
      subst e1
      clear ev c3 e2
      refine H3.out _ _ ?_
      clear H3
      go_wp2
      simp [bodyPost, results, Tryd.results14, go_sem]
      exact B
    · have e1 : v = 0 := by have := ev.out; rwa [if_neg c3] at this
      have e2 : decide (gas < max r1 r2) = false := decide_eq_false c3
      rw [e2]
      subst e1
      clear ev c3 e2
      refine H3.out _ _ ?_
      clear H3
      go_wp2
      refine H2.out _ _ ?_
      clear H2
      go_wp2
      simp [bodyPost, results, Tryd.results14, go_sem]
      exact B
  · have ev : v = q := by have := EV.out; rwa [if_neg c] at this
    subst ev
    have c1 : (v != 0) = true := bne_iff_ne.2 c
    clear EV IN FL hg
    go_enter Tryd.func14, Tryd.ntmps14
    refine wp_seq_k fun K0 h0 => ?_
    have H0 : Hid _ := h0
    clear h0
    go_wp2
    refine H0.out _ _ ?_
    clear H0 K0
    refine wp_world (fun W => Below w.heap.size w W ∧ W.rangeAt w.heap.size 0 M) ⟨(Below.refl _ _).alloc (Nat.le_refl _) _, hM⟩ ?_
    clear hM
    rintro W ⟨B, rM⟩
    go_wp2_with first
      | (refine wpList_load_midT (by rfl) 32 _ rfl w.heap.size 0 rfl M _ rM Tryd.underlying32 rfl sz ?_)
      | (go_at_call 6; refine (DR.out _ B).mono ?_; rintro e w2 ⟨rfl, hb⟩; replace B := B.trans (hb.mono B.size); clear hb)
    simp [bodyPost, results, Tryd.results14, go_sem]
    exact B
end Go.Proofs.YtllfmlgnemkklaaDoor
