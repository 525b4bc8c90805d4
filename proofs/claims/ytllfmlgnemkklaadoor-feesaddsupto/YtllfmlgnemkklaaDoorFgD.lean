import Derived.Test.YtllfmlgnemkklaaDoorFgC
import Derived.Test.YtllfmlgnemkklaaDoorFgB
/- Layer 18: Intrinsic, Floor and Enough of the program, whole. -/
namespace Go.Proofs.YtllfmlgnemkklaaDoor
open Go.RowKit Go.Sort
open tq
theorem BdG.two {t : Txv} (h : BdG t) (h2 : t.Hsl.length < 1000000000) : t.Hsl.length < 1000000000 ∧ t.Ul.length < 1000000000 := ⟨h2, by have := h.2.2.2; omega⟩
def igV (t : Txv) : Int := if dfN t = 0 then igT t else 0
def flV (t : Txv) : Int := if dfN t = 0 then flT t else 0
def enV (t : Txv) : Int := if dfN t = 0 then (if t.gas < max (igT t) (flT t) then 182 else 0) else dfN t
set_option maxRecDepth 100000 in
set_option maxHeartbeats 4000000 in
theorem Intrinsic_any {t : Txv} (hd : Hid (BdG t)) (h2 : t.Hsl.length < 1000000000) (w : World) (hG : TxG w t) (hR : Rws w) : Calls Tryd.prog 7 #[.agg (txC t).toArray] w fun e w' => e = .returned (.tuple #[.int .u64 (igV t), .int .i64 (dfN t)]) ∧ Below w.heap.size w w' := by
  have h20 := hG.to.1
  have IN : Hid (∀ W, Below w.heap.size w W → Calls Tryd.prog 26 #[.agg (txC t).toArray] W fun e w' => e = .returned (.int .u64 (igT t)) ∧ Below W.heap.size W w') := fun W B => intrinsic_any hd W (hG.keep B)
  have DR : Hid (∀ W, Below w.heap.size w W → Calls Tryd.prog 6 #[.agg (txC t).toArray] W fun e w' => e = .returned (.int .i64 (dfN t)) ∧ Below W.heap.size W w') := fun W B => draft_at hG (hd.out.two h2).1 (hd.out.two h2).2 hR B
  have hX := (TxB.new (W := w) (ty := 32) h20).all
  have sz := size_tx h20
  have EV : Hid (igV t = if dfN t = 0 then igT t else 0) := rfl
  generalize txC t = M at *
  generalize igV t = v at *
  generalize igT t = r at *
  generalize dfN t = q at *
  clear hR h20 hG hd h2
  by_cases c : q = 0
  · subst c
    have ev : v = r := by have := EV.out; rwa [if_pos rfl] at this
    subst ev
    clear EV
    go_enter Tryd.func7, Tryd.ntmps7
    refine wp_seq_k fun K0 h0 => ?_
    have H0 : Hid _ := h0
    clear h0
    go_wp2
    refine H0.out _ _ ?_
    clear H0 K0
    refine wp_world (fun W => Below w.heap.size w W ∧ W.rangeAt w.heap.size 0 M) ⟨(Below.refl _ _).alloc (Nat.le_refl _) _, hX⟩ ?_
    clear hX
    rintro W ⟨B, rM⟩
    refine wp_seq_k fun K1 h1 => ?_
    have H1 : Hid _ := h1
    clear h1
    go_wp2_with first
      | (refine wpList_load_midT (by rfl) 32 _ rfl w.heap.size 0 rfl M _ rM Tryd.underlying32 rfl sz ?_)
      | (go_at_call 6; refine (DR.out _ B).mono ?_; rintro e w2 ⟨rfl, hb⟩; replace B := B.trans (hb.mono B.size); replace rM : w2.rangeAt w.heap.size 0 M := fun j v hv => cell_keep hb (rM j v hv); clear hb)
    refine H1.out _ _ ?_
    clear H1 K1
    go_wp2_with first
      | (refine wpList_load_midT (by rfl) 32 _ rfl w.heap.size 0 rfl M _ rM Tryd.underlying32 rfl sz ?_)
      | (go_at_call 26; refine (IN.out _ B).mono ?_; rintro e w3 ⟨rfl, hb⟩; replace B := B.trans (hb.mono B.size); clear hb)
    simp [bodyPost, results, Tryd.results7, go_sem]
    exact B
  · have ev : v = 0 := by have := EV.out; rwa [if_neg c] at this
    subst ev
    have c1 : (q != 0) = true := bne_iff_ne.2 c
    clear EV IN
    go_enter Tryd.func7, Tryd.ntmps7
    refine wp_seq_k fun K0 h0 => ?_
    have H0 : Hid _ := h0
    clear h0
    go_wp2
    refine H0.out _ _ ?_
    clear H0 K0
    refine wp_world (fun W => Below w.heap.size w W ∧ W.rangeAt w.heap.size 0 M) ⟨(Below.refl _ _).alloc (Nat.le_refl _) _, hX⟩ ?_
    clear hX
    rintro W ⟨B, rM⟩
    go_wp2_with first
      | (refine wpList_load_midT (by rfl) 32 _ rfl w.heap.size 0 rfl M _ rM Tryd.underlying32 rfl sz ?_)
      | (go_at_call 6; refine (DR.out _ B).mono ?_; rintro e w2 ⟨rfl, hb⟩; replace B := B.trans (hb.mono B.size); clear hb)
    simp [bodyPost, results, Tryd.results7, go_sem]
    exact B
set_option maxRecDepth 100000 in
set_option maxHeartbeats 4000000 in
theorem Floor_any {t : Txv} (hd : Hid (BdG t)) (h2 : t.Hsl.length < 1000000000) (w : World) (hG : TxG w t) (hR : Rws w) : Calls Tryd.prog 9 #[.agg (txC t).toArray] w fun e w' => e = .returned (.tuple #[.int .u64 (flV t), .int .i64 (dfN t)]) ∧ Below w.heap.size w w' := by
  have h20 := hG.to.1
  have IN : Hid (∀ W, Below w.heap.size w W → Calls Tryd.prog 28 #[.agg (txC t).toArray] W fun e w' => e = .returned (.int .u64 (flT t)) ∧ Below W.heap.size W w') := fun W B => floor_any hd.out.1 W (hG.keep B)
  have DR : Hid (∀ W, Below w.heap.size w W → Calls Tryd.prog 6 #[.agg (txC t).toArray] W fun e w' => e = .returned (.int .i64 (dfN t)) ∧ Below W.heap.size W w') := fun W B => draft_at hG (hd.out.two h2).1 (hd.out.two h2).2 hR B
  have hX := (TxB.new (W := w) (ty := 32) h20).all
  have sz := size_tx h20
  have EV : Hid (flV t = if dfN t = 0 then flT t else 0) := rfl
  generalize txC t = M at *
  generalize flV t = v at *
  generalize flT t = r at *
  generalize dfN t = q at *
  clear hR h20 hG hd h2
  by_cases c : q = 0
  · subst c
    have ev : v = r := by have := EV.out; rwa [if_pos rfl] at this
    subst ev
    clear EV
    go_enter Tryd.func9, Tryd.ntmps9
    refine wp_seq_k fun K0 h0 => ?_
    have H0 : Hid _ := h0
    clear h0
    go_wp2
    refine H0.out _ _ ?_
    clear H0 K0
    refine wp_world (fun W => Below w.heap.size w W ∧ W.rangeAt w.heap.size 0 M) ⟨(Below.refl _ _).alloc (Nat.le_refl _) _, hX⟩ ?_
    clear hX
    rintro W ⟨B, rM⟩
    refine wp_seq_k fun K1 h1 => ?_
    have H1 : Hid _ := h1
    clear h1
    go_wp2_with first
      | (refine wpList_load_midT (by rfl) 32 _ rfl w.heap.size 0 rfl M _ rM Tryd.underlying32 rfl sz ?_)
      | (go_at_call 6; refine (DR.out _ B).mono ?_; rintro e w2 ⟨rfl, hb⟩; replace B := B.trans (hb.mono B.size); replace rM : w2.rangeAt w.heap.size 0 M := fun j v hv => cell_keep hb (rM j v hv); clear hb)
    refine H1.out _ _ ?_
    clear H1 K1
    go_wp2_with first
      | (refine wpList_load_midT (by rfl) 32 _ rfl w.heap.size 0 rfl M _ rM Tryd.underlying32 rfl sz ?_)
      | (go_at_call 28; refine (IN.out _ B).mono ?_; rintro e w3 ⟨rfl, hb⟩; replace B := B.trans (hb.mono B.size); clear hb)
    simp [bodyPost, results, Tryd.results9, go_sem]
    exact B
  · have ev : v = 0 := by have := EV.out; rwa [if_neg c] at this
    subst ev
    have c1 : (q != 0) = true := bne_iff_ne.2 c
    clear EV IN
    go_enter Tryd.func9, Tryd.ntmps9
    refine wp_seq_k fun K0 h0 => ?_
    have H0 : Hid _ := h0
    clear h0
    go_wp2
    refine H0.out _ _ ?_
    clear H0 K0
    refine wp_world (fun W => Below w.heap.size w W ∧ W.rangeAt w.heap.size 0 M) ⟨(Below.refl _ _).alloc (Nat.le_refl _) _, hX⟩ ?_
    clear hX
    rintro W ⟨B, rM⟩
    go_wp2_with first
      | (refine wpList_load_midT (by rfl) 32 _ rfl w.heap.size 0 rfl M _ rM Tryd.underlying32 rfl sz ?_)
      | (go_at_call 6; refine (DR.out _ B).mono ?_; rintro e w2 ⟨rfl, hb⟩; replace B := B.trans (hb.mono B.size); clear hb)
    simp [bodyPost, results, Tryd.results9, go_sem]
    exact B
end Go.Proofs.YtllfmlgnemkklaaDoor
