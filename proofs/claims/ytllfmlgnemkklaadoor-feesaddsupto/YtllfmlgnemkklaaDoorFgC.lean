import Derived.Test.YtllfmlgnemkklaaDoorFgA
import Derived.Test.YtllfmlgnemkklaaDoorFgB
import Derived.Test.YtllfmlgnemkklaaDoorFxV
/- Layer 18: Intrinsic and Floor of the program, of any transaction. -/
namespace Go.Proofs.YtllfmlgnemkklaaDoor
open Go.RowKit Go.Sort
open tq
def BdG (t : Txv) : Prop := t.Dl.length < 1000000000 ∧ t.El.length < 10000000 ∧ (∀ i, i < t.El.length → (t.El.getD i zEn).ks.length < 10000000) ∧ t.Ul.length < 100000000
def gdT (X : List Int) (z q : Int) : Int := z * (zer X X.length : Nat) + q * ((X.length : Int) - (zer X X.length : Nat))
def igT (t : Txv) : Int := 21000 + gdT t.Dl 4 16 + (if t.cr then (32000 : Int) + 2 * (((t.Dl.length + 31) / 32 : Nat) : Int) else 0) + (2400 * (t.El.length : Nat) + 1900 * (keyE t.El t.El.length : Nat)) + 25000 * (t.Ul.length : Nat)
def flT (t : Txv) : Int := 21000 + gdT t.Dl 10 40
theorem gdT_bd {X : List Int} {z q : Int} (hl : X.length < 1000000000) (hz : 0 ≤ z ∧ z ≤ 40) (hq : 0 ≤ q ∧ q ≤ 40) : 0 ≤ gdT X z q ∧ gdT X z q ≤ 80000000000 := by
  have h := zer_le X X.length
  unfold gdT
  have z0 : (0 : Int) ≤ (zer X X.length : Int) := by omega
  have m1 : 0 ≤ z * (zer X X.length : Int) := Int.mul_nonneg hz.1 z0
  have m2 : z * (zer X X.length : Int) ≤ 40 * (zer X X.length : Int) := Int.mul_le_mul_of_nonneg_right hz.2 z0
  have m3 : 0 ≤ q * ((X.length : Int) - (zer X X.length : Int)) := Int.mul_nonneg hq.1 (by omega)
  have m4 : q * ((X.length : Int) - (zer X X.length : Int)) ≤ 40 * ((X.length : Int) - (zer X X.length : Int)) := Int.mul_le_mul_of_nonneg_right hq.2 (by omega)
  omega
theorem keyE_bd {L : List En} (h : ∀ i, i < L.length → (L.getD i zEn).ks.length < 10000000) : ∀ n, n ≤ L.length → keyE L n ≤ n * 10000000
  | 0, _ => Nat.le_refl _
  | n + 1, hn => by have := keyE_bd h n (by omega); have := h n (by omega); rw [keyE]; omega
set_option maxRecDepth 100000 in
set_option maxHeartbeats 4000000 in
theorem words_any {a : Option Addr} {n c : Nat} (hl : n < 1000000000) (w : World) :
    Calls Tryd.prog 43 #[.slice a n c] w fun e w' => e = .returned (.int .u64 ((n + 31) / 32 : Nat)) ∧ Below w.heap.size w w' := by
  have n1 : (n : Int) < 1000000000 := by omega
  have f1 : IntKind.u64.wrap (n : Int) = n := by rw [IntKind.wrap_u64]; omega
  have f2 : IntKind.u64.wrap ((n : Int) + 32) = (n : Int) + 32 := by rw [IntKind.wrap_u64]; omega
  have f3 : IntKind.u64.wrap ((n : Int) + 32 - 1) = (n : Int) + 31 := by rw [IntKind.wrap_u64]; omega
  go_enter Tryd.func43, Tryd.ntmps43
  go_wp2
  simp [bodyPost, results, Tryd.results43, go_sem]
  exact Below.refl _ _
set_option maxRecDepth 100000 in
set_option maxHeartbeats 4000000 in
theorem floor_any {t : Txv} (hl : t.Dl.length < 1000000000) (w : World) (hG : TxG w t) :
    Calls Tryd.prog 28 #[.agg (txC t).toArray] w fun e w' => e = .returned (.int .u64 (flT t)) ∧ Below w.heap.size w w' := by
  have h20 := hG.to.1
  have DG : Hid (∀ W, Below w.heap.size w W → Calls Tryd.prog 42 #[.slice t.Da t.Dl.length t.Dc, .int .u64 10, .int .u64 40] W fun e w' => e = .returned (.int .u64 (gdT t.Dl 10 40)) ∧ Below W.heap.size W w') := fun W B => dataGas_any hl (by decide) (by decide) W (hG.D.keep B)
  have hX := TxB.new (W := w) (ty := 32) h20
  have bd := gdT_bd (z := 10) (q := 40) hl (by decide) (by decide)
  have ef : flT t = 21000 + gdT t.Dl 10 40 := rfl
  have FW : Hid (IntKind.u64.wrap (21000 + gdT t.Dl 10 40) = flT t) := by show _ = _; rw [ef, IntKind.wrap_u64]; omega
  clear hl hG bd ef h20
  generalize gdT t.Dl 10 40 = d at *
  generalize flT t = r at *
  generalize txC t = M at *
  go_enter Tryd.func28, Tryd.ntmps28
  refine wp_seq_k fun K0 h0 => ?_
  have H0 : Hid _ := h0
  clear h0
  go_wp2
  refine H0.out _ _ ?_
  clear H0 K0
  refine wp_world (fun W => Below w.heap.size w W ∧ W.cell? ⟨w.heap.size, 41, none⟩ = some (.slice t.Da t.Dl.length t.Dc)) ⟨(Below.refl _ _).alloc (Nat.le_refl _) _, hX.D⟩ ?_
  clear hX
  rintro W ⟨B, gd⟩
  have f0 := FW.out
  go_wp2_with first
    | (go_at_call 42; refine (DG.out _ B).mono ?_; rintro e w2 ⟨rfl, hb⟩; replace B := B.trans (hb.mono B.size); clear hb)
  simp [bodyPost, results, Tryd.results28, go_sem]
  exact B
set_option maxRecDepth 100000 in
set_option maxHeartbeats 4000000 in
theorem intrinsic_any {t : Txv} (hd : Hid (BdG t)) (w : World) (hG : TxG w t) :
    Calls Tryd.prog 26 #[.agg (txC t).toArray] w fun e w' => e = .returned (.int .u64 (igT t)) ∧ Below w.heap.size w w' := by
  have h20 := hG.to.1
  have hl : t.Dl.length < 1000000000 := hd.out.1
  have DG : Hid (∀ W, Below w.heap.size w W → Calls Tryd.prog 42 #[.slice t.Da t.Dl.length t.Dc, .int .u64 4, .int .u64 16] W fun e w' => e = .returned (.int .u64 (gdT t.Dl 4 16)) ∧ Below W.heap.size W w') := fun W B => dataGas_any hl (by decide) (by decide) W (hG.D.keep B)
  have CN : Hid (∀ W, Below w.heap.size w W → Calls Tryd.prog 44 #[.slice t.Ea t.El.length t.Ec] W fun e w' => e = .returned (.tuple #[.int .i64 (t.El.length : Nat), .int .i64 (keyE t.El t.El.length : Nat)]) ∧ Below W.heap.size W w') := fun W B => countE_any (by have := hd.out.2.1; omega) (fun i hi => by have := hd.out.2.2.1 i hi; omega) W (hG.E.keep B)
  have WD : Hid (∀ W, Below w.heap.size w W → Calls Tryd.prog 43 #[.slice t.Da t.Dl.length t.Dc] W fun e w' => e = .returned (.int .u64 ((t.Dl.length + 31) / 32 : Nat)) ∧ Below W.heap.size W w') := fun W _ => words_any hl W
  have hX := TxB.new (W := w) (ty := 32) h20
  have bd := gdT_bd (z := 4) (q := 16) hl (by decide) (by decide)
  have ef : igT t = 21000 + gdT t.Dl 4 16 + (if t.cr then (32000 : Int) + 2 * (((t.Dl.length + 31) / 32 : Nat) : Int) else 0) + (2400 * (t.El.length : Nat) + 1900 * (keyE t.El t.El.length : Nat)) + 25000 * (t.Ul.length : Nat) := rfl
  have b1 := hd.out.2.1
  have b2 := keyE_bd hd.out.2.2.1 _ (Nat.le_refl _)
  have b3 := hd.out.2.2.2
  have b4 : (t.Dl.length + 31) / 32 < 100000000 := by omega
  have hc := hX.cr; have hD := hX.D; have hE := hX.E; have hU := hX.U
  clear hd hl hX hG h20
  generalize igT t = r at *
  generalize gdT t.Dl 4 16 = d at *
  generalize (t.Dl.length + 31) / 32 = k at *
  generalize keyE t.El t.El.length = kn at *
  generalize txC t = M at *
  generalize t.Ul.length = un at *
  generalize t.Dl.length = dn at *
  have FW : Hid (IntKind.u64.wrap (21000 + d) = 21000 + d ∧ IntKind.u64.wrap (2 * (k : Int)) = 2 * (k : Int) ∧ IntKind.u64.wrap (32000 + 2 * (k : Int)) = 32000 + 2 * (k : Int) ∧ IntKind.u64.wrap (21000 + d + (32000 + 2 * (k : Int))) = 21000 + d + (32000 + 2 * (k : Int)) ∧ IntKind.u64.wrap (t.El.length : Int) = t.El.length ∧ IntKind.u64.wrap (2400 * (t.El.length : Int)) = 2400 * (t.El.length : Int) ∧ IntKind.u64.wrap (kn : Int) = kn ∧ IntKind.u64.wrap (1900 * (kn : Int)) = 1900 * (kn : Int) ∧ IntKind.u64.wrap (2400 * (t.El.length : Int) + 1900 * (kn : Int)) = 2400 * (t.El.length : Int) + 1900 * (kn : Int) ∧ IntKind.u64.wrap (un : Int) = un ∧ IntKind.u64.wrap (25000 * (un : Int)) = 25000 * (un : Int)) := by
    refine ⟨?_, ?_, ?_, ?_, ?_, ?_, ?_, ?_, ?_, ?_, ?_⟩ <;> (rw [IntKind.wrap_u64]; omega)
  have FX : Hid (∀ x : Int, 0 ≤ x → x ≤ 200000000000 → IntKind.u64.wrap (x + (2400 * (t.El.length : Int) + 1900 * (kn : Int))) = x + (2400 * (t.El.length : Int) + 1900 * (kn : Int)) ∧ IntKind.u64.wrap (x + (2400 * (t.El.length : Int) + 1900 * (kn : Int)) + 25000 * (un : Int)) = x + (2400 * (t.El.length : Int) + 1900 * (kn : Int)) + 25000 * (un : Int)) := by
    intro x h0 h1
    constructor <;> (rw [IntKind.wrap_u64]; omega)
  generalize t.El.length = en at *
  have HB : Hid (0 ≤ d ∧ d ≤ 80000000000 ∧ k < 100000000) := ⟨bd.1, bd.2, b4⟩
  have EF : Hid _ := ef
  clear bd b1 b2 b3 b4 ef
  by_cases cr : t.cr = true
  · rw [cr] at hc
    have ER : Hid (r = 21000 + d + (32000 + 2 * (k : Int)) + (2400 * (en : Int) + 1900 * (kn : Int)) + 25000 * (un : Int)) := by have := EF.out; rw [if_pos cr] at this; exact this
    have fx := FX.out (21000 + d + (32000 + 2 * (k : Int))) (by have := HB.out; omega) (by have := HB.out; omega)
    clear EF cr FX
    go_enter Tryd.func26, Tryd.ntmps26
    refine wp_seq_k fun K0 h0 => ?_
    have H0 : Hid _ := h0
    clear h0
    go_wp2
    refine H0.out _ _ ?_
    clear H0 K0
    refine wp_world (fun W => Below w.heap.size w W ∧ w.heap.size < W.heap.size ∧ W.cell? ⟨w.heap.size, 16, none⟩ = some (.bool true) ∧ W.cell? ⟨w.heap.size, 41, none⟩ = some (.slice t.Da dn t.Dc) ∧ W.cell? ⟨w.heap.size, 42, none⟩ = some (.slice t.Ea en t.Ec) ∧ W.cell? ⟨w.heap.size, 48, none⟩ = some (.slice t.Ua un t.Uc)) ⟨(Below.refl _ _).alloc (Nat.le_refl _) _, by rw [World.size_alloc]; omega, hc, hD, hE, hU⟩ ?_
    clear hc hD hE hU
    rintro W ⟨B, lt, gr, gd, ge, gu⟩
    obtain ⟨f1, f2, f3, f4, f5, f6, f7, f8, f9, f10, f11⟩ := FW.out
    obtain ⟨f12, f13⟩ := fx
    go_wp2_with first
      | (go_at_call 42; refine (DG.out _ B).mono ?_; rintro e w2 ⟨rfl, hb⟩; replace B := B.trans (hb.mono B.size); replace gr := cell_keep hb gr; replace gd := cell_keep hb gd; replace ge := cell_keep hb ge; replace gu := cell_keep hb gu; clear hb)
      | (go_at_call 43; refine (WD.out _ B).mono ?_; rintro e w4 ⟨rfl, hb⟩; replace B := B.trans (hb.mono B.size); replace gr := cell_keep hb gr; replace gd := cell_keep hb gd; replace ge := cell_keep hb ge; replace gu := cell_keep hb gu; clear hb)
      | (go_at_call 44; refine (CN.out _ B).mono ?_; rintro e w3 ⟨rfl, hb⟩; replace B := B.trans (hb.mono B.size); replace gr := cell_keep hb gr; replace gd := cell_keep hb gd; replace ge := cell_keep hb ge; replace gu := cell_keep hb gu; clear hb)
    simp [bodyPost, results, Tryd.results26, go_sem]
    exact ⟨ER.out.symm, B⟩
  · have cr' : t.cr = false := by simpa using cr
    rw [cr'] at hc
    have ER : Hid (r = 21000 + d + (2400 * (en : Int) + 1900 * (kn : Int)) + 25000 * (un : Int)) := by have := EF.out; rw [if_neg cr, Int.add_zero] at this; exact this
    have fx := FX.out (21000 + d) (by have := HB.out; omega) (by have := HB.out; omega)
    clear EF cr cr' FX
    go_enter Tryd.func26, Tryd.ntmps26
    refine wp_seq_k fun K0 h0 => ?_
    have H0 : Hid _ := h0
    clear h0
    go_wp2
    refine H0.out _ _ ?_
    clear H0 K0
    refine wp_world (fun W => Below w.heap.size w W ∧ w.heap.size < W.heap.size ∧ W.cell? ⟨w.heap.size, 16, none⟩ = some (.bool false) ∧ W.cell? ⟨w.heap.size, 41, none⟩ = some (.slice t.Da dn t.Dc) ∧ W.cell? ⟨w.heap.size, 42, none⟩ = some (.slice t.Ea en t.Ec) ∧ W.cell? ⟨w.heap.size, 48, none⟩ = some (.slice t.Ua un t.Uc)) ⟨(Below.refl _ _).alloc (Nat.le_refl _) _, by rw [World.size_alloc]; omega, hc, hD, hE, hU⟩ ?_
    clear hc hD hE hU
    rintro W ⟨B, lt, gr, gd, ge, gu⟩
    obtain ⟨f1, f2, f3, f4, f5, f6, f7, f8, f9, f10, f11⟩ := FW.out
    obtain ⟨f12, f13⟩ := fx
    go_wp2_with first
      | (go_at_call 42; refine (DG.out _ B).mono ?_; rintro e w2 ⟨rfl, hb⟩; replace B := B.trans (hb.mono B.size); replace gr := cell_keep hb gr; replace gd := cell_keep hb gd; replace ge := cell_keep hb ge; replace gu := cell_keep hb gu; clear hb)
      | (go_at_call 44; refine (CN.out _ B).mono ?_; rintro e w3 ⟨rfl, hb⟩; replace B := B.trans (hb.mono B.size); replace gr := cell_keep hb gr; replace gd := cell_keep hb gd; replace ge := cell_keep hb ge; replace gu := cell_keep hb gu; clear hb)
    simp [bodyPost, results, Tryd.results26, go_sem]
    exact ⟨ER.out.symm, B⟩
end Go.Proofs.YtllfmlgnemkklaaDoor
