import Derived.Test.YtlpmphldmfefkaaDoorFxV
import Derived.Test.YtlpmphldmfefkaaDoorQFlow
import Derived.Test.YtlpmphldmfefkaaDoorFxL
/- Layer 18: FeesSplit: the law's walk (mkfxw.py). -/
namespace Go.Proofs.YtlpmphldmfefkaaDoor
open Go.RowKit Go.Sort
open tq
/-- What a twin can be asked. -/
def TwK (b g X1 X2 ee Y1 Y2 ff cc ce : Int) (C : List Value) (V : World) : Prop := ∀ V', Below V.heap.size V V' →
  (Calls Tryd.prog 14 #[.agg C.toArray, .agg #[.int .u64 (l0 b), .int .u64 (l1 b), .int .u64 (l2 b), .int .u64 (l3 b)]] V' fun e w' => e = .returned (.tuple #[.agg #[.int .u64 (l0 X1), .int .u64 (l1 X1), .int .u64 (l2 X1), .int .u64 (l3 X1)], .agg #[.int .u64 (l0 X2), .int .u64 (l1 X2), .int .u64 (l2 X2), .int .u64 (l3 X2)], .int .i64 ee]) ∧ Below V'.heap.size V' w') ∧
  (Calls Tryd.prog 15 #[.agg C.toArray, .agg #[.int .u64 (l0 b), .int .u64 (l1 b), .int .u64 (l2 b), .int .u64 (l3 b)], .int .u64 g] V' fun e w' => e = .returned (.tuple #[.agg #[.int .u64 (l0 Y1), .int .u64 (l1 Y1), .int .u64 (l2 Y1), .int .u64 (l3 Y1)], .agg #[.int .u64 (l0 Y2), .int .u64 (l1 Y2), .int .u64 (l2 Y2), .int .u64 (l3 Y2)], .int .i64 ff]) ∧ Below V'.heap.size V' w') ∧
  (Calls Tryd.prog 21 #[.agg C.toArray] V' fun e w' => e = .returned (.tuple #[.agg #[.int .u64 (l0 cc), .int .u64 (l1 cc), .int .u64 (l2 cc), .int .u64 (l3 cc)], .int .i64 ce]) ∧ Below V'.heap.size V' w')
theorem TwK.keep {b g X1 X2 ee Y1 Y2 ff cc ce : Int} {C : List Value} {V V' : World} (h : TwK b g X1 X2 ee Y1 Y2 ff cc ce C V) (B : Below V.heap.size V V') : TwK b g X1 X2 ee Y1 Y2 ff cc ce C V' := fun V2 B2 => h V2 (B.trans (B2.mono B.size))
def PrP (M : List Value) (K : List Value → World → Prop) (B R x0 x1 x2 : Value) : Nat → Value → World → Prop
  | 0, v, _ => v = .agg M.toArray
  | 1, v, V => ∃ C : List Value, v = .agg C.toArray ∧ K C V
  | 2, v, _ => v = B
  | 3, v, _ => v = R
  | 4, v, _ => v = R
  | 5, v, _ => v = x0
  | 6, v, _ => v = x1
  | 7, v, _ => v = x2
  | _, _, _ => True
def PrC (M : List Value) (K : List Value → World → Prop) (B G R x0 x1 x2 : Value) : Nat → Value → World → Prop
  | 0, v, _ => v = .agg M.toArray
  | 1, v, V => ∃ C : List Value, v = .agg C.toArray ∧ K C V
  | 2, v, _ => v = B
  | 3, v, _ => v = G
  | 4, v, _ => v = R
  | 5, v, _ => v = R
  | 6, v, _ => v = x0
  | 7, v, _ => v = x1
  | 8, v, _ => v = x2
  | _, _, _ => True
theorem PrP_keep {M : List Value} {b g X1 X2 ee Y1 Y2 ff cc ce : Int} {B R x0 x1 x2 : Value} : ∀ i v V V', PrP M (TwK b g X1 X2 ee Y1 Y2 ff cc ce) B R x0 x1 x2 i v V → Below V.heap.size V V' → PrP M (TwK b g X1 X2 ee Y1 Y2 ff cc ce) B R x0 x1 x2 i v V'
  | 0, _, _, _, h, _ => h
  | 1, _, _, _, ⟨C, h, k⟩, B => ⟨C, h, k.keep B⟩
  | 2, _, _, _, h, _ => h
  | 3, _, _, _, h, _ => h
  | 4, _, _, _, h, _ => h
  | 5, _, _, _, h, _ => h
  | 6, _, _, _, h, _ => h
  | 7, _, _, _, h, _ => h
  | _ + 8, _, _, _, _, _ => trivial
theorem PrC_keep {M : List Value} {b g X1 X2 ee Y1 Y2 ff cc ce : Int} {B G R x0 x1 x2 : Value} : ∀ i v V V', PrC M (TwK b g X1 X2 ee Y1 Y2 ff cc ce) B G R x0 x1 x2 i v V → Below V.heap.size V V' → PrC M (TwK b g X1 X2 ee Y1 Y2 ff cc ce) B G R x0 x1 x2 i v V'
  | 0, _, _, _, h, _ => h
  | 1, _, _, _, ⟨C, h, k⟩, B => ⟨C, h, k.keep B⟩
  | 2, _, _, _, h, _ => h
  | 3, _, _, _, h, _ => h
  | 4, _, _, _, h, _ => h
  | 5, _, _, _, h, _ => h
  | 6, _, _, _, h, _ => h
  | 7, _, _, _, h, _ => h
  | 8, _, _, _, h, _ => h
  | _ + 9, _, _, _, _, _ => trivial
theorem Hold.range4 {W : World} {b : Nat} {n : Int} (h : Hold W b n) : W.rangeAt b 0 [.int .u64 (l0 n), .int .u64 (l1 n), .int .u64 (l2 n), .int .u64 (l3 n)] := fun j v hv => by
  match j with
  | 0 => obtain rfl := Option.some.inj hv; exact h.1
  | 1 => obtain rfl := Option.some.inj hv; exact h.2.1
  | 2 => obtain rfl := Option.some.inj hv; exact h.2.2.1
  | 3 => obtain rfl := Option.some.inj hv; exact h.2.2.2
  | _ + 4 => cases hv
theorem quiet_loadF {P : Program} {C : World → Prop} {a : Act} {o : Oper} {K : Act → Prop} (ty : TypeId) (x : Operand) (h : o.op = .load ty x) (b f : Nat) (hx : a.eval x = .pointer (some ⟨b, f, none⟩)) (cs : List Value) (d : TypeDesc) (hc : ∀ w, C w → w.rangeAt b f cs)
    (hu : P.underlying ty = some d) (hd : d.isRow = true) (hi : (P.info? ty).map (·.size) = some cs.length) (hk : K (a.put o.dst (.agg cs.toArray))) : o.quiet P a C K :=
  ⟨_, fun w hw => by
    unfold Oper.quietAt execOp
    simp only [h, hx, Instr.loadAt, Instr.sureAddr, Sem.run_bind, Sem.run_pure, Result.andThen_ok, run_loadVar_mid w b f ty cs d (hc w hw) hu hd hi]
    exact ⟨rfl, rfl⟩, hk⟩
theorem size_u4 : (Tryd.prog.info? 24).map (·.size) = some 4 := by kernel_rfl
set_option maxRecDepth 100000 in
set_option maxHeartbeats 16000000 in
theorem feesSplit_walk {w : World} {M : List Value} {b g X1 X2 ee Y1 Y2 ff cc ce cap ti ty gas k1 k2 k3 z s : Int} (sz : (Tryd.prog.info? 32).map (·.size) = some M.length)
    (TW : Hid (∀ V, Below w.heap.size w V → Calls Tryd.prog 11 #[.agg M.toArray] V fun e w' => ∃ v, e = .returned v ∧ (∃ C : List Value, v = .agg C.toArray ∧ TwK b g X1 X2 ee Y1 Y2 ff cc ce C w') ∧ Below V.heap.size V w'))
    (HA : Hid (ee ≠ 0 → ff = ee ∧ X1 = 0 ∧ X2 = 0 ∧ Y1 = 0 ∧ Y2 = 0))
    (AD : Hid (ee = 0 → ∀ w, Calls Tryd.prog 16 #[.agg #[.int .u64 (l0 b), .int .u64 (l1 b), .int .u64 (l2 b), .int .u64 (l3 b)], .agg #[.int .u64 (l0 X2), .int .u64 (l1 X2), .int .u64 (l2 X2), .int .u64 (l3 X2)]] w fun e w' => e = .returned (.tuple #[.agg #[.int .u64 (l0 X1), .int .u64 (l1 X1), .int .u64 (l2 X1), .int .u64 (l3 X1)], .int .u64 0]) ∧ Below w.heap.size w w'))
    (LM : Hid (ee = 0 → ∀ w, Calls Tryd.prog 18 #[.agg M.toArray] w fun e w' => e = .returned (.agg #[.int .u64 (l0 cap), .int .u64 (l1 cap), .int .u64 (l2 cap), .int .u64 (l3 cap)]) ∧ Below w.heap.size w w'))
    (CA : Hid (ee = 0 → ∀ w, Calls Tryd.prog 17 #[.agg #[.int .u64 (l0 X1), .int .u64 (l1 X1), .int .u64 (l2 X1), .int .u64 (l3 X1)], .agg #[.int .u64 (l0 cap), .int .u64 (l1 cap), .int .u64 (l2 cap), .int .u64 (l3 cap)]] w fun e w' => e = .returned (.int .i64 k1) ∧ Below w.heap.size w w')) (hk1 : Hid (ee = 0 → ((0:Int) < k1) = False))
    (CB : Hid (ee = 0 → ∀ w, Calls Tryd.prog 17 #[.agg #[.int .u64 (l0 X2), .int .u64 (l1 X2), .int .u64 (l2 X2), .int .u64 (l3 X2)], .agg #[.int .u64 (l0 ti), .int .u64 (l1 ti), .int .u64 (l2 ti), .int .u64 (l3 ti)]] w fun e w' => e = .returned (.int .i64 k2) ∧ Below w.heap.size w w')) (hk2 : Hid (ee = 0 → (2:Int) ≤ ty → ((0:Int) < k2) = False))
    (MC : Hid (∀ V : World, V.rangeAt w.heap.size 0 M → V.cell? ⟨w.heap.size, 0, none⟩ = some (.int .i64 ty) ∧ V.cell? ⟨w.heap.size, 7, none⟩ = some (.int .u64 (l0 ti)) ∧ V.cell? ⟨w.heap.size, 8, none⟩ = some (.int .u64 (l1 ti)) ∧ V.cell? ⟨w.heap.size, 9, none⟩ = some (.int .u64 (l2 ti)) ∧ V.cell? ⟨w.heap.size, 10, none⟩ = some (.int .u64 (l3 ti)) ∧ V.cell? ⟨w.heap.size, 15, none⟩ = some (.int .u64 gas)))
    (HF : Hid (ee = 0 → ff ≠ 0 → (gas < g ∧ ff = 184) ∨ ff = 183))
    (AS : Hid (ff = 0 → ∀ w, Calls Tryd.prog 16 #[.agg #[.int .u64 (l0 Y1), .int .u64 (l1 Y1), .int .u64 (l2 Y1), .int .u64 (l3 Y1)], .agg #[.int .u64 (l0 Y2), .int .u64 (l1 Y2), .int .u64 (l2 Y2), .int .u64 (l3 Y2)]] w fun e w' => e = .returned (.tuple #[.agg #[.int .u64 (l0 s), .int .u64 (l1 s), .int .u64 (l2 s), .int .u64 (l3 s)], .int .u64 0]) ∧ Below w.heap.size w w'))
    (Z0 : Hid (z = 0)) (HG : Hid (ff = 0 → ¬ gas < g)) (HC : Hid (ff = 0 → ce = 183 ∨ (ce = 0 ∧ k3 ≤ 0)))
    (CC : Hid (ff = 0 → ∀ w, Calls Tryd.prog 17 #[.agg #[.int .u64 (l0 s), .int .u64 (l1 s), .int .u64 (l2 s), .int .u64 (l3 s)], .agg #[.int .u64 (l0 cc), .int .u64 (l1 cc), .int .u64 (l2 cc), .int .u64 (l3 cc)]] w fun e w' => e = .returned (.int .i64 k3) ∧ Below w.heap.size w w'))
    (FR : Hid (∀ w, Calls Tryd.prog 20 #[.int .u64 g] w fun e w' => e = .returned (.agg #[.int .u64 (l0 g), .int .u64 (l1 g), .int .u64 (l2 g), .int .u64 (l3 g)]) ∧ Below w.heap.size w w'))
    (ML1 : Hid (ff = 0 → ∀ w, Calls Tryd.prog 19 #[.agg #[.int .u64 (l0 g), .int .u64 (l1 g), .int .u64 (l2 g), .int .u64 (l3 g)], .agg #[.int .u64 (l0 b), .int .u64 (l1 b), .int .u64 (l2 b), .int .u64 (l3 b)]] w fun e w' => e = .returned (.tuple #[.agg #[.int .u64 (l0 z), .int .u64 (l1 z), .int .u64 (l2 z), .int .u64 (l3 z)], .agg #[.int .u64 (l0 Y1), .int .u64 (l1 Y1), .int .u64 (l2 Y1), .int .u64 (l3 Y1)]]) ∧ Below w.heap.size w w'))
    (ML2 : Hid (ff = 0 → ∀ w, Calls Tryd.prog 19 #[.agg #[.int .u64 (l0 g), .int .u64 (l1 g), .int .u64 (l2 g), .int .u64 (l3 g)], .agg #[.int .u64 (l0 X2), .int .u64 (l1 X2), .int .u64 (l2 X2), .int .u64 (l3 X2)]] w fun e w' => e = .returned (.tuple #[.agg #[.int .u64 (l0 z), .int .u64 (l1 z), .int .u64 (l2 z), .int .u64 (l3 z)], .agg #[.int .u64 (l0 Y2), .int .u64 (l1 Y2), .int .u64 (l2 Y2), .int .u64 (l3 Y2)]]) ∧ Below w.heap.size w w'))
    (ML3 : Hid (ff = 0 → ∀ w, Calls Tryd.prog 19 #[.agg #[.int .u64 (l0 g), .int .u64 (l1 g), .int .u64 (l2 g), .int .u64 (l3 g)], .agg #[.int .u64 (l0 X1), .int .u64 (l1 X1), .int .u64 (l2 X1), .int .u64 (l3 X1)]] w fun e w' => e = .returned (.tuple #[.agg #[.int .u64 (l0 z), .int .u64 (l1 z), .int .u64 (l2 z), .int .u64 (l3 z)], .agg #[.int .u64 (l0 s), .int .u64 (l1 s), .int .u64 (l2 s), .int .u64 (l3 s)]]) ∧ Below w.heap.size w w'))
    (LV : Hid (∀ V, Below w.heap.size w V → Calls Tryd.prog 8 #[] V fun e w' => e = .returned (.bool true) ∧ Below V.heap.size V w')) :
    Calls Tryd.prog 4 #[.agg M.toArray, .agg #[.int .u64 (l0 b), .int .u64 (l1 b), .int .u64 (l2 b), .int .u64 (l3 b)], .int .u64 g] w fun e w' => e = .returned (.bool true) ∧ Below w.heap.size w w' := by
  have hX0 : (w.alloc (.cells M.toArray 32)).rangeAt w.heap.size 0 M := fun j v hv => by rw [Nat.zero_add, World.cell?_alloc_mark]; simpa using hv
  go_enter Tryd.func4, Tryd.ntmps4
  refine wp_seq_k fun K0 h0 => ?_
  have H0 : Hid _ := h0
  clear h0
  go_wp2
  refine H0.out _ _ ?_
  clear H0 K0
  refine wp_world (fun W => Below w.heap.size w W ∧ W.rangeAt w.heap.size 0 M ∧ Hold W (w.heap.size + 1) b) ⟨by repeat (first | with_reducible exact Below.refl _ _ | with_reducible refine Below.alloc ?_ (by first | omega | (simp; done) | (simp; omega)) _), fun j v hv => cell_keep ((Below.refl _ _).alloc (Nat.le_refl _) _) (hX0 j v hv), Hold.fresh (by simp)⟩ ?_
  clear hX0
  generalize w.heap.size + 1 = bb at *
  obtain ⟨mb, hmb⟩ : ∃ m, m = w.heap.size := ⟨_, rfl⟩
  rw [← hmb] at MC ⊢
  rintro W ⟨B, rM, hB⟩
  rw [hmb] at B
  have MB : Hid (mb = w.heap.size) := hmb
  clear hmb
  have FX : Hid (∀ V, Below W.heap.size W V → V.rangeAt mb 0 M ∧ V.rangeAt bb 0 [.int .u64 (l0 b), .int .u64 (l1 b), .int .u64 (l2 b), .int .u64 (l3 b)] ∧ Below w.heap.size w V ∧ Hold V bb b) := fun V BV => ⟨fun j v hv => cell_keep BV (rM j v hv), (hB.keep BV).range4, B.trans (BV.mono B.size), hB.keep BV⟩
  replace TW : Hid (∀ V, Below W.heap.size W V → Calls Tryd.prog 11 #[.agg M.toArray] V fun e w' => ∃ v, e = .returned v ∧ (∃ C : List Value, v = .agg C.toArray ∧ TwK b g X1 X2 ee Y1 Y2 ff cc ce C w') ∧ Below V.heap.size V w') := fun V BV => TW.out V (FX.out V BV).2.2.1
  clear rM hB
  refine wp_seq_k fun K1 h1 => ?_
  have H1 : Hid _ := h1
  clear h1
  go_wp2_with fail
  have BX : ∀ V, Below W.heap.size W V → Below W.heap.size W V := fun _ h => h
  refine flow2_w (PrP M (TwK b g X1 X2 ee Y1 Y2 ff cc ce) (.agg #[.int .u64 (l0 b), .int .u64 (l1 b), .int .u64 (l2 b), .int .u64 (l3 b)]) (.tuple #[.agg #[.int .u64 (l0 X1), .int .u64 (l1 X1), .int .u64 (l2 X1), .int .u64 (l3 X1)], .agg #[.int .u64 (l0 X2), .int .u64 (l1 X2), .int .u64 (l2 X2), .int .u64 (l3 X2)], .int .i64 ee]) (.agg #[.int .u64 (l0 X1), .int .u64 (l1 X1), .int .u64 (l2 X1), .int .u64 (l3 X1)]) (.agg #[.int .u64 (l0 X2), .int .u64 (l1 X2), .int .u64 (l2 X2), .int .u64 (l3 X2)]) (.int .i64 ee)) 8 10 6 7 (by kernel_rfl) (by kernel_rfl) (by kernel_rfl) (fun _ _ _ _ _ h => h) (by kernel_rfl) rfl rfl (alloc_num _ _ _) (alloc_num _ _ _) PrP_keep (fun i o hi ho vs V A BV dep hsz hin hout => ?HH) (fun p V V2 w1 hp e1 e2 hV hw hV2 hw2 hdd => ?TT)
  case HH =>
    have hi' : i = 0 ∨ i = 1 ∨ i = 2 ∨ i = 3 ∨ i = 4 ∨ i = 5 ∨ i = 6 ∨ i = 7 := by omega
    rcases hi' with rfl | rfl | rfl | rfl | rfl | rfl | rfl | rfl
    · obtain rfl := Option.some.inj ho
      have e3 := hout 3 (by kernel_rfl)
      exact flow_value (d := 26) rfl (hsz _ (by simp)) (yields_midT 32 (.tmp 3) rfl mb 0 (by show A.tmps.getD 3 undef = _; rw [Array.getD_eq_getD_getElem?, e3]; rfl) M _ (FX.out V (BX V BV)).1 Tryd.underlying32 rfl sz) rfl
    · obtain rfl := Option.some.inj ho
      have d1 : vs 0 = .agg M.toArray := dep 0 (by omega) (by kernel_rfl)
      have e3 := hin 0 26 (by omega) rfl
      rw [d1] at e3
      exact flow_call (d := 27) (f := 11) (args := #[.agg M.toArray]) rfl (hsz _ (by simp)) (by simp [go_sem, Act.eval, e3]) (TW.out V (BX V BV))
    · obtain rfl := Option.some.inj ho
      have e3 := hout 4 (by kernel_rfl)
      exact flow_value (d := 28) rfl (hsz _ (by simp)) (yields_midT 24 (.tmp 4) rfl bb 0 (by show A.tmps.getD 4 undef = _; rw [Array.getD_eq_getD_getElem?, e3]; rfl) [.int .u64 (l0 b), .int .u64 (l1 b), .int .u64 (l2 b), .int .u64 (l3 b)] _ (FX.out V (BX V BV)).2.1 Tryd.underlying24 rfl size_u4) rfl
    · obtain rfl := Option.some.inj ho
      obtain ⟨C, d1, kC⟩ : ∃ C : List Value, vs 1 = .agg C.toArray ∧ TwK b g X1 X2 ee Y1 Y2 ff cc ce C V := dep 1 (by omega) (by kernel_rfl)
      have e3 := hin 1 27 (by omega) rfl
      rw [d1] at e3
      have a0 : vs 2 = .agg #[.int .u64 (l0 b), .int .u64 (l1 b), .int .u64 (l2 b), .int .u64 (l3 b)] := dep 2 (by omega) (by kernel_rfl)
      have f0 := hin 2 28 (by omega) rfl
      rw [a0] at f0
      exact flow_call (d := 29) (f := 14) (args := #[.agg C.toArray, .agg #[.int .u64 (l0 b), .int .u64 (l1 b), .int .u64 (l2 b), .int .u64 (l3 b)]]) rfl (hsz _ (by simp)) (by simp [go_sem, Act.eval, e3, f0]) ((kC V (Below.refl _ _)).1.mono fun e V' ⟨h1, h2⟩ => ⟨_, h1, rfl, h2⟩)
    · obtain rfl := Option.some.inj ho
      have d1 := dep 3 (by omega) (by kernel_rfl)
      have e3 := hin 3 29 (by omega) rfl
      exact flow_value (d := 25) rfl (hsz _ (by simp)) (v := vs 3) (by simp [go_sem, Act.eval, e3]) d1
    · obtain rfl := Option.some.inj ho
      have d1 : vs 4 = .tuple #[.agg #[.int .u64 (l0 X1), .int .u64 (l1 X1), .int .u64 (l2 X1), .int .u64 (l3 X1)], .agg #[.int .u64 (l0 X2), .int .u64 (l1 X2), .int .u64 (l2 X2), .int .u64 (l3 X2)], .int .i64 ee] := dep 4 (by omega) (by kernel_rfl)
      have e3 := hin 4 25 (by omega) rfl
      rw [d1] at e3
      exact flow_value (d := 30) rfl (hsz _ (by simp)) (v := .agg #[.int .u64 (l0 X1), .int .u64 (l1 X1), .int .u64 (l2 X1), .int .u64 (l3 X1)]) (by simp [go_sem, Act.eval, e3]) rfl
    · obtain rfl := Option.some.inj ho
      have d1 : vs 4 = .tuple #[.agg #[.int .u64 (l0 X1), .int .u64 (l1 X1), .int .u64 (l2 X1), .int .u64 (l3 X1)], .agg #[.int .u64 (l0 X2), .int .u64 (l1 X2), .int .u64 (l2 X2), .int .u64 (l3 X2)], .int .i64 ee] := dep 4 (by omega) (by kernel_rfl)
      have e3 := hin 4 25 (by omega) rfl
      rw [d1] at e3
      exact flow_value (d := 31) rfl (hsz _ (by simp)) (v := .agg #[.int .u64 (l0 X2), .int .u64 (l1 X2), .int .u64 (l2 X2), .int .u64 (l3 X2)]) (by simp [go_sem, Act.eval, e3]) rfl
    · obtain rfl := Option.some.inj ho
      have d1 : vs 4 = .tuple #[.agg #[.int .u64 (l0 X1), .int .u64 (l1 X1), .int .u64 (l2 X1), .int .u64 (l3 X1)], .agg #[.int .u64 (l0 X2), .int .u64 (l1 X2), .int .u64 (l2 X2), .int .u64 (l3 X2)], .int .i64 ee] := dep 4 (by omega) (by kernel_rfl)
      have e3 := hin 4 25 (by omega) rfl
      rw [d1] at e3
      exact flow_value (d := 32) rfl (hsz _ (by simp)) (v := .int .i64 ee) (by simp [go_sem, Act.eval, e3]) rfl
  have h0 : p 0 = .agg M.toArray := hp 0 (by omega)
  obtain ⟨C1, h1, -⟩ : ∃ C : List Value, p 1 = .agg C.toArray ∧ TwK b g X1 X2 ee Y1 Y2 ff cc ce C w1 := hp 1 (by omega)
  have h2 : p 2 = .agg #[.int .u64 (l0 b), .int .u64 (l1 b), .int .u64 (l2 b), .int .u64 (l3 b)] := hp 2 (by omega)
  have h3 : p 3 = .tuple #[.agg #[.int .u64 (l0 X1), .int .u64 (l1 X1), .int .u64 (l2 X1), .int .u64 (l3 X1)], .agg #[.int .u64 (l0 X2), .int .u64 (l1 X2), .int .u64 (l2 X2), .int .u64 (l3 X2)], .int .i64 ee] := hp 3 (by omega)
  have h4 : p 4 = .tuple #[.agg #[.int .u64 (l0 X1), .int .u64 (l1 X1), .int .u64 (l2 X1), .int .u64 (l3 X1)], .agg #[.int .u64 (l0 X2), .int .u64 (l1 X2), .int .u64 (l2 X2), .int .u64 (l3 X2)], .int .i64 ee] := hp 4 (by omega)
  have h5 : p 5 = .agg #[.int .u64 (l0 X1), .int .u64 (l1 X1), .int .u64 (l2 X1), .int .u64 (l3 X1)] := hp 5 (by omega)
  have h6 : p 6 = .agg #[.int .u64 (l0 X2), .int .u64 (l1 X2), .int .u64 (l2 X2), .int .u64 (l3 X2)] := hp 6 (by omega)
  have h7 : p 7 = .int .i64 ee := hp 7 (by omega)
  simp only [flowAct, List.getElem?_toArray, List.getElem?_cons_zero, List.getElem?_cons_succ, Option.bind_some, List.drop_succ_cons, List.drop_zero, Act.put, List.setIfInBounds_toArray, List.set_cons_zero, List.set_cons_succ, h0, h1, h2, h3, h4, h5, h6, h7, e1, e2]
  clear hp h0 h1 h2 h3 h4 h5 h6 h7 e1 e2
  have hb := alloc_below hV hw
  have hN := (Blank.new rfl).keep hw
  have hM := (Blank.new rfl).keep hw2
  have gn : W.heap.size ≤ V.heap.size := hV.size
  have gm : W.heap.size ≤ V2.heap.size := hV2.size
  have hdd2 := hdd.symm
  clear hw hV hw2 hV2
  generalize V.heap.size = d0 at *
  generalize V2.heap.size = d1 at *
  clear V V2
  have gN := hN.1.all4; have qN := hN.2.all4
  have gM := hM.1.all4; have qM := hM.2.all4
  go_wp2_with fail
  refine H1.out _ _ ?_
  clear H1
  have FXX : True := trivial
  refine wp_world (fun W' => Below W.heap.size W W' ∧ Hold W' d0 X1 ∧ Hold W' d1 X2) ⟨below_set4 (below_set4 hb gn _ _ _ _) gm _ _ _ _, (Hold.sets4 (Blank.has hN)).set4 hdd2 _ _ _ _, Hold.sets4 (Blank.has (hM.set4 hdd _ _ _ _))⟩ ?_
  clear hb hN gN qN hM gM qM hdd hdd2 gn gm
  rintro W2 ⟨B2, g0, g1⟩
  clear FXX w1
  replace BX : ∀ V, Below W2.heap.size W2 V → Below W.heap.size W V := fun V h => B2.trans (h.mono B2.size)
  refine wp_seq_k fun K2 h2 => ?_
  have H2 : Hid _ := h2
  clear h2
  go_wp2_with fail
  refine flow2_w (PrC M (TwK b g X1 X2 ee Y1 Y2 ff cc ce) (.agg #[.int .u64 (l0 b), .int .u64 (l1 b), .int .u64 (l2 b), .int .u64 (l3 b)]) (.int .u64 g) (.tuple #[.agg #[.int .u64 (l0 Y1), .int .u64 (l1 Y1), .int .u64 (l2 Y1), .int .u64 (l3 Y1)], .agg #[.int .u64 (l0 Y2), .int .u64 (l1 Y2), .int .u64 (l2 Y2), .int .u64 (l3 Y2)], .int .i64 ff]) (.agg #[.int .u64 (l0 Y1), .int .u64 (l1 Y1), .int .u64 (l2 Y1), .int .u64 (l3 Y1)]) (.agg #[.int .u64 (l0 Y2), .int .u64 (l1 Y2), .int .u64 (l2 Y2), .int .u64 (l3 Y2)]) (.int .i64 ff)) 9 11 7 8 (by kernel_rfl) (by kernel_rfl) (by kernel_rfl) (fun _ _ _ _ _ h => h) (by kernel_rfl) rfl rfl (alloc_num _ _ _) (alloc_num _ _ _) PrC_keep (fun i o hi ho vs V A BV dep hsz hin hout => ?HH2) (fun p V V2 w1 hp e1 e2 hV hw hV2 hw2 hdd => ?TT2)
  case HH2 =>
    have hi' : i = 0 ∨ i = 1 ∨ i = 2 ∨ i = 3 ∨ i = 4 ∨ i = 5 ∨ i = 6 ∨ i = 7 ∨ i = 8 := by omega
    rcases hi' with rfl | rfl | rfl | rfl | rfl | rfl | rfl | rfl | rfl
    · obtain rfl := Option.some.inj ho
      have e3 := hout 3 (by kernel_rfl)
      exact flow_value (d := 34) rfl (hsz _ (by simp)) (yields_midT 32 (.tmp 3) rfl mb 0 (by show A.tmps.getD 3 undef = _; rw [Array.getD_eq_getD_getElem?, e3]; rfl) M _ (FX.out V (BX V BV)).1 Tryd.underlying32 rfl sz) rfl
    · obtain rfl := Option.some.inj ho
      have d1 : vs 0 = .agg M.toArray := dep 0 (by omega) (by kernel_rfl)
      have e3 := hin 0 34 (by omega) rfl
      rw [d1] at e3
      exact flow_call (d := 35) (f := 11) (args := #[.agg M.toArray]) rfl (hsz _ (by simp)) (by simp [go_sem, Act.eval, e3]) (TW.out V (BX V BV))
    · obtain rfl := Option.some.inj ho
      have e3 := hout 4 (by kernel_rfl)
      exact flow_value (d := 36) rfl (hsz _ (by simp)) (yields_midT 24 (.tmp 4) rfl bb 0 (by show A.tmps.getD 4 undef = _; rw [Array.getD_eq_getD_getElem?, e3]; rfl) [.int .u64 (l0 b), .int .u64 (l1 b), .int .u64 (l2 b), .int .u64 (l3 b)] _ (FX.out V (BX V BV)).2.1 Tryd.underlying24 rfl size_u4) rfl
    · obtain rfl := Option.some.inj ho
      have e3 := hout 2 (by kernel_rfl)
      exact flow_value (d := 37) rfl (hsz _ (by simp)) (v := .int .u64 g) (by simp [go_sem, Act.eval, e3]) rfl
    · obtain rfl := Option.some.inj ho
      obtain ⟨C, d1, kC⟩ : ∃ C : List Value, vs 1 = .agg C.toArray ∧ TwK b g X1 X2 ee Y1 Y2 ff cc ce C V := dep 1 (by omega) (by kernel_rfl)
      have e3 := hin 1 35 (by omega) rfl
      rw [d1] at e3
      have a0 : vs 2 = .agg #[.int .u64 (l0 b), .int .u64 (l1 b), .int .u64 (l2 b), .int .u64 (l3 b)] := dep 2 (by omega) (by kernel_rfl)
      have f0 := hin 2 36 (by omega) rfl
      rw [a0] at f0
      have a1 : vs 3 = .int .u64 g := dep 3 (by omega) (by kernel_rfl)
      have f1 := hin 3 37 (by omega) rfl
      rw [a1] at f1
      exact flow_call (d := 38) (f := 15) (args := #[.agg C.toArray, .agg #[.int .u64 (l0 b), .int .u64 (l1 b), .int .u64 (l2 b), .int .u64 (l3 b)], .int .u64 g]) rfl (hsz _ (by simp)) (by simp [go_sem, Act.eval, e3, f0, f1]) ((kC V (Below.refl _ _)).2.1.mono fun e V' ⟨h1, h2⟩ => ⟨_, h1, rfl, h2⟩)
    · obtain rfl := Option.some.inj ho
      have d1 := dep 4 (by omega) (by kernel_rfl)
      have e3 := hin 4 38 (by omega) rfl
      exact flow_value (d := 33) rfl (hsz _ (by simp)) (v := vs 4) (by simp [go_sem, Act.eval, e3]) d1
    · obtain rfl := Option.some.inj ho
      have d1 : vs 5 = .tuple #[.agg #[.int .u64 (l0 Y1), .int .u64 (l1 Y1), .int .u64 (l2 Y1), .int .u64 (l3 Y1)], .agg #[.int .u64 (l0 Y2), .int .u64 (l1 Y2), .int .u64 (l2 Y2), .int .u64 (l3 Y2)], .int .i64 ff] := dep 5 (by omega) (by kernel_rfl)
      have e3 := hin 5 33 (by omega) rfl
      rw [d1] at e3
      exact flow_value (d := 39) rfl (hsz _ (by simp)) (v := .agg #[.int .u64 (l0 Y1), .int .u64 (l1 Y1), .int .u64 (l2 Y1), .int .u64 (l3 Y1)]) (by simp [go_sem, Act.eval, e3]) rfl
    · obtain rfl := Option.some.inj ho
      have d1 : vs 5 = .tuple #[.agg #[.int .u64 (l0 Y1), .int .u64 (l1 Y1), .int .u64 (l2 Y1), .int .u64 (l3 Y1)], .agg #[.int .u64 (l0 Y2), .int .u64 (l1 Y2), .int .u64 (l2 Y2), .int .u64 (l3 Y2)], .int .i64 ff] := dep 5 (by omega) (by kernel_rfl)
      have e3 := hin 5 33 (by omega) rfl
      rw [d1] at e3
      exact flow_value (d := 40) rfl (hsz _ (by simp)) (v := .agg #[.int .u64 (l0 Y2), .int .u64 (l1 Y2), .int .u64 (l2 Y2), .int .u64 (l3 Y2)]) (by simp [go_sem, Act.eval, e3]) rfl
    · obtain rfl := Option.some.inj ho
      have d1 : vs 5 = .tuple #[.agg #[.int .u64 (l0 Y1), .int .u64 (l1 Y1), .int .u64 (l2 Y1), .int .u64 (l3 Y1)], .agg #[.int .u64 (l0 Y2), .int .u64 (l1 Y2), .int .u64 (l2 Y2), .int .u64 (l3 Y2)], .int .i64 ff] := dep 5 (by omega) (by kernel_rfl)
      have e3 := hin 5 33 (by omega) rfl
      rw [d1] at e3
      exact flow_value (d := 41) rfl (hsz _ (by simp)) (v := .int .i64 ff) (by simp [go_sem, Act.eval, e3]) rfl
  have h0 : p 0 = .agg M.toArray := hp 0 (by omega)
  obtain ⟨C1, h1, -⟩ : ∃ C : List Value, p 1 = .agg C.toArray ∧ TwK b g X1 X2 ee Y1 Y2 ff cc ce C w1 := hp 1 (by omega)
  have h2 : p 2 = .agg #[.int .u64 (l0 b), .int .u64 (l1 b), .int .u64 (l2 b), .int .u64 (l3 b)] := hp 2 (by omega)
  have h3 : p 3 = .int .u64 g := hp 3 (by omega)
  have h4 : p 4 = .tuple #[.agg #[.int .u64 (l0 Y1), .int .u64 (l1 Y1), .int .u64 (l2 Y1), .int .u64 (l3 Y1)], .agg #[.int .u64 (l0 Y2), .int .u64 (l1 Y2), .int .u64 (l2 Y2), .int .u64 (l3 Y2)], .int .i64 ff] := hp 4 (by omega)
  have h5 : p 5 = .tuple #[.agg #[.int .u64 (l0 Y1), .int .u64 (l1 Y1), .int .u64 (l2 Y1), .int .u64 (l3 Y1)], .agg #[.int .u64 (l0 Y2), .int .u64 (l1 Y2), .int .u64 (l2 Y2), .int .u64 (l3 Y2)], .int .i64 ff] := hp 5 (by omega)
  have h6 : p 6 = .agg #[.int .u64 (l0 Y1), .int .u64 (l1 Y1), .int .u64 (l2 Y1), .int .u64 (l3 Y1)] := hp 6 (by omega)
  have h7 : p 7 = .agg #[.int .u64 (l0 Y2), .int .u64 (l1 Y2), .int .u64 (l2 Y2), .int .u64 (l3 Y2)] := hp 7 (by omega)
  have h8 : p 8 = .int .i64 ff := hp 8 (by omega)
  simp only [flowAct, List.getElem?_toArray, List.getElem?_cons_zero, List.getElem?_cons_succ, Option.bind_some, List.drop_succ_cons, List.drop_zero, Act.put, List.setIfInBounds_toArray, List.set_cons_zero, List.set_cons_succ, h0, h1, h2, h3, h4, h5, h6, h7, h8, e1, e2]
  clear hp h0 h1 h2 h3 h4 h5 h6 h7 h8 e1 e2
  have hb := alloc_below hV hw
  have hN := (Blank.new rfl).keep hw
  have hM := (Blank.new rfl).keep hw2
  have gn : W2.heap.size ≤ V.heap.size := hV.size
  have gm : W2.heap.size ≤ V2.heap.size := hV2.size
  have hdd2 := hdd.symm
  have ng0 : V.heap.size ≠ d0 := Nat.ne_of_gt (Nat.lt_of_lt_of_le (World.block_lt_of_cell? _ _ g0.1) hV.size)
  have kg0 : V2.heap.size ≠ d0 := Nat.ne_of_gt (Nat.lt_of_lt_of_le (World.block_lt_of_cell? _ _ g0.1) hV2.size)
  replace g0 := g0.keep hb
  have ng1 : V.heap.size ≠ d1 := Nat.ne_of_gt (Nat.lt_of_lt_of_le (World.block_lt_of_cell? _ _ g1.1) hV.size)
  have kg1 : V2.heap.size ≠ d1 := Nat.ne_of_gt (Nat.lt_of_lt_of_le (World.block_lt_of_cell? _ _ g1.1) hV2.size)
  replace g1 := g1.keep hb
  clear hw hV hw2 hV2
  generalize V.heap.size = d2 at *
  generalize V2.heap.size = d3 at *
  clear V V2
  have gN := hN.1.all4; have qN := hN.2.all4
  have gM := hM.1.all4; have qM := hM.2.all4
  go_wp2_with fail
  refine H2.out _ _ ?_
  clear H2
  have FXX : True := trivial
  refine wp_world (fun W' => Below W2.heap.size W2 W' ∧ Hold W' d0 X1 ∧ Hold W' d1 X2 ∧ Hold W' d2 Y1 ∧ Hold W' d3 Y2) ⟨below_set4 (below_set4 hb gn _ _ _ _) gm _ _ _ _, (g0.set4 ng0 _ _ _ _).set4 kg0 _ _ _ _, (g1.set4 ng1 _ _ _ _).set4 kg1 _ _ _ _, (Hold.sets4 (Blank.has hN)).set4 hdd2 _ _ _ _, Hold.sets4 (Blank.has (hM.set4 hdd _ _ _ _))⟩ ?_
  clear hb hN gN qN hM gM qM hdd hdd2 gn gm g0 ng0 kg0 g1 ng1 kg1
  rintro V ⟨B3, g0, g1, g2, g3⟩
  clear FXX
  have BV : Hid (Below W.heap.size W V) := BX V B3
  clear B3 BX w1
  refine wp_seq_k fun K3 h3 => ?_
  have H3 : Hid _ := h3
  clear h3
  go_wp2_with first
    | (go_at_call 8; refine (LV.out _ (FX.out _ BV.out).2.2.1).mono ?_; rintro e U ⟨rfl, hb⟩; have BU : Hid (Below W.heap.size W U) := BV.out.trans (hb.mono BV.out.size); replace g0 := g0.keep hb; replace g1 := g1.keep hb; replace g2 := g2.keep hb; replace g3 := g3.keep hb; clear hb BV)
  refine H3.out _ _ ?_
  clear H3 K3 LV
  by_cases c : ee = 0
  · replace AD : Hid _ := AD.out c
    replace CA : Hid _ := CA.out c
    replace LM : Hid _ := LM.out c
    replace CB : Hid _ := CB.out c
    replace hk2 : Hid _ := hk2.out c
    replace HF : Hid _ := HF.out c
    have hk1' := hk1.out c
    subst c
    clear HA hk1
    refine wp_seq_k fun K5 h5 => ?_
    have H5 : Hid _ := h5
    clear h5
    have c0 : ((0 : Int) != 0) = false := rfl
    go_wp2
    refine H5.out _ _ ?_
    clear H5 K5
    refine wp_seq_k fun K7 h7 => ?_
    have H7 : Hid _ := h7
    clear h7
    have cB := (FX.out _ BU.out).2.2.2.cells
    have t1 := g1.cells
    go_wp2_with first
      | (go_at_call 16; refine (AD.out _).mono ?_; rintro e U2 ⟨rfl, hb⟩; have BU2 : Hid (Below W.heap.size W U2) := BU.out.trans (hb.mono BU.out.size); replace g0 := g0.keep hb; replace g1 := g1.keep hb; replace g2 := g2.keep hb; replace g3 := g3.keep hb; clear hb BU cB t1)
    refine H7.out _ _ ?_
    clear H7 K7
    refine wp_world (fun V' => Below W.heap.size W V' ∧ Hold V' d0 X1 ∧ Hold V' d1 X2 ∧ Hold V' d2 Y1 ∧ Hold V' d3 Y2 ∧ Hold V' U2.heap.size X1) ⟨BU2.out.alloc BU2.out.size _, g0.alloc _, g1.alloc _, g2.alloc _, g3.alloc _, Hold.fresh (by simp)⟩ ?_
    clear g0 g1 g2 g3
    generalize U2.heap.size = d4 at *
    clear BU2
    rintro U ⟨B, g0, g1, g2, g3, g4⟩
    have BU : Hid (Below W.heap.size W U) := B
    clear B
    refine wp_seq_k fun K8 h8 => ?_
    have H8 : Hid _ := h8
    clear h8
    refine wp_seq_k fun K9 h9 => ?_
    have H9 : Hid _ := h9
    clear h9
    have t0 := g0.grown; have t1 := g1.grown; have t4 := g4.grown
    have rM : Hid (∀ d os, (grow (redrawn U d) os).rangeAt mb 0 M) := fun d os j v hv => cell_regrown ((FX.out _ BU.out).1 j v hv) d os
    have qX : ∀ w, (Op.equalIn 10000 24 (.agg #[.int .u64 (l0 X1), .int .u64 (l1 X1), .int .u64 (l2 X1), .int .u64 (l3 X1)]) (.agg #[.int .u64 (l0 X1), .int .u64 (l1 X1), .int .u64 (l2 X1), .int .u64 (l3 X1)])).run Tryd.prog w = .ok true w := fun w => by have h := eq_lim 9998 (l0 X1) (l1 X1) (l2 X1) (l3 X1) (l0 X1) (l1 X1) (l2 X1) (l3 X1) w; simpa using h
    have mc : Hid (∀ d os, _) := fun d os => MC.out _ (rM.out d os)
    by_cases ct : (2:Int) ≤ ty
    · have mc0 := fun d os => (mc.out d os).1
      have mc1 := fun d os => (mc.out d os).2.1
      have mc2 := fun d os => (mc.out d os).2.2.1
      have mc3 := fun d os => (mc.out d os).2.2.2.1
      have mc4 := fun d os => (mc.out d os).2.2.2.2.1
      have hk := hk2.out ct
      have ct2 : ((2:Int) ≤ ty) = True := eq_true ct
      clear mc hk2 ct
      refine wp_region_quiet_below (by kernel_rfl) (by kernel_rfl) ?_
      repeat
        first
          | go_big_quiet_skip
          | (go_big_quiet_want; refine quiet_loadF 32 _ rfl mb 0 rfl M _ (fun W' ⟨p, e⟩ => by subst e; exact rM.out p.d p.os) Tryd.underlying32 rfl sz ?_; simp only [Act.put, List.setIfInBounds_toArray, List.set_cons_zero, List.set_cons_succ]; go_big_quiet_on)
          | (go_big_quiet_want; go_big_quiet_op; go_big_quiet_on)
          | (go_big_quiet_want
             go_big_quiet_op
             apply Exists.intro
             refine ⟨fun p => ?_, ?_⟩
             · (first | (go_at_call 18; with_reducible exact Calls.regrown_of (LM.out _)) | (go_at_call 17; with_reducible exact Calls.regrown_of (CA.out _)) | (go_at_call 17; with_reducible exact Calls.regrown_of (CB.out _)))
             go_big_quiet_on)
      refine wpQuiet_nil ?_
      rintro w1 ⟨p, rfl⟩
      have hb := below_regrown U p.d p.os
      generalize grow (redrawn U p.d) p.os = w1 at *
      replace g0 := g0.keep hb; replace g1 := g1.keep hb; replace g2 := g2.keep hb; replace g3 := g3.keep hb
      replace BU : Hid (Below W.heap.size W w1) := BU.out.trans (hb.mono BU.out.size)
      clear hb g4 rM t0 t1 t4 qX mc0 mc1 mc2 mc3 mc4
      clear U p
      obtain ⟨U, rfl⟩ : ∃ U : World, U = w1 := ⟨w1, rfl⟩
      refine H9.out _ _ ?_
      clear H9 K9
      go_wp2
      refine H8.out _ _ ?_
      clear H8 K8
      refine wp_seq_k fun K10 h10 => ?_
      have H10 : Hid _ := h10
      clear h10
      have gG := (MC.out _ (FX.out _ BU.out).1).2.2.2.2.2
      by_cases cf : ff = 0
      · replace ML1 : Hid _ := ML1.out cf
        replace ML2 : Hid _ := ML2.out cf
        replace ML3 : Hid _ := ML3.out cf
        replace AS : Hid _ := AS.out cf
        replace CC : Hid _ := CC.out cf
        subst cf
        have c9 : ((0 : Int) != 0) = false := rfl
        go_wp2
        refine H10.out _ _ ?_
        clear H10 K10 c9 gG
        refine wp_seq_k fun K12 h12 => ?_
        have H12 : Hid _ := h12
        clear h12
        go_wp2_with fail
        refine alloc2_tail_late (A := ?AA12a) 7 9 6 (by kernel_rfl) (by kernel_rfl) (fun _ _ _ _ _ h => h) (by kernel_rfl) rfl rfl rfl rfl (alloc_num _ _ _) (alloc_num _ _ _) (fun V hV => ?HH12a) (fun V V2 w1 hV hw hV2 hw2 hdd => ?TT12a)
        case HH12a =>
          have ghP := ((FX.out _ (BU.out.trans (hV.mono BU.out.size))).2.2.2).grown
          unfold Gr
          simp only [List.take_succ_cons, List.take_zero]
          repeat
            first
              | go_big_quiet_skip
              | (go_big_quiet_want; go_big_quiet_op; go_big_quiet_on)
              | (go_big_quiet_want
                 go_big_quiet_op
                 apply Exists.intro
                 refine ⟨fun p => ?_, ?_⟩
                 · (first | (go_at_call 20; with_reducible exact Calls.regrown_of (FR.out _)) | (go_at_call 19; with_reducible exact Calls.regrown_of (ML1.out _)))
                 go_big_quiet_on)
          refine wpQuiet_nil ?_
          exact rfl
        have hb := alloc_below hV hw
        have hN := (Blank.new rfl).keep hw
        have hM := (Blank.new rfl).keep hw2
        have gn : W.heap.size ≤ V.heap.size := Nat.le_trans BU.out.size hV.size
        have gm : W.heap.size ≤ V2.heap.size := Nat.le_trans BU.out.size hV2.size
        have hdd2 := hdd.symm
        have ng0 : V.heap.size ≠ d0 := Nat.ne_of_gt (Nat.lt_of_lt_of_le (World.block_lt_of_cell? _ _ g0.1) hV.size)
        have kg0 : V2.heap.size ≠ d0 := Nat.ne_of_gt (Nat.lt_of_lt_of_le (World.block_lt_of_cell? _ _ g0.1) hV2.size)
        replace g0 := g0.keep hb
        have ng1 : V.heap.size ≠ d1 := Nat.ne_of_gt (Nat.lt_of_lt_of_le (World.block_lt_of_cell? _ _ g1.1) hV.size)
        have kg1 : V2.heap.size ≠ d1 := Nat.ne_of_gt (Nat.lt_of_lt_of_le (World.block_lt_of_cell? _ _ g1.1) hV2.size)
        replace g1 := g1.keep hb
        have ng2 : V.heap.size ≠ d2 := Nat.ne_of_gt (Nat.lt_of_lt_of_le (World.block_lt_of_cell? _ _ g2.1) hV.size)
        have kg2 : V2.heap.size ≠ d2 := Nat.ne_of_gt (Nat.lt_of_lt_of_le (World.block_lt_of_cell? _ _ g2.1) hV2.size)
        replace g2 := g2.keep hb
        have ng3 : V.heap.size ≠ d3 := Nat.ne_of_gt (Nat.lt_of_lt_of_le (World.block_lt_of_cell? _ _ g3.1) hV.size)
        have kg3 : V2.heap.size ≠ d3 := Nat.ne_of_gt (Nat.lt_of_lt_of_le (World.block_lt_of_cell? _ _ g3.1) hV2.size)
        replace g3 := g3.keep hb
        have BN : Below W.heap.size W w1 := BU.out.trans (hb.mono BU.out.size)
        clear hw hV hw2 hV2 hb BU
        generalize V.heap.size = d5 at *
        generalize V2.heap.size = d6 at *
        clear V V2 U
        have gN := hN.1.all4; have qN := hN.2.all4
        have gM := hM.1.all4; have qM := hM.2.all4
        simp only [List.drop_succ_cons, List.drop_zero, Act.put, List.setIfInBounds_toArray, List.set_cons_zero, List.set_cons_succ]
        go_wp2_with fail
        refine H12.out _ _ ?_
        refine wp_world (fun W' => Below W.heap.size W W' ∧ Hold W' d0 X1 ∧ Hold W' d1 X2 ∧ Hold W' d2 Y1 ∧ Hold W' d3 Y2 ∧ Hold W' d5 z ∧ Hold W' d6 Y1) ⟨below_set4 (below_set4 BN gn _ _ _ _) gm _ _ _ _, (g0.set4 ng0 _ _ _ _).set4 kg0 _ _ _ _, (g1.set4 ng1 _ _ _ _).set4 kg1 _ _ _ _, (g2.set4 ng2 _ _ _ _).set4 kg2 _ _ _ _, (g3.set4 ng3 _ _ _ _).set4 kg3 _ _ _ _, (Hold.sets4 (Blank.has hN)).set4 hdd2 _ _ _ _, Hold.sets4 (Blank.has (hM.set4 hdd _ _ _ _))⟩ ?_
        clear BN hN gN qN hM gM qM hdd hdd2 gn gm H12 K12 w1 g0 ng0 kg0 g1 ng1 kg1 g2 ng2 kg2 g3 ng3 kg3
        rintro U ⟨B, g0, g1, g2, g3, gd5, gd6⟩
        have BU : Hid (Below W.heap.size W U) := B
        clear B
        refine wp_seq_k fun K13 h13 => ?_
        have H13 : Hid _ := h13
        clear h13
        go_wp2_with fail
        refine alloc2_tail_late (A := ?AA13a) 7 9 6 (by kernel_rfl) (by kernel_rfl) (fun _ _ _ _ _ h => h) (by kernel_rfl) rfl rfl rfl rfl (alloc_num _ _ _) (alloc_num _ _ _) (fun V hV => ?HH13a) (fun V V2 w1 hV hw hV2 hw2 hdd => ?TT13a)
        case HH13a =>
          have ghP := (g1.keep hV).grown
          unfold Gr
          simp only [List.take_succ_cons, List.take_zero]
          repeat
            first
              | go_big_quiet_skip
              | (go_big_quiet_want; go_big_quiet_op; go_big_quiet_on)
              | (go_big_quiet_want
                 go_big_quiet_op
                 apply Exists.intro
                 refine ⟨fun p => ?_, ?_⟩
                 · (first | (go_at_call 20; with_reducible exact Calls.regrown_of (FR.out _)) | (go_at_call 19; with_reducible exact Calls.regrown_of (ML2.out _)))
                 go_big_quiet_on)
          refine wpQuiet_nil ?_
          exact rfl
        have hb := alloc_below hV hw
        have hN := (Blank.new rfl).keep hw
        have hM := (Blank.new rfl).keep hw2
        have gn : W.heap.size ≤ V.heap.size := Nat.le_trans BU.out.size hV.size
        have gm : W.heap.size ≤ V2.heap.size := Nat.le_trans BU.out.size hV2.size
        have hdd2 := hdd.symm
        have ng0 : V.heap.size ≠ d0 := Nat.ne_of_gt (Nat.lt_of_lt_of_le (World.block_lt_of_cell? _ _ g0.1) hV.size)
        have kg0 : V2.heap.size ≠ d0 := Nat.ne_of_gt (Nat.lt_of_lt_of_le (World.block_lt_of_cell? _ _ g0.1) hV2.size)
        replace g0 := g0.keep hb
        have ng1 : V.heap.size ≠ d1 := Nat.ne_of_gt (Nat.lt_of_lt_of_le (World.block_lt_of_cell? _ _ g1.1) hV.size)
        have kg1 : V2.heap.size ≠ d1 := Nat.ne_of_gt (Nat.lt_of_lt_of_le (World.block_lt_of_cell? _ _ g1.1) hV2.size)
        replace g1 := g1.keep hb
        have ng2 : V.heap.size ≠ d2 := Nat.ne_of_gt (Nat.lt_of_lt_of_le (World.block_lt_of_cell? _ _ g2.1) hV.size)
        have kg2 : V2.heap.size ≠ d2 := Nat.ne_of_gt (Nat.lt_of_lt_of_le (World.block_lt_of_cell? _ _ g2.1) hV2.size)
        replace g2 := g2.keep hb
        have ng3 : V.heap.size ≠ d3 := Nat.ne_of_gt (Nat.lt_of_lt_of_le (World.block_lt_of_cell? _ _ g3.1) hV.size)
        have kg3 : V2.heap.size ≠ d3 := Nat.ne_of_gt (Nat.lt_of_lt_of_le (World.block_lt_of_cell? _ _ g3.1) hV2.size)
        replace g3 := g3.keep hb
        have ngd5 : V.heap.size ≠ d5 := Nat.ne_of_gt (Nat.lt_of_lt_of_le (World.block_lt_of_cell? _ _ gd5.1) hV.size)
        have kgd5 : V2.heap.size ≠ d5 := Nat.ne_of_gt (Nat.lt_of_lt_of_le (World.block_lt_of_cell? _ _ gd5.1) hV2.size)
        replace gd5 := gd5.keep hb
        have ngd6 : V.heap.size ≠ d6 := Nat.ne_of_gt (Nat.lt_of_lt_of_le (World.block_lt_of_cell? _ _ gd6.1) hV.size)
        have kgd6 : V2.heap.size ≠ d6 := Nat.ne_of_gt (Nat.lt_of_lt_of_le (World.block_lt_of_cell? _ _ gd6.1) hV2.size)
        replace gd6 := gd6.keep hb
        have BN : Below W.heap.size W w1 := BU.out.trans (hb.mono BU.out.size)
        clear hw hV hw2 hV2 hb BU
        generalize V.heap.size = d7 at *
        generalize V2.heap.size = d8 at *
        clear V V2 U
        have gN := hN.1.all4; have qN := hN.2.all4
        have gM := hM.1.all4; have qM := hM.2.all4
        simp only [List.drop_succ_cons, List.drop_zero, Act.put, List.setIfInBounds_toArray, List.set_cons_zero, List.set_cons_succ]
        go_wp2_with fail
        refine H13.out _ _ ?_
        refine wp_world (fun W' => Below W.heap.size W W' ∧ Hold W' d0 X1 ∧ Hold W' d1 X2 ∧ Hold W' d2 Y1 ∧ Hold W' d3 Y2 ∧ Hold W' d5 z ∧ Hold W' d6 Y1 ∧ Hold W' d7 z ∧ Hold W' d8 Y2) ⟨below_set4 (below_set4 BN gn _ _ _ _) gm _ _ _ _, (g0.set4 ng0 _ _ _ _).set4 kg0 _ _ _ _, (g1.set4 ng1 _ _ _ _).set4 kg1 _ _ _ _, (g2.set4 ng2 _ _ _ _).set4 kg2 _ _ _ _, (g3.set4 ng3 _ _ _ _).set4 kg3 _ _ _ _, (gd5.set4 ngd5 _ _ _ _).set4 kgd5 _ _ _ _, (gd6.set4 ngd6 _ _ _ _).set4 kgd6 _ _ _ _, (Hold.sets4 (Blank.has hN)).set4 hdd2 _ _ _ _, Hold.sets4 (Blank.has (hM.set4 hdd _ _ _ _))⟩ ?_
        clear BN hN gN qN hM gM qM hdd hdd2 gn gm H13 K13 w1 g0 ng0 kg0 g1 ng1 kg1 g2 ng2 kg2 g3 ng3 kg3 gd5 ngd5 kgd5 gd6 ngd6 kgd6
        rintro U ⟨B, g0, g1, g2, g3, gd5, gd6, gd7, gd8⟩
        have BU : Hid (Below W.heap.size W U) := B
        clear B
        refine wp_seq_k fun K14 h14 => ?_
        have H14 : Hid _ := h14
        clear h14
        go_wp2_with fail
        refine alloc2_tail_late (A := ?AA14a) 7 9 6 (by kernel_rfl) (by kernel_rfl) (fun _ _ _ _ _ h => h) (by kernel_rfl) rfl rfl rfl rfl (alloc_num _ _ _) (alloc_num _ _ _) (fun V hV => ?HH14a) (fun V V2 w1 hV hw hV2 hw2 hdd => ?TT14a)
        case HH14a =>
          have ghP := (g0.keep hV).grown
          unfold Gr
          simp only [List.take_succ_cons, List.take_zero]
          repeat
            first
              | go_big_quiet_skip
              | (go_big_quiet_want; go_big_quiet_op; go_big_quiet_on)
              | (go_big_quiet_want
                 go_big_quiet_op
                 apply Exists.intro
                 refine ⟨fun p => ?_, ?_⟩
                 · (first | (go_at_call 20; with_reducible exact Calls.regrown_of (FR.out _)) | (go_at_call 19; with_reducible exact Calls.regrown_of (ML3.out _)))
                 go_big_quiet_on)
          refine wpQuiet_nil ?_
          exact rfl
        have hb := alloc_below hV hw
        have hN := (Blank.new rfl).keep hw
        have hM := (Blank.new rfl).keep hw2
        have gn : W.heap.size ≤ V.heap.size := Nat.le_trans BU.out.size hV.size
        have gm : W.heap.size ≤ V2.heap.size := Nat.le_trans BU.out.size hV2.size
        have hdd2 := hdd.symm
        have ng0 : V.heap.size ≠ d0 := Nat.ne_of_gt (Nat.lt_of_lt_of_le (World.block_lt_of_cell? _ _ g0.1) hV.size)
        have kg0 : V2.heap.size ≠ d0 := Nat.ne_of_gt (Nat.lt_of_lt_of_le (World.block_lt_of_cell? _ _ g0.1) hV2.size)
        replace g0 := g0.keep hb
        have ng1 : V.heap.size ≠ d1 := Nat.ne_of_gt (Nat.lt_of_lt_of_le (World.block_lt_of_cell? _ _ g1.1) hV.size)
        have kg1 : V2.heap.size ≠ d1 := Nat.ne_of_gt (Nat.lt_of_lt_of_le (World.block_lt_of_cell? _ _ g1.1) hV2.size)
        replace g1 := g1.keep hb
        have ng2 : V.heap.size ≠ d2 := Nat.ne_of_gt (Nat.lt_of_lt_of_le (World.block_lt_of_cell? _ _ g2.1) hV.size)
        have kg2 : V2.heap.size ≠ d2 := Nat.ne_of_gt (Nat.lt_of_lt_of_le (World.block_lt_of_cell? _ _ g2.1) hV2.size)
        replace g2 := g2.keep hb
        have ng3 : V.heap.size ≠ d3 := Nat.ne_of_gt (Nat.lt_of_lt_of_le (World.block_lt_of_cell? _ _ g3.1) hV.size)
        have kg3 : V2.heap.size ≠ d3 := Nat.ne_of_gt (Nat.lt_of_lt_of_le (World.block_lt_of_cell? _ _ g3.1) hV2.size)
        replace g3 := g3.keep hb
        have ngd5 : V.heap.size ≠ d5 := Nat.ne_of_gt (Nat.lt_of_lt_of_le (World.block_lt_of_cell? _ _ gd5.1) hV.size)
        have kgd5 : V2.heap.size ≠ d5 := Nat.ne_of_gt (Nat.lt_of_lt_of_le (World.block_lt_of_cell? _ _ gd5.1) hV2.size)
        replace gd5 := gd5.keep hb
        have ngd6 : V.heap.size ≠ d6 := Nat.ne_of_gt (Nat.lt_of_lt_of_le (World.block_lt_of_cell? _ _ gd6.1) hV.size)
        have kgd6 : V2.heap.size ≠ d6 := Nat.ne_of_gt (Nat.lt_of_lt_of_le (World.block_lt_of_cell? _ _ gd6.1) hV2.size)
        replace gd6 := gd6.keep hb
        have ngd7 : V.heap.size ≠ d7 := Nat.ne_of_gt (Nat.lt_of_lt_of_le (World.block_lt_of_cell? _ _ gd7.1) hV.size)
        have kgd7 : V2.heap.size ≠ d7 := Nat.ne_of_gt (Nat.lt_of_lt_of_le (World.block_lt_of_cell? _ _ gd7.1) hV2.size)
        replace gd7 := gd7.keep hb
        have ngd8 : V.heap.size ≠ d8 := Nat.ne_of_gt (Nat.lt_of_lt_of_le (World.block_lt_of_cell? _ _ gd8.1) hV.size)
        have kgd8 : V2.heap.size ≠ d8 := Nat.ne_of_gt (Nat.lt_of_lt_of_le (World.block_lt_of_cell? _ _ gd8.1) hV2.size)
        replace gd8 := gd8.keep hb
        have BN : Below W.heap.size W w1 := BU.out.trans (hb.mono BU.out.size)
        clear hw hV hw2 hV2 hb BU
        generalize V.heap.size = d9 at *
        generalize V2.heap.size = dA at *
        clear V V2 U
        have gN := hN.1.all4; have qN := hN.2.all4
        have gM := hM.1.all4; have qM := hM.2.all4
        simp only [List.drop_succ_cons, List.drop_zero, Act.put, List.setIfInBounds_toArray, List.set_cons_zero, List.set_cons_succ]
        go_wp2_with fail
        refine H14.out _ _ ?_
        refine wp_world (fun W' => Below W.heap.size W W' ∧ Hold W' d0 X1 ∧ Hold W' d1 X2 ∧ Hold W' d2 Y1 ∧ Hold W' d3 Y2 ∧ Hold W' d5 z ∧ Hold W' d6 Y1 ∧ Hold W' d7 z ∧ Hold W' d8 Y2 ∧ Hold W' d9 z ∧ Hold W' dA s) ⟨below_set4 (below_set4 BN gn _ _ _ _) gm _ _ _ _, (g0.set4 ng0 _ _ _ _).set4 kg0 _ _ _ _, (g1.set4 ng1 _ _ _ _).set4 kg1 _ _ _ _, (g2.set4 ng2 _ _ _ _).set4 kg2 _ _ _ _, (g3.set4 ng3 _ _ _ _).set4 kg3 _ _ _ _, (gd5.set4 ngd5 _ _ _ _).set4 kgd5 _ _ _ _, (gd6.set4 ngd6 _ _ _ _).set4 kgd6 _ _ _ _, (gd7.set4 ngd7 _ _ _ _).set4 kgd7 _ _ _ _, (gd8.set4 ngd8 _ _ _ _).set4 kgd8 _ _ _ _, (Hold.sets4 (Blank.has hN)).set4 hdd2 _ _ _ _, Hold.sets4 (Blank.has (hM.set4 hdd _ _ _ _))⟩ ?_
        clear BN hN gN qN hM gM qM hdd hdd2 gn gm H14 K14 w1 g0 ng0 kg0 g1 ng1 kg1 g2 ng2 kg2 g3 ng3 kg3 gd5 ngd5 kgd5 gd6 ngd6 kgd6 gd7 ngd7 kgd7 gd8 ngd8 kgd8
        rintro U ⟨B, g0, g1, g2, g3, gd5, gd6, gd7, gd8, gd9, gdA⟩
        have BU : Hid (Below W.heap.size W U) := B
        clear B
        refine wp_seq_k fun K15 h15 => ?_
        have H15 : Hid _ := h15
        clear h15
        have t2 := g2.cells; have t3 := g3.cells
        go_wp2_with first
          | (go_at_call 16; refine (AS.out _).mono ?_; rintro e U2 ⟨rfl, hb⟩; have BU2 : Hid (Below W.heap.size W U2) := BU.out.trans (hb.mono BU.out.size); replace g0 := g0.keep hb; replace g1 := g1.keep hb; replace g2 := g2.keep hb; replace g3 := g3.keep hb; replace gd5 := gd5.keep hb; replace gd6 := gd6.keep hb; replace gd7 := gd7.keep hb; replace gd8 := gd8.keep hb; replace gd9 := gd9.keep hb; replace gdA := gdA.keep hb; clear hb BU t2 t3)
        refine H15.out _ _ ?_
        clear H15 K15
        refine wp_world (fun V' => Below W.heap.size W V' ∧ Hold V' d0 X1 ∧ Hold V' d1 X2 ∧ Hold V' d2 Y1 ∧ Hold V' d3 Y2 ∧ Hold V' d5 z ∧ Hold V' d6 Y1 ∧ Hold V' d7 z ∧ Hold V' d8 Y2 ∧ Hold V' d9 z ∧ Hold V' dA s ∧ Hold V' U2.heap.size s) ⟨BU2.out.alloc BU2.out.size _, g0.alloc _, g1.alloc _, g2.alloc _, g3.alloc _, gd5.alloc _, gd6.alloc _, gd7.alloc _, gd8.alloc _, gd9.alloc _, gdA.alloc _, Hold.fresh (by simp)⟩ ?_
        clear g0 g1 g2 g3 gd5 gd6 gd7 gd8 gd9 gdA
        generalize U2.heap.size = dB at *
        clear BU2
        rintro U ⟨B, g0, g1, g2, g3, gd5, gd6, gd7, gd8, gd9, gdA, gdB⟩
        have BU : Hid (Below W.heap.size W U) := B
        clear B
        refine wp_seq_k fun K16 h16 => ?_
        have H16 : Hid _ := h16
        clear h16
        have t2 := g2.cells; have t3 := g3.cells; have t5 := gd5.cells; have t6 := gd6.cells; have t7 := gd7.cells; have t8 := gd8.cells; have t9 := gd9.cells; have tA := gdA.cells; have tB := gdB.cells
        have eqF : ∀ X : Int, ∀ w, (Op.equalIn 10000 24 (.agg #[.int .u64 (l0 X), .int .u64 (l1 X), .int .u64 (l2 X), .int .u64 (l3 X)]) (.agg #[.int .u64 (l0 X), .int .u64 (l1 X), .int .u64 (l2 X), .int .u64 (l3 X)])).run Tryd.prog w = .ok true w := fun X w => by have h := eq_lim 9998 (l0 X) (l1 X) (l2 X) (l3 X) (l0 X) (l1 X) (l2 X) (l3 X) w; simpa using h
        have qz : ∀ w, (Op.equalIn 10000 24 (.agg #[.int .u64 (l0 z), .int .u64 (l1 z), .int .u64 (l2 z), .int .u64 (l3 z)]) (.agg #[.int .u64 0, .int .u64 0, .int .u64 0, .int .u64 0])).run Tryd.prog w = .ok true w := fun w => by
          have := eq_zeroT (m := z) (by rw [Z0.out]; exact ⟨by decide, by decide⟩) w
          rw [decide_eq_true Z0.out] at this
          exact this
        have q1 := eqF Y1; have q2 := eqF Y2; have q3 := eqF s
        clear eqF
        have hz := build_zero
        have gG := (MC.out _ (FX.out _ BU.out).1).2.2.2.2.2
        have cg : (gas < g) = False := eq_false (by have := HG.out (by simp); omega)
        go_wp2
        refine H16.out _ _ ?_
        clear H16 K16 t2 t3 t5 t6 t7 t8 t9 tA tB qz q1 q2 q3 hz gG cg
        refine wp_seq_k fun K18 h18 => ?_
        have H18 : Hid _ := h18
        clear h18
        have rM := (FX.out _ BU.out).1
        go_wp2_with first
          | (refine wpList_load_midT (by rfl) 32 _ rfl mb 0 rfl M _ rM Tryd.underlying32 rfl sz ?_)
          | (go_at_call 11; refine (TW.out _ BU.out).mono ?_; rintro e U2 ⟨v, rfl, ⟨C, rfl, kC⟩, hb⟩; have KC : Hid (TwK b g X1 X2 0 Y1 Y2 0 cc ce C U2) := kC; have BU2 : Hid (Below W.heap.size W U2) := BU.out.trans (hb.mono BU.out.size); replace gdB := gdB.keep hb; clear hb BU rM kC)
          | (go_at_call 21; refine (KC.out _ (Below.refl _ _)).2.2.mono ?_; rintro e U3 ⟨rfl, hb⟩; have BU3 : Hid (Below W.heap.size W U3) := BU2.out.trans (hb.mono BU2.out.size); replace gdB := gdB.keep hb; clear hb BU2)
        refine H18.out _ _ ?_
        clear H18 K18
        refine wp_world (fun V' => Below W.heap.size W V' ∧ Hold V' dB s ∧ Hold V' U3.heap.size cc) ⟨BU3.out.alloc BU3.out.size _, gdB.alloc _, Hold.fresh (by simp)⟩ ?_
        clear gdB
        generalize U3.heap.size = dC at *
        clear BU3
        rintro U ⟨B, gdB, gdC⟩
        have BU : Hid (Below W.heap.size W U) := B
        clear B
        have tB := gdB.cells; have tC := gdC.cells
        rcases HC.out (by simp) with rfl | ⟨rfl, hk3⟩
        · go_wp2
          simp [bodyPost, results, Tryd.results4, go_sem]
          rw [MB.out]
          exact (FX.out _ BU.out).2.2.1
        · have ck : (k3 ≤ (0:Int)) = True := eq_true hk3
          go_wp2_with first
            | (go_at_call 17; refine (CC.out _).mono ?_; rintro e U2 ⟨rfl, hb⟩; have BU2 : Hid (Below W.heap.size W U2) := BU.out.trans (hb.mono BU.out.size); clear hb BU)
          simp [bodyPost, results, Tryd.results4, go_sem]
          rw [MB.out]
          exact (FX.out _ BU2.out).2.2.1
      · have c9 : (ff != 0) = true := bne_iff_ne.2 cf
        rcases HF.out cf with ⟨ca, rfl⟩ | rfl
        · have cb : (gas < g) = True := eq_true ca
          go_wp2
          simp [bodyPost, results, Tryd.results4, go_sem]
          rw [MB.out]
          exact (FX.out _ BU.out).2.2.1
        · by_cases ca : gas < g
          · have cb : (gas < g) = True := eq_true ca
            go_wp2
            simp [bodyPost, results, Tryd.results4, go_sem]
            rw [MB.out]
            exact (FX.out _ BU.out).2.2.1
          · have cb : (gas < g) = False := eq_false ca
            go_wp2
            simp [bodyPost, results, Tryd.results4, go_sem]
            rw [MB.out]
            exact (FX.out _ BU.out).2.2.1
    · have mc0 := fun d os => (mc.out d os).1
      have mc1 := fun d os => (mc.out d os).2.1
      have mc2 := fun d os => (mc.out d os).2.2.1
      have mc3 := fun d os => (mc.out d os).2.2.2.1
      have mc4 := fun d os => (mc.out d os).2.2.2.2.1
      have ct2 : ((2:Int) ≤ ty) = False := eq_false ct
      clear mc hk2 ct
      refine wp_region_quiet_below (by kernel_rfl) (by kernel_rfl) ?_
      repeat
        first
          | go_big_quiet_skip
          | (go_big_quiet_want; refine quiet_loadF 32 _ rfl mb 0 rfl M _ (fun W' ⟨p, e⟩ => by subst e; exact rM.out p.d p.os) Tryd.underlying32 rfl sz ?_; simp only [Act.put, List.setIfInBounds_toArray, List.set_cons_zero, List.set_cons_succ]; go_big_quiet_on)
          | (go_big_quiet_want; go_big_quiet_op; go_big_quiet_on)
          | (go_big_quiet_want
             go_big_quiet_op
             apply Exists.intro
             refine ⟨fun p => ?_, ?_⟩
             · (first | (go_at_call 18; with_reducible exact Calls.regrown_of (LM.out _)) | (go_at_call 17; with_reducible exact Calls.regrown_of (CA.out _)) | (go_at_call 17; with_reducible exact Calls.regrown_of (CB.out _)))
             go_big_quiet_on)
      refine wpQuiet_nil ?_
      rintro w1 ⟨p, rfl⟩
      have hb := below_regrown U p.d p.os
      generalize grow (redrawn U p.d) p.os = w1 at *
      replace g0 := g0.keep hb; replace g1 := g1.keep hb; replace g2 := g2.keep hb; replace g3 := g3.keep hb
      replace BU : Hid (Below W.heap.size W w1) := BU.out.trans (hb.mono BU.out.size)
      clear hb g4 rM t0 t1 t4 qX mc0 mc1 mc2 mc3 mc4
      clear U p
      obtain ⟨U, rfl⟩ : ∃ U : World, U = w1 := ⟨w1, rfl⟩
      refine H9.out _ _ ?_
      clear H9 K9
      go_wp2
      refine H8.out _ _ ?_
      clear H8 K8
      refine wp_seq_k fun K10 h10 => ?_
      have H10 : Hid _ := h10
      clear h10
      have gG := (MC.out _ (FX.out _ BU.out).1).2.2.2.2.2
      by_cases cf : ff = 0
      · replace ML1 : Hid _ := ML1.out cf
        replace ML2 : Hid _ := ML2.out cf
        replace ML3 : Hid _ := ML3.out cf
        replace AS : Hid _ := AS.out cf
        replace CC : Hid _ := CC.out cf
        subst cf
        have c9 : ((0 : Int) != 0) = false := rfl
        go_wp2
        refine H10.out _ _ ?_
        clear H10 K10 c9 gG
        refine wp_seq_k fun K12 h12 => ?_
        have H12 : Hid _ := h12
        clear h12
        go_wp2_with fail
        refine alloc2_tail_late (A := ?AA12b) 7 9 6 (by kernel_rfl) (by kernel_rfl) (fun _ _ _ _ _ h => h) (by kernel_rfl) rfl rfl rfl rfl (alloc_num _ _ _) (alloc_num _ _ _) (fun V hV => ?HH12b) (fun V V2 w1 hV hw hV2 hw2 hdd => ?TT12b)
        case HH12b =>
          have ghP := ((FX.out _ (BU.out.trans (hV.mono BU.out.size))).2.2.2).grown
          unfold Gr
          simp only [List.take_succ_cons, List.take_zero]
          repeat
            first
              | go_big_quiet_skip
              | (go_big_quiet_want; go_big_quiet_op; go_big_quiet_on)
              | (go_big_quiet_want
                 go_big_quiet_op
                 apply Exists.intro
                 refine ⟨fun p => ?_, ?_⟩
                 · (first | (go_at_call 20; with_reducible exact Calls.regrown_of (FR.out _)) | (go_at_call 19; with_reducible exact Calls.regrown_of (ML1.out _)))
                 go_big_quiet_on)
          refine wpQuiet_nil ?_
          exact rfl
        have hb := alloc_below hV hw
        have hN := (Blank.new rfl).keep hw
        have hM := (Blank.new rfl).keep hw2
        have gn : W.heap.size ≤ V.heap.size := Nat.le_trans BU.out.size hV.size
        have gm : W.heap.size ≤ V2.heap.size := Nat.le_trans BU.out.size hV2.size
        have hdd2 := hdd.symm
        have ng0 : V.heap.size ≠ d0 := Nat.ne_of_gt (Nat.lt_of_lt_of_le (World.block_lt_of_cell? _ _ g0.1) hV.size)
        have kg0 : V2.heap.size ≠ d0 := Nat.ne_of_gt (Nat.lt_of_lt_of_le (World.block_lt_of_cell? _ _ g0.1) hV2.size)
        replace g0 := g0.keep hb
        have ng1 : V.heap.size ≠ d1 := Nat.ne_of_gt (Nat.lt_of_lt_of_le (World.block_lt_of_cell? _ _ g1.1) hV.size)
        have kg1 : V2.heap.size ≠ d1 := Nat.ne_of_gt (Nat.lt_of_lt_of_le (World.block_lt_of_cell? _ _ g1.1) hV2.size)
        replace g1 := g1.keep hb
        have ng2 : V.heap.size ≠ d2 := Nat.ne_of_gt (Nat.lt_of_lt_of_le (World.block_lt_of_cell? _ _ g2.1) hV.size)
        have kg2 : V2.heap.size ≠ d2 := Nat.ne_of_gt (Nat.lt_of_lt_of_le (World.block_lt_of_cell? _ _ g2.1) hV2.size)
        replace g2 := g2.keep hb
        have ng3 : V.heap.size ≠ d3 := Nat.ne_of_gt (Nat.lt_of_lt_of_le (World.block_lt_of_cell? _ _ g3.1) hV.size)
        have kg3 : V2.heap.size ≠ d3 := Nat.ne_of_gt (Nat.lt_of_lt_of_le (World.block_lt_of_cell? _ _ g3.1) hV2.size)
        replace g3 := g3.keep hb
        have BN : Below W.heap.size W w1 := BU.out.trans (hb.mono BU.out.size)
        clear hw hV hw2 hV2 hb BU
        generalize V.heap.size = d5 at *
        generalize V2.heap.size = d6 at *
        clear V V2 U
        have gN := hN.1.all4; have qN := hN.2.all4
        have gM := hM.1.all4; have qM := hM.2.all4
        simp only [List.drop_succ_cons, List.drop_zero, Act.put, List.setIfInBounds_toArray, List.set_cons_zero, List.set_cons_succ]
        go_wp2_with fail
        refine H12.out _ _ ?_
        refine wp_world (fun W' => Below W.heap.size W W' ∧ Hold W' d0 X1 ∧ Hold W' d1 X2 ∧ Hold W' d2 Y1 ∧ Hold W' d3 Y2 ∧ Hold W' d5 z ∧ Hold W' d6 Y1) ⟨below_set4 (below_set4 BN gn _ _ _ _) gm _ _ _ _, (g0.set4 ng0 _ _ _ _).set4 kg0 _ _ _ _, (g1.set4 ng1 _ _ _ _).set4 kg1 _ _ _ _, (g2.set4 ng2 _ _ _ _).set4 kg2 _ _ _ _, (g3.set4 ng3 _ _ _ _).set4 kg3 _ _ _ _, (Hold.sets4 (Blank.has hN)).set4 hdd2 _ _ _ _, Hold.sets4 (Blank.has (hM.set4 hdd _ _ _ _))⟩ ?_
        clear BN hN gN qN hM gM qM hdd hdd2 gn gm H12 K12 w1 g0 ng0 kg0 g1 ng1 kg1 g2 ng2 kg2 g3 ng3 kg3
        rintro U ⟨B, g0, g1, g2, g3, gd5, gd6⟩
        have BU : Hid (Below W.heap.size W U) := B
        clear B
        refine wp_seq_k fun K13 h13 => ?_
        have H13 : Hid _ := h13
        clear h13
        go_wp2_with fail
        refine alloc2_tail_late (A := ?AA13b) 7 9 6 (by kernel_rfl) (by kernel_rfl) (fun _ _ _ _ _ h => h) (by kernel_rfl) rfl rfl rfl rfl (alloc_num _ _ _) (alloc_num _ _ _) (fun V hV => ?HH13b) (fun V V2 w1 hV hw hV2 hw2 hdd => ?TT13b)
        case HH13b =>
          have ghP := (g1.keep hV).grown
          unfold Gr
          simp only [List.take_succ_cons, List.take_zero]
          repeat
            first
              | go_big_quiet_skip
              | (go_big_quiet_want; go_big_quiet_op; go_big_quiet_on)
              | (go_big_quiet_want
                 go_big_quiet_op
                 apply Exists.intro
                 refine ⟨fun p => ?_, ?_⟩
                 · (first | (go_at_call 20; with_reducible exact Calls.regrown_of (FR.out _)) | (go_at_call 19; with_reducible exact Calls.regrown_of (ML2.out _)))
                 go_big_quiet_on)
          refine wpQuiet_nil ?_
          exact rfl
        have hb := alloc_below hV hw
        have hN := (Blank.new rfl).keep hw
        have hM := (Blank.new rfl).keep hw2
        have gn : W.heap.size ≤ V.heap.size := Nat.le_trans BU.out.size hV.size
        have gm : W.heap.size ≤ V2.heap.size := Nat.le_trans BU.out.size hV2.size
        have hdd2 := hdd.symm
        have ng0 : V.heap.size ≠ d0 := Nat.ne_of_gt (Nat.lt_of_lt_of_le (World.block_lt_of_cell? _ _ g0.1) hV.size)
        have kg0 : V2.heap.size ≠ d0 := Nat.ne_of_gt (Nat.lt_of_lt_of_le (World.block_lt_of_cell? _ _ g0.1) hV2.size)
        replace g0 := g0.keep hb
        have ng1 : V.heap.size ≠ d1 := Nat.ne_of_gt (Nat.lt_of_lt_of_le (World.block_lt_of_cell? _ _ g1.1) hV.size)
        have kg1 : V2.heap.size ≠ d1 := Nat.ne_of_gt (Nat.lt_of_lt_of_le (World.block_lt_of_cell? _ _ g1.1) hV2.size)
        replace g1 := g1.keep hb
        have ng2 : V.heap.size ≠ d2 := Nat.ne_of_gt (Nat.lt_of_lt_of_le (World.block_lt_of_cell? _ _ g2.1) hV.size)
        have kg2 : V2.heap.size ≠ d2 := Nat.ne_of_gt (Nat.lt_of_lt_of_le (World.block_lt_of_cell? _ _ g2.1) hV2.size)
        replace g2 := g2.keep hb
        have ng3 : V.heap.size ≠ d3 := Nat.ne_of_gt (Nat.lt_of_lt_of_le (World.block_lt_of_cell? _ _ g3.1) hV.size)
        have kg3 : V2.heap.size ≠ d3 := Nat.ne_of_gt (Nat.lt_of_lt_of_le (World.block_lt_of_cell? _ _ g3.1) hV2.size)
        replace g3 := g3.keep hb
        have ngd5 : V.heap.size ≠ d5 := Nat.ne_of_gt (Nat.lt_of_lt_of_le (World.block_lt_of_cell? _ _ gd5.1) hV.size)
        have kgd5 : V2.heap.size ≠ d5 := Nat.ne_of_gt (Nat.lt_of_lt_of_le (World.block_lt_of_cell? _ _ gd5.1) hV2.size)
        replace gd5 := gd5.keep hb
        have ngd6 : V.heap.size ≠ d6 := Nat.ne_of_gt (Nat.lt_of_lt_of_le (World.block_lt_of_cell? _ _ gd6.1) hV.size)
        have kgd6 : V2.heap.size ≠ d6 := Nat.ne_of_gt (Nat.lt_of_lt_of_le (World.block_lt_of_cell? _ _ gd6.1) hV2.size)
        replace gd6 := gd6.keep hb
        have BN : Below W.heap.size W w1 := BU.out.trans (hb.mono BU.out.size)
        clear hw hV hw2 hV2 hb BU
        generalize V.heap.size = d7 at *
        generalize V2.heap.size = d8 at *
        clear V V2 U
        have gN := hN.1.all4; have qN := hN.2.all4
        have gM := hM.1.all4; have qM := hM.2.all4
        simp only [List.drop_succ_cons, List.drop_zero, Act.put, List.setIfInBounds_toArray, List.set_cons_zero, List.set_cons_succ]
        go_wp2_with fail
        refine H13.out _ _ ?_
        refine wp_world (fun W' => Below W.heap.size W W' ∧ Hold W' d0 X1 ∧ Hold W' d1 X2 ∧ Hold W' d2 Y1 ∧ Hold W' d3 Y2 ∧ Hold W' d5 z ∧ Hold W' d6 Y1 ∧ Hold W' d7 z ∧ Hold W' d8 Y2) ⟨below_set4 (below_set4 BN gn _ _ _ _) gm _ _ _ _, (g0.set4 ng0 _ _ _ _).set4 kg0 _ _ _ _, (g1.set4 ng1 _ _ _ _).set4 kg1 _ _ _ _, (g2.set4 ng2 _ _ _ _).set4 kg2 _ _ _ _, (g3.set4 ng3 _ _ _ _).set4 kg3 _ _ _ _, (gd5.set4 ngd5 _ _ _ _).set4 kgd5 _ _ _ _, (gd6.set4 ngd6 _ _ _ _).set4 kgd6 _ _ _ _, (Hold.sets4 (Blank.has hN)).set4 hdd2 _ _ _ _, Hold.sets4 (Blank.has (hM.set4 hdd _ _ _ _))⟩ ?_
        clear BN hN gN qN hM gM qM hdd hdd2 gn gm H13 K13 w1 g0 ng0 kg0 g1 ng1 kg1 g2 ng2 kg2 g3 ng3 kg3 gd5 ngd5 kgd5 gd6 ngd6 kgd6
        rintro U ⟨B, g0, g1, g2, g3, gd5, gd6, gd7, gd8⟩
        have BU : Hid (Below W.heap.size W U) := B
        clear B
        refine wp_seq_k fun K14 h14 => ?_
        have H14 : Hid _ := h14
        clear h14
        go_wp2_with fail
        refine alloc2_tail_late (A := ?AA14b) 7 9 6 (by kernel_rfl) (by kernel_rfl) (fun _ _ _ _ _ h => h) (by kernel_rfl) rfl rfl rfl rfl (alloc_num _ _ _) (alloc_num _ _ _) (fun V hV => ?HH14b) (fun V V2 w1 hV hw hV2 hw2 hdd => ?TT14b)
        case HH14b =>
          have ghP := (g0.keep hV).grown
          unfold Gr
          simp only [List.take_succ_cons, List.take_zero]
          repeat
            first
              | go_big_quiet_skip
              | (go_big_quiet_want; go_big_quiet_op; go_big_quiet_on)
              | (go_big_quiet_want
                 go_big_quiet_op
                 apply Exists.intro
                 refine ⟨fun p => ?_, ?_⟩
                 · (first | (go_at_call 20; with_reducible exact Calls.regrown_of (FR.out _)) | (go_at_call 19; with_reducible exact Calls.regrown_of (ML3.out _)))
                 go_big_quiet_on)
          refine wpQuiet_nil ?_
          exact rfl
        have hb := alloc_below hV hw
        have hN := (Blank.new rfl).keep hw
        have hM := (Blank.new rfl).keep hw2
        have gn : W.heap.size ≤ V.heap.size := Nat.le_trans BU.out.size hV.size
        have gm : W.heap.size ≤ V2.heap.size := Nat.le_trans BU.out.size hV2.size
        have hdd2 := hdd.symm
        have ng0 : V.heap.size ≠ d0 := Nat.ne_of_gt (Nat.lt_of_lt_of_le (World.block_lt_of_cell? _ _ g0.1) hV.size)
        have kg0 : V2.heap.size ≠ d0 := Nat.ne_of_gt (Nat.lt_of_lt_of_le (World.block_lt_of_cell? _ _ g0.1) hV2.size)
        replace g0 := g0.keep hb
        have ng1 : V.heap.size ≠ d1 := Nat.ne_of_gt (Nat.lt_of_lt_of_le (World.block_lt_of_cell? _ _ g1.1) hV.size)
        have kg1 : V2.heap.size ≠ d1 := Nat.ne_of_gt (Nat.lt_of_lt_of_le (World.block_lt_of_cell? _ _ g1.1) hV2.size)
        replace g1 := g1.keep hb
        have ng2 : V.heap.size ≠ d2 := Nat.ne_of_gt (Nat.lt_of_lt_of_le (World.block_lt_of_cell? _ _ g2.1) hV.size)
        have kg2 : V2.heap.size ≠ d2 := Nat.ne_of_gt (Nat.lt_of_lt_of_le (World.block_lt_of_cell? _ _ g2.1) hV2.size)
        replace g2 := g2.keep hb
        have ng3 : V.heap.size ≠ d3 := Nat.ne_of_gt (Nat.lt_of_lt_of_le (World.block_lt_of_cell? _ _ g3.1) hV.size)
        have kg3 : V2.heap.size ≠ d3 := Nat.ne_of_gt (Nat.lt_of_lt_of_le (World.block_lt_of_cell? _ _ g3.1) hV2.size)
        replace g3 := g3.keep hb
        have ngd5 : V.heap.size ≠ d5 := Nat.ne_of_gt (Nat.lt_of_lt_of_le (World.block_lt_of_cell? _ _ gd5.1) hV.size)
        have kgd5 : V2.heap.size ≠ d5 := Nat.ne_of_gt (Nat.lt_of_lt_of_le (World.block_lt_of_cell? _ _ gd5.1) hV2.size)
        replace gd5 := gd5.keep hb
        have ngd6 : V.heap.size ≠ d6 := Nat.ne_of_gt (Nat.lt_of_lt_of_le (World.block_lt_of_cell? _ _ gd6.1) hV.size)
        have kgd6 : V2.heap.size ≠ d6 := Nat.ne_of_gt (Nat.lt_of_lt_of_le (World.block_lt_of_cell? _ _ gd6.1) hV2.size)
        replace gd6 := gd6.keep hb
        have ngd7 : V.heap.size ≠ d7 := Nat.ne_of_gt (Nat.lt_of_lt_of_le (World.block_lt_of_cell? _ _ gd7.1) hV.size)
        have kgd7 : V2.heap.size ≠ d7 := Nat.ne_of_gt (Nat.lt_of_lt_of_le (World.block_lt_of_cell? _ _ gd7.1) hV2.size)
        replace gd7 := gd7.keep hb
        have ngd8 : V.heap.size ≠ d8 := Nat.ne_of_gt (Nat.lt_of_lt_of_le (World.block_lt_of_cell? _ _ gd8.1) hV.size)
        have kgd8 : V2.heap.size ≠ d8 := Nat.ne_of_gt (Nat.lt_of_lt_of_le (World.block_lt_of_cell? _ _ gd8.1) hV2.size)
        replace gd8 := gd8.keep hb
        have BN : Below W.heap.size W w1 := BU.out.trans (hb.mono BU.out.size)
        clear hw hV hw2 hV2 hb BU
        generalize V.heap.size = d9 at *
        generalize V2.heap.size = dA at *
        clear V V2 U
        have gN := hN.1.all4; have qN := hN.2.all4
        have gM := hM.1.all4; have qM := hM.2.all4
        simp only [List.drop_succ_cons, List.drop_zero, Act.put, List.setIfInBounds_toArray, List.set_cons_zero, List.set_cons_succ]
        go_wp2_with fail
        refine H14.out _ _ ?_
        refine wp_world (fun W' => Below W.heap.size W W' ∧ Hold W' d0 X1 ∧ Hold W' d1 X2 ∧ Hold W' d2 Y1 ∧ Hold W' d3 Y2 ∧ Hold W' d5 z ∧ Hold W' d6 Y1 ∧ Hold W' d7 z ∧ Hold W' d8 Y2 ∧ Hold W' d9 z ∧ Hold W' dA s) ⟨below_set4 (below_set4 BN gn _ _ _ _) gm _ _ _ _, (g0.set4 ng0 _ _ _ _).set4 kg0 _ _ _ _, (g1.set4 ng1 _ _ _ _).set4 kg1 _ _ _ _, (g2.set4 ng2 _ _ _ _).set4 kg2 _ _ _ _, (g3.set4 ng3 _ _ _ _).set4 kg3 _ _ _ _, (gd5.set4 ngd5 _ _ _ _).set4 kgd5 _ _ _ _, (gd6.set4 ngd6 _ _ _ _).set4 kgd6 _ _ _ _, (gd7.set4 ngd7 _ _ _ _).set4 kgd7 _ _ _ _, (gd8.set4 ngd8 _ _ _ _).set4 kgd8 _ _ _ _, (Hold.sets4 (Blank.has hN)).set4 hdd2 _ _ _ _, Hold.sets4 (Blank.has (hM.set4 hdd _ _ _ _))⟩ ?_
        clear BN hN gN qN hM gM qM hdd hdd2 gn gm H14 K14 w1 g0 ng0 kg0 g1 ng1 kg1 g2 ng2 kg2 g3 ng3 kg3 gd5 ngd5 kgd5 gd6 ngd6 kgd6 gd7 ngd7 kgd7 gd8 ngd8 kgd8
        rintro U ⟨B, g0, g1, g2, g3, gd5, gd6, gd7, gd8, gd9, gdA⟩
        have BU : Hid (Below W.heap.size W U) := B
        clear B
        refine wp_seq_k fun K15 h15 => ?_
        have H15 : Hid _ := h15
        clear h15
        have t2 := g2.cells; have t3 := g3.cells
        go_wp2_with first
          | (go_at_call 16; refine (AS.out _).mono ?_; rintro e U2 ⟨rfl, hb⟩; have BU2 : Hid (Below W.heap.size W U2) := BU.out.trans (hb.mono BU.out.size); replace g0 := g0.keep hb; replace g1 := g1.keep hb; replace g2 := g2.keep hb; replace g3 := g3.keep hb; replace gd5 := gd5.keep hb; replace gd6 := gd6.keep hb; replace gd7 := gd7.keep hb; replace gd8 := gd8.keep hb; replace gd9 := gd9.keep hb; replace gdA := gdA.keep hb; clear hb BU t2 t3)
        refine H15.out _ _ ?_
        clear H15 K15
        refine wp_world (fun V' => Below W.heap.size W V' ∧ Hold V' d0 X1 ∧ Hold V' d1 X2 ∧ Hold V' d2 Y1 ∧ Hold V' d3 Y2 ∧ Hold V' d5 z ∧ Hold V' d6 Y1 ∧ Hold V' d7 z ∧ Hold V' d8 Y2 ∧ Hold V' d9 z ∧ Hold V' dA s ∧ Hold V' U2.heap.size s) ⟨BU2.out.alloc BU2.out.size _, g0.alloc _, g1.alloc _, g2.alloc _, g3.alloc _, gd5.alloc _, gd6.alloc _, gd7.alloc _, gd8.alloc _, gd9.alloc _, gdA.alloc _, Hold.fresh (by simp)⟩ ?_
        clear g0 g1 g2 g3 gd5 gd6 gd7 gd8 gd9 gdA
        generalize U2.heap.size = dB at *
        clear BU2
        rintro U ⟨B, g0, g1, g2, g3, gd5, gd6, gd7, gd8, gd9, gdA, gdB⟩
        have BU : Hid (Below W.heap.size W U) := B
        clear B
        refine wp_seq_k fun K16 h16 => ?_
        have H16 : Hid _ := h16
        clear h16
        have t2 := g2.cells; have t3 := g3.cells; have t5 := gd5.cells; have t6 := gd6.cells; have t7 := gd7.cells; have t8 := gd8.cells; have t9 := gd9.cells; have tA := gdA.cells; have tB := gdB.cells
        have eqF : ∀ X : Int, ∀ w, (Op.equalIn 10000 24 (.agg #[.int .u64 (l0 X), .int .u64 (l1 X), .int .u64 (l2 X), .int .u64 (l3 X)]) (.agg #[.int .u64 (l0 X), .int .u64 (l1 X), .int .u64 (l2 X), .int .u64 (l3 X)])).run Tryd.prog w = .ok true w := fun X w => by have h := eq_lim 9998 (l0 X) (l1 X) (l2 X) (l3 X) (l0 X) (l1 X) (l2 X) (l3 X) w; simpa using h
        have qz : ∀ w, (Op.equalIn 10000 24 (.agg #[.int .u64 (l0 z), .int .u64 (l1 z), .int .u64 (l2 z), .int .u64 (l3 z)]) (.agg #[.int .u64 0, .int .u64 0, .int .u64 0, .int .u64 0])).run Tryd.prog w = .ok true w := fun w => by
          have := eq_zeroT (m := z) (by rw [Z0.out]; exact ⟨by decide, by decide⟩) w
          rw [decide_eq_true Z0.out] at this
          exact this
        have q1 := eqF Y1; have q2 := eqF Y2; have q3 := eqF s
        clear eqF
        have hz := build_zero
        have gG := (MC.out _ (FX.out _ BU.out).1).2.2.2.2.2
        have cg : (gas < g) = False := eq_false (by have := HG.out (by simp); omega)
        go_wp2
        refine H16.out _ _ ?_
        clear H16 K16 t2 t3 t5 t6 t7 t8 t9 tA tB qz q1 q2 q3 hz gG cg
        refine wp_seq_k fun K18 h18 => ?_
        have H18 : Hid _ := h18
        clear h18
        have rM := (FX.out _ BU.out).1
        go_wp2_with first
          | (refine wpList_load_midT (by rfl) 32 _ rfl mb 0 rfl M _ rM Tryd.underlying32 rfl sz ?_)
          | (go_at_call 11; refine (TW.out _ BU.out).mono ?_; rintro e U2 ⟨v, rfl, ⟨C, rfl, kC⟩, hb⟩; have KC : Hid (TwK b g X1 X2 0 Y1 Y2 0 cc ce C U2) := kC; have BU2 : Hid (Below W.heap.size W U2) := BU.out.trans (hb.mono BU.out.size); replace gdB := gdB.keep hb; clear hb BU rM kC)
          | (go_at_call 21; refine (KC.out _ (Below.refl _ _)).2.2.mono ?_; rintro e U3 ⟨rfl, hb⟩; have BU3 : Hid (Below W.heap.size W U3) := BU2.out.trans (hb.mono BU2.out.size); replace gdB := gdB.keep hb; clear hb BU2)
        refine H18.out _ _ ?_
        clear H18 K18
        refine wp_world (fun V' => Below W.heap.size W V' ∧ Hold V' dB s ∧ Hold V' U3.heap.size cc) ⟨BU3.out.alloc BU3.out.size _, gdB.alloc _, Hold.fresh (by simp)⟩ ?_
        clear gdB
        generalize U3.heap.size = dC at *
        clear BU3
        rintro U ⟨B, gdB, gdC⟩
        have BU : Hid (Below W.heap.size W U) := B
        clear B
        have tB := gdB.cells; have tC := gdC.cells
        rcases HC.out (by simp) with rfl | ⟨rfl, hk3⟩
        · go_wp2
          simp [bodyPost, results, Tryd.results4, go_sem]
          rw [MB.out]
          exact (FX.out _ BU.out).2.2.1
        · have ck : (k3 ≤ (0:Int)) = True := eq_true hk3
          go_wp2_with first
            | (go_at_call 17; refine (CC.out _).mono ?_; rintro e U2 ⟨rfl, hb⟩; have BU2 : Hid (Below W.heap.size W U2) := BU.out.trans (hb.mono BU.out.size); clear hb BU)
          simp [bodyPost, results, Tryd.results4, go_sem]
          rw [MB.out]
          exact (FX.out _ BU2.out).2.2.1
      · have c9 : (ff != 0) = true := bne_iff_ne.2 cf
        rcases HF.out cf with ⟨ca, rfl⟩ | rfl
        · have cb : (gas < g) = True := eq_true ca
          go_wp2
          simp [bodyPost, results, Tryd.results4, go_sem]
          rw [MB.out]
          exact (FX.out _ BU.out).2.2.1
        · by_cases ca : gas < g
          · have cb : (gas < g) = True := eq_true ca
            go_wp2
            simp [bodyPost, results, Tryd.results4, go_sem]
            rw [MB.out]
            exact (FX.out _ BU.out).2.2.1
          · have cb : (gas < g) = False := eq_false ca
            go_wp2
            simp [bodyPost, results, Tryd.results4, go_sem]
            rw [MB.out]
            exact (FX.out _ BU.out).2.2.1
  · obtain ⟨rfl, z1, z2, z3, z4⟩ := HA.out c
    have ez : ∀ X : Int, X = 0 → ∀ w, (Op.equalIn 10000 24 (.agg #[.int .u64 (l0 X), .int .u64 (l1 X), .int .u64 (l2 X), .int .u64 (l3 X)]) (.agg #[.int .u64 0, .int .u64 0, .int .u64 0, .int .u64 0])).run Tryd.prog w = .ok true w := fun X hX w => by
      have := eq_zeroT (m := X) (by rw [hX]; exact ⟨by decide, by decide⟩) w
      rw [decide_eq_true hX] at this
      exact this
    have q1 := ez _ z1; have q2 := ez _ z2; have q3 := ez _ z3; have q4 := ez _ z4
    have hz := build_zero
    have c1 : (ff != 0) = true := bne_iff_ne.2 c
    have t0 := g0.cells; have t1 := g1.cells; have t2 := g2.cells; have t3 := g3.cells
    clear z1 z2 z3 z4 ez HA c g0 g1 g2 g3 TW sz
    go_wp2
    simp [bodyPost, results, Tryd.results4, go_sem]
    rw [MB.out]
    exact (FX.out _ BU.out).2.2.1
end Go.Proofs.YtlpmphldmfefkaaDoor
