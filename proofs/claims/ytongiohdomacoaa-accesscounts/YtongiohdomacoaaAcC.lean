import Derived.Test.YtongiohdomacoaaAcB
/- Layer 14: rows of bytes compared; slices.Index, slices.Contains. -/
namespace Go.Proofs.Ytongiohdomacoaa
open Go.RowKit Go.Sort

theorem ext_getD {X Y : List Int} (hl : X.length = Y.length) (h : ∀ t, t < X.length → X.getD t 0 = Y.getD t 0) : X = Y := by
  refine List.ext_getElem hl fun t h1 h2 => ?_
  have := h t h1
  rwa [List.getD, List.getD, List.getElem?_eq_getElem h1, List.getElem?_eq_getElem h2] at this
/-- Are two rows of bytes the same, from s on, m of them? -/
def sameI (X Y : List Int) : Nat → Nat → Bool
  | _, 0 => true
  | s, m + 1 => X.getD s 0 == Y.getD s 0 && sameI X Y (s + 1) m
theorem part_i {X : List Int} {i : Nat} (h : i < X.length) (w : World) : (part 5 (X.map (Value.int .u8)).toArray (i * 1)).run Try.prog w = .ok (.int .u8 (X.getD i 0)) w := by
  have ta := Try.isAgg5

  rw [Nat.mul_one]
  simp [Go.part, go_sem, ta, h]
theorem eq_loopI {X Y : List Int} (w : World) : ∀ (m s : Nat), s + m ≤ X.length → s + m ≤ Y.length →
    (forIn (m := Sem) (List.range' s m) ((none : Option Bool), ()) fun i _ => do
      let x ← part 5 (X.map (Value.int .u8)).toArray (i * 1)
      let y ← part 5 (Y.map (Value.int .u8)).toArray (i * 1)
      let b ← Op.equalIn 9999 5 x y
      if (!b) = true then pure (ForInStep.done (some false, ())) else pure (ForInStep.yield (none, ()))).run Try.prog w = .ok (if sameI X Y s m = true then (none, ()) else (some false, ())) w
  | 0, s, _, _ => by simp [sameI]
  | m + 1, s, h1, h2 => by
    have tu := Try.underlying5
    rw [List.range'_succ, List.forIn_cons]
    simp only [Sem.run_bind, part_i (show s < X.length by omega), part_i (show s < Y.length by omega), Result.andThen_ok]
    rw [show (9999 : Nat) = 9998 + 1 from rfl, run_equalIn_int _ _ _ _ _ _ _ tu]
    simp only [Result.andThen_ok]
    rw [sameI]
    have ih := eq_loopI (X := X) (Y := Y) w m (s + 1) (by omega) (by omega)
    generalize X.getD s 0 = a at *
    generalize Y.getD s 0 = b at *
    by_cases e : a = b
    · subst e
      simp only [beq_self_eq_true, Bool.not_true, Bool.false_eq_true, if_false, Sem.run_pure, Result.andThen_ok, Bool.true_and]
      exact ih
    · have ne : (a == b) = false := beq_eq_false_iff_ne.2 e
      simp only [ne, Bool.not_false, if_true, Sem.run_pure, Result.andThen_ok, Bool.false_and, Bool.false_eq_true, if_false]
theorem sameI_iff {X Y : List Int} : ∀ (m s : Nat), sameI X Y s m = true ↔ ∀ i, s ≤ i → i < s + m → X.getD i 0 = Y.getD i 0
  | 0, s => by simp [sameI]; intro i h1 h2; omega
  | m + 1, s => by
    rw [sameI, Bool.and_eq_true, sameI_iff m (s + 1)]
    constructor
    · rintro ⟨h1, h2⟩ i h3 h4
      by_cases e : i = s
      · subst e; exact eq_of_beq h1
      · exact h2 i (by omega) (by omega)
    · intro h
      exact ⟨by rw [h s (Nat.le_refl _) (by omega)]; exact beq_self_eq_true _, fun i h1 h2 => h i (by omega) (by omega)⟩
theorem sameI_eq {X Y : List Int} {n : Nat} (hx : X.length = n) (hy : Y.length = n) : sameI X Y 0 n = decide (X = Y) := by
  have h := sameI_iff (X := X) (Y := Y) n 0
  by_cases e : X = Y
  · subst e
    rw [decide_eq_true rfl]
    exact h.2 fun _ _ _ => rfl
  · rw [decide_eq_false e]
    apply Bool.eq_false_iff.2
    intro ht
    exact e (ext_getD (by rw [hx, hy]) fun t h1 => h.1 ht t (Nat.zero_le _) (by omega))
theorem eq_adE {X Y : List Int} (hx : X.length = 20) (hy : Y.length = 20) (w : World) : (Op.equalIn 10000 24 (.agg (cB X).toArray) (.agg (cB Y).toArray)).run Try.prog w = .ok (decide (X = Y)) w := by
  unfold cB
  rw [show (10000 : Nat) = 9999 + 1 from rfl, Op.equalIn]
  have tz : (sizeOf 5).run Try.prog w = .ok 1 w := by have := Try.sizeOf5; simp [go_sem, this]
  simp only [Sem.run_bind, run_underlying Try.underlying24, Result.andThen_ok, tz]
  simp only [Std.Legacy.Range.forIn_eq_forIn_range', Std.Legacy.Range.size, Nat.sub_zero, Nat.add_sub_cancel, Nat.div_one]
  have h := eq_loopI (X := X) (Y := Y) w 20 0 (by omega) (by omega)
  rw [h, sameI_eq hx hy]
  by_cases e : X = Y <;> simp [e]
theorem eq_haE {X Y : List Int} (hx : X.length = 32) (hy : Y.length = 32) (w : World) : (Op.equalIn 10000 26 (.agg (cB X).toArray) (.agg (cB Y).toArray)).run Try.prog w = .ok (decide (X = Y)) w := by
  unfold cB
  rw [show (10000 : Nat) = 9999 + 1 from rfl, Op.equalIn]
  have tz : (sizeOf 5).run Try.prog w = .ok 1 w := by have := Try.sizeOf5; simp [go_sem, this]
  simp only [Sem.run_bind, run_underlying Try.underlying26, Result.andThen_ok, tz]
  simp only [Std.Legacy.Range.forIn_eq_forIn_range', Std.Legacy.Range.size, Nat.sub_zero, Nat.add_sub_cancel, Nat.div_one]
  have h := eq_loopI (X := X) (Y := Y) w 32 0 (by omega) (by omega)
  rw [h, sameI_eq hx hy]
  by_cases e : X = Y <;> simp [e]
theorem quiet_load_midE {P : Program} {C : World → Prop} {a : Act} {o : Oper} {K : Act → Prop} (ty : TypeId) (x : Operand) (ho : o.op = .load ty x)
    (b f : Nat) (hx : a.eval x = .pointer (some ⟨b, f, none⟩)) (cs : List Value) (d : TypeDesc) (hS : ∀ w, C w → w.rangeAt b f cs)
    (hu : P.underlying ty = some d) (hd : d.isRow = true) (hi : (P.info? ty).map (·.size) = some cs.length) (h : K (a.put o.dst (.agg cs.toArray))) : o.quiet P a C K :=
  ⟨.agg cs.toArray, fun w hw => by
    unfold Oper.quietAt execOp
    simp only [ho, hx, Instr.loadAt, Instr.sureAddr, Sem.run_bind, Sem.run_pure, Result.andThen_ok, run_loadVar_mid w b f ty cs d (hS w hw) hu hd hi]
    exact ⟨rfl, rfl⟩, h⟩
theorem size_haE : (Try.prog.info? 26).map (·.size) = some 32 := by kernel_rfl
theorem size_adE : (Try.prog.info? 24).map (·.size) = some 20 := by kernel_rfl
theorem new_range {W : World} {cs : List Value} {t : TypeId} : (W.alloc (.cells cs.toArray t)).rangeAt W.heap.size 0 cs := fun j v hv => by
  have hn : (W.alloc (.cells cs.toArray t)).heap[W.heap.size]? = some (.cells cs.toArray t) := by
    show (W.heap.push _)[W.heap.size]? = _
    simp
  rw [Nat.zero_add, cell_of_row _ _ j _ _ _ hn]; simpa using hv
/-- Is the key among the first of these? -/
def kHas (K : List (List Int)) (k : List Int) : Nat → Bool
  | 0 => false
  | i + 1 => kHas K k i || decide (k = K.getD i [])
theorem kHas_mono {K : List (List Int)} {k : List Int} {i : Nat} : ∀ n, i ≤ n → kHas K k i = true → kHas K k n = true
  | 0, h, e => by
    obtain rfl : i = 0 := Nat.le_zero.1 h
    exact e
  | n + 1, h, e => by
    by_cases k1 : i = n + 1
    · rw [← k1]; exact e
    · rw [kHas, kHas_mono n (by omega) e]; rfl
set_option maxRecDepth 100000 in
set_option maxHeartbeats 8000000 in
theorem index_any {K : List (List Int)} {k : List Int} {v : Value} (hl : K.length ≤ 5000000000000) (hw : W32 K) (hk : k.length = 32) (w : World) (h : Ky w v K) :
    Calls Try.prog 12 #[v, .agg (cB k).toArray] w fun e w' => (∃ z : Int, e = .returned (.int .i64 z) ∧ decide (z ≥ 0) = kHas K k K.length) ∧ Below w.heap.size w w' := by
  obtain ⟨a, g, p, c, rfl, hc, ha, hr⟩ := h
  have HA : Hid ((K = [] ∨ a = some ⟨g, p, none⟩) ∧ W32 K ∧ k.length = 32 ∧ K.length ≤ 5000000000000) := ⟨ha, hw, hk, hl⟩
  have HR : Hid (∀ W, Below w.heap.size w W → W.rangeAt g p (kyF K)) := fun W B => rng_keep hr B
  have n1 : (K.length : Int) ≤ 5000000000000 := by omega
  have SZ : Hid ((Try.prog.info? 26).map (·.size) = some (cB k).length) := by show _ = _; rw [cB_len, hk]; exact size_haE
  clear ha hw hl hr hc hk
  have EQ : Hid (∀ i, i < K.length → ∀ w, (Op.equalIn 10000 26 (.agg (cB k).toArray) (.agg (cB (K.getD i [])).toArray)).run Try.prog w = .ok (decide (k = K.getD i [])) w) := fun i hi w => eq_haE HA.out.2.2.1 (HA.out.2.1 i hi) w
  have HN : Hid (∀ i, i < K.length → (cB (K.getD i [])).length = 32) := fun i hi => by rw [cB_len]; exact HA.out.2.1 i hi
  have HX : Hid (∀ n, kHas K k (n + 1) = (kHas K k n || decide (k = K.getD n []))) := fun n => rfl
  have HX0 : Hid (kHas K k 0 = false) := rfl
  have HMo : Hid (∀ i, i ≤ K.length → kHas K k i = true → kHas K k K.length = true) := fun i h1 h2 => kHas_mono _ h1 h2
  generalize cB k = ck at *
  go_enter Try.func12, Try.ntmps12
  go_wp2_with fail
  refine wp_world (fun W => Below w.heap.size w W ∧ W.rangeAt w.heap.size 0 ck) ⟨(Below.refl _ _).alloc (Nat.le_refl _) _, new_range⟩ ?_
  rintro W ⟨B, r0⟩
  go_loopg [8] K.length (fun kk iv wr => ∃ i : Nat, kk = K.length - i ∧ i ≤ K.length ∧ iv = .int .i64 (i : Int) ∧ kHas K k i = false ∧ Below w.heap.size w wr ∧ wr.rangeAt w.heap.size 0 ck)
  case atStart => exact ⟨0, rfl, Nat.zero_le _, rfl, rfl, B, r0⟩
  case round =>
    clear B r0 W
    obtain ⟨i, hk, hi, rfl, hf, B, r0⟩ := hrel
    have HK : Hid (gk = K.length - i ∧ i ≤ K.length ∧ kHas K k i = false) := ⟨hk, hi, hf⟩
    clear hk hf
    by_cases h8 : i = K.length
    · subst h8
      go_wp2
      simp [bodyPost, results, Try.results12, go_sem]
      exact ⟨HK.out.2.2, B⟩
    · have hlt : i < K.length := by omega
      have hlt' : (i : Int) < (K.length : Int) := by omega
      obtain rfl : a = some ⟨g, p, none⟩ := by
        rcases HA.out.1 with h | h
        · rw [h] at hlt; simp at hlt
        · exact h
      have rb : ∀ w', (∃ q : Regrown, w' = grow (redrawn wr q.d) q.os) → w'.rangeAt w.heap.size 0 ck := by rintro w' ⟨q, rfl⟩; exact rng_keep r0 (below_regrown wr q.d q.os)
      have rc : ∀ w', (∃ q : Regrown, w' = grow (redrawn wr q.d) q.os) → w'.rangeAt g (p + i * 32) (cB (K.getD i [])) := by
        rintro w' ⟨q, rfl⟩
        exact ky_range (HR.out _ (B.trans ((below_regrown wr q.d q.os).mono B.size))) HA.out.2.1 hlt
      have ic : (Try.prog.info? 26).map (·.size) = some (cB (K.getD i [])).length := by rw [HN.out i hlt]; exact size_haE
      have ik := SZ.out
      have eq := EQ.out i hlt
      have NX : Hid (kHas K k (i + 1) = decide (k = K.getD i [])) := by show _ = _; rw [HX.out i, HK.out.2.2]; rfl
      clear h8 hi EQ
      generalize cB (K.getD i []) = ci at *
      generalize decide (k = K.getD i []) = dd at *
      go_wp2_with fail
      refine wp_region_quiet_below (by kernel_rfl) (by kernel_rfl) ?_
      repeat
        first
          | go_big_quiet_skip
          | (go_big_quiet_want; refine quiet_load_midE 26 _ rfl w.heap.size 0 rfl ck _ rb Try.underlying26 rfl ik ?_; simp only [Act.put, List.setIfInBounds_toArray, List.set_cons_succ, List.set_cons_zero]; go_big_quiet_on)
          | (go_big_quiet_want; refine quiet_load_midE 26 _ rfl g (p + i * 32) rfl ci _ rc Try.underlying26 rfl ic ?_; simp only [Act.put, List.setIfInBounds_toArray, List.set_cons_succ, List.set_cons_zero]; go_big_quiet_on)
          | (go_big_quiet_want; go_big_quiet_op; go_big_quiet_on)
      refine wpQuiet_nil ?_
      rintro w2 ⟨q, rfl⟩
      have hb := below_regrown wr q.d q.os
      replace B := B.trans (hb.mono B.size)
      replace r0 := rng_keep r0 hb
      generalize grow (redrawn wr q.d) q.os = w2 at *
      clear hb rb rc eq ic ik
      cases dd with
      | true =>
        go_wp2
        simp [bodyPost, results, Try.results12, go_sem]
        exact ⟨HMo.out (i + 1) hlt NX.out, B⟩
      | false =>
        go_wp2
        go_roundg (K.length - (i + 1))
        case measure => have := HK.out.1; omega
        case rel => exact ⟨i + 1, rfl, hlt, by go_num, NX.out, B, r0⟩
end Go.Proofs.Ytongiohdomacoaa
