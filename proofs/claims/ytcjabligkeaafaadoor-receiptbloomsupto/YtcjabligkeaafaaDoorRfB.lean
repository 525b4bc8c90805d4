import Derived.Test.YtcjabligkeaafaaDoorRfA
/- slices.Index, slices.Contains and takes: Address. -/
namespace Go.Proofs.YtcjabligkeaafaaDoor.tq
open Go.RowKit Go.Sort
theorem AsG.keep {W W' : World} {a : Option Addr} {b o c : Nat} {ks : List (List Int)} (h : AsG W a b o c ks) (B : Below W.heap.size W W') : AsG W' a b o c ks := ⟨h.1, h.2.1, fun i hi => ⟨(h.2.2 i hi).1, range_keep (h.2.2 i hi).2 B⟩⟩
set_option maxRecDepth 100000 in
set_option maxHeartbeats 8000000 in
theorem index_A {K : List (List Int)} {k : List Int} {a : Option Addr} {b o c : Nat} (hl : K.length ≤ 1000000000) (hk : k.length = 20) (w : World) (hG : AsG w a b o c K) :
    Calls Tryd.prog 19 #[.slice a K.length c, .agg (hC k).toArray] w fun e w' => (∃ z : Int, e = .returned (.int .i64 z) ∧ decide (z ≥ 0) = kHas K k K.length) ∧ Below w.heap.size w w' := by
  have HA : Hid ((K = [] ∨ a = some ⟨b, o, none⟩) ∧ k.length = 20 ∧ K.length ≤ 1000000000) := ⟨hG.2.1, hk, hl⟩
  have HR : Hid (∀ W, Below w.heap.size w W → AsG W a b o c K) := fun W B => hG.keep B
  have n1 : (K.length : Int) ≤ 1000000000 := by omega
  have SZ : Hid ((Tryd.prog.info? 24).map (·.size) = some (hC k).length) := by show _ = _; rw [hC_len, hk]; exact size_ad
  have EQ : Hid (∀ i, i < K.length → ∀ w, (Op.equalIn 10000 24 (.agg (hC k).toArray) (.agg (hC (K.getD i [])).toArray)).run Tryd.prog w = .ok (decide (k = K.getD i [])) w) := fun i hi w => eq_ad HA.out.2.1 (hG.2.2 i hi).1.1 w
  have HN : Hid (∀ i, i < K.length → (hC (K.getD i [])).length = 20) := fun i hi => by rw [hC_len]; exact (hG.2.2 i hi).1.1
  clear hl hk hG
  have HX : Hid (∀ n, kHas K k (n + 1) = (kHas K k n || decide (k = K.getD n []))) := fun n => rfl
  have HX0 : Hid (kHas K k 0 = false) := rfl
  have HMo : Hid (∀ i, i ≤ K.length → kHas K k i = true → kHas K k K.length = true) := fun i h1 h2 => kHas_mono _ h1 h2
  generalize hC k = ck at *
  go_enter Tryd.func19, Tryd.ntmps19
  go_wp2_with fail
  refine wp_world (fun W => Below w.heap.size w W ∧ W.rangeAt w.heap.size 0 ck) ⟨(Below.refl _ _).alloc (Nat.le_refl _) _, new_range⟩ ?_
  rintro W ⟨B, r0⟩
  go_loopg [8] K.length (fun kk iv wr => ∃ i : Nat, kk = K.length - i ∧ i ≤ K.length ∧ iv = .int .i64 (i : Int) ∧ kHas K k i = false ∧ Below w.heap.size w wr ∧ wr.rangeAt w.heap.size 0 ck)
  case atStart => exact ⟨0, rfl, Nat.zero_le _, rfl, rfl, B, r0⟩
  case round =>
    clear B r0 W
    obtain ⟨i, hk, hi, rfl, hf, B, r0⟩ := hrel
    have HK : Hid (gk = K.length - i ∧ i ≤ K.length ∧ kHas K k i = false) := ⟨hk, hi, hf⟩
    clear hk hf
    by_cases h8 : i = K.length
    · subst h8
      go_wp2
      simp [bodyPost, results, Tryd.results19, go_sem]
      exact ⟨HK.out.2.2, B⟩
    · have hlt : i < K.length := by omega
      have hlt' : (i : Int) < (K.length : Int) := by omega
      obtain rfl : a = some ⟨b, o, none⟩ := by
        rcases HA.out.1 with h | h
        · rw [h] at hlt; simp at hlt
        · exact h
      have rb : ∀ w', (∃ q : Regrown, w' = grow (redrawn wr q.d) q.os) → w'.rangeAt w.heap.size 0 ck := by rintro w' ⟨q, rfl⟩; exact range_keep r0 (below_regrown wr q.d q.os)
      have rc : ∀ w', (∃ q : Regrown, w' = grow (redrawn wr q.d) q.os) → w'.rangeAt b (o + i * 20) (hC (K.getD i [])) := by
        rintro w' ⟨q, rfl⟩
        exact ((HR.out _ (B.trans ((below_regrown wr q.d q.os).mono B.size))).2.2 i hlt).2
      have ic : (Tryd.prog.info? 24).map (·.size) = some (hC (K.getD i [])).length := by rw [HN.out i hlt]; exact size_ad
      have ik := SZ.out
      have eq := EQ.out i hlt
      have NX : Hid (kHas K k (i + 1) = decide (k = K.getD i [])) := by show _ = _; rw [HX.out i, HK.out.2.2]; rfl
      clear h8 hi EQ
      generalize hC (K.getD i []) = ci at *
      generalize decide (k = K.getD i []) = dd at *
      go_wp2_with fail
      refine wp_region_quiet_below (by kernel_rfl) (by kernel_rfl) ?_
      repeat
        first
          | go_big_quiet_skip
          | (go_big_quiet_want; refine quiet_load_midT 24 _ rfl w.heap.size 0 rfl ck _ rb Tryd.underlying24 rfl ik ?_; simp only [Act.put, List.setIfInBounds_toArray, List.set_cons_succ, List.set_cons_zero]; go_big_quiet_on)
          | (go_big_quiet_want; refine quiet_load_midT 24 _ rfl b (o + i * 20) rfl ci _ rc Tryd.underlying24 rfl ic ?_; simp only [Act.put, List.setIfInBounds_toArray, List.set_cons_succ, List.set_cons_zero]; go_big_quiet_on)
          | (go_big_quiet_want; go_big_quiet_op; go_big_quiet_on)
      refine wpQuiet_nil ?_
      rintro w2 ⟨q, rfl⟩
      have hb := below_regrown wr q.d q.os
      replace B := B.trans (hb.mono B.size)
      replace r0 := range_keep r0 hb
      generalize grow (redrawn wr q.d) q.os = w2 at *
      clear hb rb rc eq ic ik
      cases dd with
      | true =>
        go_wp2
        simp [bodyPost, results, Tryd.results19, go_sem]
        exact ⟨HMo.out (i + 1) hlt NX.out, B⟩
      | false =>
        go_wp2
        go_roundg (K.length - (i + 1))
        case measure => have := HK.out.1; omega
        case rel => exact ⟨i + 1, rfl, hlt, by go_num, NX.out, B, r0⟩
set_option maxRecDepth 100000 in
theorem contains_A {K : List (List Int)} {k : List Int} {a : Option Addr} {b o c : Nat} (hl : K.length ≤ 1000000000) (hk : k.length = 20) (w : World) (hG : AsG w a b o c K) :
    Calls Tryd.prog 16 #[.slice a K.length c, .agg (hC k).toArray] w fun e w' => e = .returned (.bool (kHas K k K.length)) ∧ Below w.heap.size w w' := by
  have IX : Hid (∀ W, Below w.heap.size w W → Calls Tryd.prog 19 #[.slice a K.length c, .agg (hC k).toArray] W fun e w' => (∃ z : Int, e = .returned (.int .i64 z) ∧ decide (z ≥ 0) = kHas K k K.length) ∧ Below W.heap.size W w') := fun W B => index_A hl hk W (hG.keep B)
  have ik : (Tryd.prog.info? 24).map (·.size) = some (hC k).length := by rw [hC_len, hk]; exact size_ad
  clear hl hG hk
  generalize hC k = ck at *
  go_enter Tryd.func16, Tryd.ntmps16
  have bw : ∀ o, Below w.heap.size w (w.alloc o) := fun o => (Below.refl _ _).alloc (Nat.le_refl _) _
  have rw0 : ∀ t, (w.alloc (.cells ck.toArray t)).rangeAt w.heap.size 0 ck := fun t => new_range
  go_wp2_with (first | (refine wpList_load_mid rfl _ _ rfl w.heap.size 0 rfl ck _ (rw0 _) Tryd.underlying24 rfl ik ?_) | ((with_reducible refine (IX.out _ (bw _)).mono ?_); rintro e w1 ⟨⟨z, rfl, hz⟩, hb⟩))
  simp [bodyPost, results, Tryd.results16, go_sem]
  first | exact ⟨hz, (bw _).trans (hb.mono (by simp))⟩ | exact (bw _).trans (hb.mono (by simp))
set_option maxRecDepth 100000 in
theorem takes_A {K : List (List Int)} {k : List Int} {a : Option Addr} {b o c : Nat} (hl : K.length ≤ 1000000000) (hk : k.length = 20) (w : World) (hG : AsG w a b o c K) :
    Calls Tryd.prog 11 #[.slice a K.length c, .agg (hC k).toArray] w fun e w' => e = .returned (.bool (tak K k)) ∧ Below w.heap.size w w' := by
  have CT : Hid (∀ W, Below w.heap.size w W → Calls Tryd.prog 16 #[.slice a K.length c, .agg (hC k).toArray] W fun e w' => e = .returned (.bool (kHas K k K.length)) ∧ Below W.heap.size W w') := fun W B => contains_A hl hk W (hG.keep B)
  have ik : (Tryd.prog.info? 24).map (·.size) = some (hC k).length := by rw [hC_len, hk]; exact size_ad
  have n1 : (K.length : Int) ≤ 1000000000 := by omega
  have TK : Hid (tak K k = (decide (K.length = 0) || kHas K k K.length)) := rfl
  clear hl hG hk
  generalize hC k = ck at *
  generalize kHas K k K.length = hh at *
  generalize tak K k = tt at *
  generalize K.length = n at *
  go_enter Tryd.func11, Tryd.ntmps11
  have bw : ∀ o, Below w.heap.size w (w.alloc o) := fun o => (Below.refl _ _).alloc (Nat.le_refl _) _
  have rw0 : ∀ t, (w.alloc (.cells ck.toArray t)).rangeAt w.heap.size 0 ck := fun t => new_range
  by_cases h0 : n = 0
  · subst h0
    have e9 : tt = true := by rw [TK.out]; rfl
    go_wp2_with (first | (refine wpList_load_midT (by rfl) 24 _ rfl w.heap.size 0 rfl ck _ (rw0 _) Tryd.underlying24 rfl ik ?_))
    simp [bodyPost, results, Tryd.results11, go_sem]
    first | exact ⟨e9, bw _⟩ | exact ⟨e9.symm, bw _⟩ | (subst e9; exact bw _)
  · have e9 : tt = hh := by rw [TK.out, decide_eq_false h0]; rfl
    have c1 : ((n : Int) == 0) = false := beq_eq_false_iff_ne.2 (by omega)
    have c2 : ((n : Int) != 0) = true := by simp [bne, c1]
    go_wp2_with (first | (refine wpList_load_midT (by rfl) 24 _ rfl w.heap.size 0 rfl ck _ (rw0 _) Tryd.underlying24 rfl ik ?_) | ((with_reducible refine (CT.out _ (bw _)).mono ?_); rintro e w1 ⟨rfl, hb⟩))
    simp [bodyPost, results, Tryd.results11, go_sem]
    first | exact ⟨e9.symm, (bw _).trans (hb.mono (by simp))⟩ | exact ⟨e9, (bw _).trans (hb.mono (by simp))⟩ | (subst e9; exact (bw _).trans (hb.mono (by simp)))
end Go.Proofs.YtcjabligkeaafaaDoor.tq
