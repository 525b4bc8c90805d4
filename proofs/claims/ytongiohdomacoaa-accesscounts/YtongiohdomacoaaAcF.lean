import Derived.Test.YtongiohdomacoaaAcE
/- Layer 14: the statement's sameKeys, sameList. -/
namespace Go.Proofs.Ytongiohdomacoaa
open Go.RowKit Go.Sort

set_option maxRecDepth 100000 in
set_option maxHeartbeats 8000000 in
theorem sameKeys_yes {K : List (List Int)} {v v' : Value} (hl : K.length ≤ 5000000000000) (hw : W32 K) (w : World) (h : Ky w v K) (h' : Ky w v' K) :
    Calls Try.prog 13 #[v, v'] w fun e w' => e = .returned (.bool true) ∧ Below w.heap.size w w' := by
  obtain ⟨a, g, p, c, rfl, hc, ha, hr⟩ := h
  obtain ⟨a', g', p', c', rfl, hc', ha', hr'⟩ := h'
  have HA : Hid ((K = [] ∨ a = some ⟨g, p, none⟩) ∧ (K = [] ∨ a' = some ⟨g', p', none⟩) ∧ W32 K ∧ K.length ≤ 5000000000000) := ⟨ha, ha', hw, hl⟩
  have HR : Hid (∀ W, Below w.heap.size w W → W.rangeAt g p (kyF K) ∧ W.rangeAt g' p' (kyF K)) := fun W B => ⟨rng_keep hr B, rng_keep hr' B⟩
  have n1 : (K.length : Int) ≤ 5000000000000 := by omega
  have EQ : Hid (∀ i, i < K.length → ∀ w, (Op.equalIn 10000 26 (.agg (cB (K.getD i [])).toArray) (.agg (cB (K.getD i [])).toArray)).run Try.prog w = .ok true w) := fun i hi w => by
    have h := eq_haE (hw i hi) (hw i hi) w
    rw [decide_eq_true rfl] at h; exact h
  clear ha ha' hw hl hr hr' hc hc'
  go_enter Try.func13, Try.ntmps13
  go_wp2_with fail
  go_loopg [5] K.length (fun kk iv wr => ∃ i : Nat, kk = K.length - i ∧ i ≤ K.length ∧ iv = .int .i64 (i : Int) ∧ Below w.heap.size w wr)
  case atStart => exact ⟨0, rfl, Nat.zero_le _, rfl, Below.refl _ _⟩
  case round =>
    obtain ⟨i, hk, hi, rfl, B⟩ := hrel
    have HK : Hid (gk = K.length - i ∧ i ≤ K.length) := ⟨hk, hi⟩
    clear hk
    by_cases h8 : i = K.length
    · subst h8
      go_wp2
      simp [bodyPost, results, Try.results13, go_sem]
      exact B
    · have hlt : i < K.length := by omega
      have hlt' : (i : Int) < (K.length : Int) := by omega
      obtain rfl : a = some ⟨g, p, none⟩ := by
        rcases HA.out.1 with h | h
        · rw [h] at hlt; simp at hlt
        · exact h
      obtain rfl : a' = some ⟨g', p', none⟩ := by
        rcases HA.out.2.1 with h | h
        · rw [h] at hlt; simp at hlt
        · exact h
      have B3 : Hid (∀ d os, Below w.heap.size w (grow (redrawn wr d) os)) := fun d os => B.trans ((below_regrown wr d os).mono B.size)
      have rb : ∀ w', (∃ q : Regrown, w' = grow (redrawn wr q.d) q.os) → w'.rangeAt g (p + i * 32) (cB (K.getD i [])) := by rintro w' ⟨q, rfl⟩; exact ky_range (HR.out _ (B3.out q.d q.os)).1 HA.out.2.2.1 hlt
      have rc : ∀ w', (∃ q : Regrown, w' = grow (redrawn wr q.d) q.os) → w'.rangeAt g' (p' + i * 32) (cB (K.getD i [])) := by rintro w' ⟨q, rfl⟩; exact ky_range (HR.out _ (B3.out q.d q.os)).2 HA.out.2.2.1 hlt
      have ic : (Try.prog.info? 26).map (·.size) = some (cB (K.getD i [])).length := by rw [cB_len, HA.out.2.2.1 i hlt]; exact size_haE
      have eq := EQ.out i hlt
      clear h8 hi EQ
      generalize cB (K.getD i []) = ci at *
      go_wp2_with fail
      refine wp_region_quiet_below (by kernel_rfl) (by kernel_rfl) ?_
      repeat
        first
          | go_big_quiet_skip
          | (go_big_quiet_want; refine quiet_load_midE 26 _ rfl g (p + i * 32) rfl ci _ rb Try.underlying26 rfl ic ?_; simp only [Act.put, List.setIfInBounds_toArray, List.set_cons_succ, List.set_cons_zero]; go_big_quiet_on)
          | (go_big_quiet_want; refine quiet_load_midE 26 _ rfl g' (p' + i * 32) rfl ci _ rc Try.underlying26 rfl ic ?_; simp only [Act.put, List.setIfInBounds_toArray, List.set_cons_succ, List.set_cons_zero]; go_big_quiet_on)
          | (go_big_quiet_want; go_big_quiet_op; go_big_quiet_on)
      refine wpQuiet_nil ?_
      rintro w2 ⟨q, rfl⟩
      have hb := B3.out q.d q.os
      generalize grow (redrawn wr q.d) q.os = w2 at *
      clear rb rc eq ic B3
      go_wp2
      go_roundg (K.length - (i + 1))
      case measure => have := HK.out.1; omega
      case rel => exact ⟨i + 1, rfl, hlt, by go_num, hb⟩
set_option maxRecDepth 100000 in
set_option maxHeartbeats 8000000 in
theorem sameList_yes {a a' : Option Addr} {b o c b' o' c' : Nat} {L : List EE} {V V' : Nat → Value} (hl : L.length ≤ 3000000000000) (hw : WfE L) (hy : KyL L) (ha : AzE a b o L) (ha' : AzE a' b' o' L) (w : World) (hE : Es w b o L V) (hE' : Es w b' o' L V') :
    Calls Try.prog 11 #[.slice a L.length c, .slice a' L.length c'] w fun e w' => e = .returned (.bool true) ∧ Below w.heap.size w w' := by
  have HA : Hid (AzE a b o L ∧ AzE a' b' o' L ∧ WfE L ∧ KyL L ∧ L.length ≤ 3000000000000) := ⟨ha, ha', hw, hy, hl⟩
  have HI : Hid (∀ W, Below w.heap.size w W → Es W b o L V ∧ Es W b' o' L V') := fun W B => ⟨hE.keep B, hE'.keep B⟩
  have n1 : (L.length : Int) ≤ 3000000000000 := by omega
  have EQ : Hid (∀ i, i < L.length → ∀ w, (Op.equalIn 10000 24 (.agg (cB (L.getD i zE).A).toArray) (.agg (cB (L.getD i zE).A).toArray)).run Try.prog w = .ok true w) := fun i hi w => by
    have h := eq_adE (hw i hi).1 (hw i hi).1 w
    rw [decide_eq_true rfl] at h; exact h
  have SK : Hid (∀ i, i < L.length → ∀ W v v', Ky W v (L.getD i zE).K → Ky W v' (L.getD i zE).K → Calls Try.prog 13 #[v, v'] W fun e w' => e = .returned (.bool true) ∧ Below W.heap.size W w') := fun i hi W v v' h1 h2 => sameKeys_yes (hy i hi) (hw i hi).2 W h1 h2
  clear hl hw ha ha' hE hE' hy
  go_enter Try.func11, Try.ntmps11
  go_wp2_with fail
  go_loopg [5] L.length (fun kk iv wr => ∃ i : Nat, kk = L.length - i ∧ i ≤ L.length ∧ iv = .int .i64 (i : Int) ∧ Below w.heap.size w wr)
  case atStart => exact ⟨0, rfl, Nat.zero_le _, rfl, Below.refl _ _⟩
  case round =>
    obtain ⟨i, hk, hi, rfl, B⟩ := hrel
    have HK : Hid (gk = L.length - i ∧ i ≤ L.length) := ⟨hk, hi⟩
    clear hk
    by_cases h8 : i = L.length
    · subst h8
      go_wp2
      simp [bodyPost, results, Try.results11, go_sem]
      exact B
    · have hlt : i < L.length := by omega
      have hlt' : (i : Int) < (L.length : Int) := by omega
      obtain rfl := HA.out.1.cons (by omega)
      obtain rfl := HA.out.2.1.cons (by omega)
      have B3 : Hid (∀ d os, Below w.heap.size w (grow (redrawn wr d) os)) := fun d os => B.trans ((below_regrown wr d os).mono B.size)
      have ra : ∀ w', (∃ q : Regrown, w' = grow (redrawn wr q.d) q.os) → w'.rangeAt b (o + i * 21) (cB (L.getD i zE).A) := by rintro w' ⟨q, rfl⟩; exact (HI.out _ (B3.out q.d q.os)).1.adr hlt
      have rb : ∀ w', (∃ q : Regrown, w' = grow (redrawn wr q.d) q.os) → w'.rangeAt b' (o' + i * 21) (cB (L.getD i zE).A) := by rintro w' ⟨q, rfl⟩; exact (HI.out _ (B3.out q.d q.os)).2.adr hlt
      have gk1 := fun d os => (HI.out _ (B3.out d os)).1.key HA.out.2.2.1 hlt
      have gk2 := fun d os => (HI.out _ (B3.out d os)).2.key HA.out.2.2.1 hlt
      have sk : Hid (∀ d os, Calls Try.prog 13 #[V i, V' i] (grow (redrawn wr d) os) fun e w' => e = .returned (.bool true) ∧ Below (grow (redrawn wr d) os).heap.size (grow (redrawn wr d) os) w') := fun d os => SK.out i hlt _ _ _ ((HI.out _ (B3.out d os)).1 i hlt).2 ((HI.out _ (B3.out d os)).2 i hlt).2
      have ia : (Try.prog.info? 24).map (·.size) = some (cB (L.getD i zE).A).length := by rw [cB_len, (HA.out.2.2.1 i hlt).1]; exact size_adE
      have eq := EQ.out i hlt
      clear h8 hi EQ SK
      generalize cB (L.getD i zE).A = ca at *
      generalize V i = v1 at *
      generalize V' i = v2 at *
      go_wp2_with fail
      refine wp_region_quiet_below (by kernel_rfl) (by kernel_rfl) ?_
      repeat
        first
          | go_big_quiet_skip
          | (go_big_quiet_want; refine quiet_load_midE 24 _ rfl b (o + i * 21) rfl ca _ ra Try.underlying24 rfl ia ?_; simp only [Act.put, List.setIfInBounds_toArray, List.set_cons_succ, List.set_cons_zero]; go_big_quiet_on)
          | (go_big_quiet_want; refine quiet_load_midE 24 _ rfl b' (o' + i * 21) rfl ca _ rb Try.underlying24 rfl ia ?_; simp only [Act.put, List.setIfInBounds_toArray, List.set_cons_succ, List.set_cons_zero]; go_big_quiet_on)
          | (go_big_quiet_want; go_big_quiet_op; go_big_quiet_on)
          | (go_big_quiet_want
             go_big_quiet_op
             apply Exists.intro
             refine ⟨fun p => ?_, ?_⟩
             · (go_at_call 13; with_reducible exact Calls.regrown_of (sk.out _ _))
             go_big_quiet_on)
      refine wpQuiet_nil ?_
      rintro w2 ⟨q, rfl⟩
      have hb := B3.out q.d q.os
      generalize grow (redrawn wr q.d) q.os = w2 at *
      clear ra rb eq ia B3 gk1 gk2 sk
      go_wp2
      go_roundg (L.length - (i + 1))
      case measure => have := HK.out.1; omega
      case rel => exact ⟨i + 1, rfl, hlt, by go_num, hb⟩
end Go.Proofs.Ytongiohdomacoaa
