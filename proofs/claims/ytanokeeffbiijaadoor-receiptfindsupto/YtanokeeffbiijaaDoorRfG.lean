import Derived.Test.YtanokeeffbiijaaDoorRfB
import Derived.Test.YtanokeeffbiijaaDoorRcF
/- waybillplay: LentAddresses, StillAddresses. -/
namespace Go.Proofs.YtanokeeffbiijaaDoor.tq
open Go.RowKit Go.Sort
theorem rI_ad : rowInfo Tryd.prog 38 20 20 = true := by kernel_rfl
theorem AsG.len {W : World} {a : Option Addr} {b o c : Nat} {ks : List (List Int)} (h : AsG W a b o c ks) (i : Nat) (hi : i < ks.length) : (hC (ks.getD i [])).length = 20 := by
  rw [hC_len]; exact (h.2.2 i hi).1.1
def mk2A : List Value := flatC hC [mkAd, mkAd]
theorem mk2A_eq : [Value.int .u8 165, .int .u8 90, .int .u8 0, .int .u8 0, .int .u8 0, .int .u8 0, .int .u8 0, .int .u8 0, .int .u8 0, .int .u8 0, .int .u8 0, .int .u8 0, .int .u8 0, .int .u8 0, .int .u8 0, .int .u8 0, .int .u8 0, .int .u8 0, .int .u8 0, .int .u8 0, .int .u8 165, .int .u8 90, .int .u8 0, .int .u8 0, .int .u8 0, .int .u8 0, .int .u8 0, .int .u8 0, .int .u8 0, .int .u8 0, .int .u8 0, .int .u8 0, .int .u8 0, .int .u8 0, .int .u8 0, .int .u8 0, .int .u8 0, .int .u8 0, .int .u8 0, .int .u8 0] = mk2A := rfl
theorem mk2A_len : mk2A.length = 2 * 20 := rfl
theorem mk2A_new {W : World} {t : TypeId} : (W.alloc (.cells #[.int .u8 165, .int .u8 90, .int .u8 0, .int .u8 0, .int .u8 0, .int .u8 0, .int .u8 0, .int .u8 0, .int .u8 0, .int .u8 0, .int .u8 0, .int .u8 0, .int .u8 0, .int .u8 0, .int .u8 0, .int .u8 0, .int .u8 0, .int .u8 0, .int .u8 0, .int .u8 0, .int .u8 165, .int .u8 90, .int .u8 0, .int .u8 0, .int .u8 0, .int .u8 0, .int .u8 0, .int .u8 0, .int .u8 0, .int .u8 0, .int .u8 0, .int .u8 0, .int .u8 0, .int .u8 0, .int .u8 0, .int .u8 0, .int .u8 0, .int .u8 0, .int .u8 0, .int .u8 0] t)).rangeAt W.heap.size 0 mk2A := by rw [← mk2A_eq]; exact new_range
theorem AsG.flat {W : World} {a : Option Addr} {b o c : Nat} {ks : List (List Int)} (h : AsG W a b o c ks) : W.rangeAt b o (flatC hC ks) := flat_of [] ks o h.len fun i hi => (h.2.2 i hi).2
theorem AsG.flen {W : World} {a : Option Addr} {b o c : Nat} {ks : List (List Int)} (h : AsG W a b o c ks) : (flatC hC ks).length = ks.length * 20 := flatC_len ks (mem_at (p := fun x => (hC x).length = 20) [] h.len)
theorem AsG.or {W : World} {a : Option Addr} {b o c : Nat} {ks : List (List Int)} (h : AsG W a b o c ks) : ks.length = 0 ∨ a = some ⟨b, o, none⟩ := h.2.1.imp (fun e => by rw [e]; rfl) id
theorem ads_one (ks : List (List Int)) : ∀ u ∈ flatC hC ks, u.oneCell' = true := flat_one ks fun x _ => hC_one x
theorem mk2A_one : ∀ u ∈ mk2A, u.oneCell' = true := ads_one _
set_option maxRecDepth 100000 in
set_option maxHeartbeats 4000000 in
theorem lentA_any {a : Option Addr} {b o c : Nat} {ks : List (List Int)} (hl : ks.length < 1000000000) (w : World) (hM : MkA w) (hG : AsG w a b o c ks) :
    Calls Tryd.prog 6 #[.slice a ks.length c] w fun e w' => ∃ g cap, e = .returned (.slice (some ⟨g, 0, none⟩) ks.length cap) ∧ ks.length + 2 ≤ cap ∧ w.heap.size ≤ g ∧ g < w'.heap.size ∧ w'.rangeAt g 0 (flatC hC (ks ++ [mkAd, mkAd])) ∧ Below w.heap.size w w' := by
  obtain ⟨m, em⟩ : ∃ m, m = ks.length := ⟨_, rfl⟩
  have HG : Hid (AsG w a b o c ks ∧ m < 1000000000 ∧ ks.length = m) := ⟨hG, by omega, em.symm⟩
  have HM : Hid (w.rangeAt 0 0 [.int .u8 165, .int .u8 90, .int .u8 0, .int .u8 0, .int .u8 0, .int .u8 0, .int .u8 0, .int .u8 0, .int .u8 0, .int .u8 0, .int .u8 0, .int .u8 0, .int .u8 0, .int .u8 0, .int .u8 0, .int .u8 0, .int .u8 0, .int .u8 0, .int .u8 0, .int .u8 0]) := hM
  have n1 : (m : Int) < 1000000000 := by omega
  rw [← em]
  clear hG hl hM em
  go_enter Tryd.func6, Tryd.ntmps6
  go_wp2_with first
    | refine wpList_load_mid rfl 38 _ rfl 0 0 rfl [.int .u8 165, .int .u8 90, .int .u8 0, .int .u8 0, .int .u8 0, .int .u8 0, .int .u8 0, .int .u8 0, .int .u8 0, .int .u8 0, .int .u8 0, .int .u8 0, .int .u8 0, .int .u8 0, .int .u8 0, .int .u8 0, .int .u8 0, .int .u8 0, .int .u8 0, .int .u8 0] _ r1 Tryd.underlying38 rfl size_ad ?_
    | ((at_builtin; refine wpList_append_rw (n := 0) (g := b) (p := o) (news := flatC hC ks) 20 20 23 38 Tryd.underlying23 rI_ad (by decide) rfl _ _ rfl rfl rfl (World.ownsRow_nil w w.heap.size _ _) (by rw [← HG.out.2.2]; exact HG.out.1.flen) (by rw [← HG.out.2.2]; exact HG.out.1.or) HG.out.1.1.2 HG.out.1.flat (ads_one ks) (by have := HG.out.2; unfold maxLen; omega) (by have := HG.out.2; omega) (Nat.le_refl _) ?_); (intro v1 w1 h1 g1 b1); (have B1 : Below w.heap.size w w1 := (Below.refl _ _).grown g1 (Nat.le_refl _) (fun k hk => by cases hk)); (have r1 : w1.rangeAt 0 0 [.int .u8 165, .int .u8 90, .int .u8 0, .int .u8 0, .int .u8 0, .int .u8 0, .int .u8 0, .int .u8 0, .int .u8 0, .int .u8 0, .int .u8 0, .int .u8 0, .int .u8 0, .int .u8 0, .int .u8 0, .int .u8 0, .int .u8 0, .int .u8 0, .int .u8 0, .int .u8 0] := range_keep HM.out B1); (have HO : Hid (w1.ownsRow w.heap.size 38 20 v1 m (flatC hC ks) ∧ Below w.heap.size w w1) := ⟨by rw [Nat.zero_add, List.nil_append] at h1; exact h1, B1⟩); (clear h1 g1 b1 B1))
    | ((at_builtin; refine wpList_append_rw (B := w.heap.size) (n := m) (v := v1) (xs := flatC hC ks) (g := w1.heap.size) (p := 0) (m := 2) (news := mk2A) 20 20 23 38 Tryd.underlying23 rI_ad (by decide) rfl _ _ rfl rfl rfl (HO.out.1.alloc _) mk2A_len (.inr rfl) (fun e => by cases e) mk2A_new mk2A_one (by have := HG.out.2; unfold maxLen; omega) (by have := HG.out.2; omega) (by have := HO.out.2.size; rw [World.size_alloc]; omega) ?_); (intro v2 w2 h2 g2 b2); (obtain ⟨g, cap, e2, hcap, hb, hlt, hr⟩ := own_at h2 (by omega)); (have c1 : (m : Int) ≤ (cap : Int) := by omega); (have HR : Hid (w2.rangeAt g 0 (flatC hC (ks ++ [mkAd, mkAd])) ∧ Below w.heap.size w w2 ∧ w.heap.size ≤ g ∧ g < w2.heap.size ∧ m + 2 ≤ cap) := ⟨by rw [flatC_app]; exact hr, (HO.out.2.alloc HO.out.2.size _).grown g2 (by have := HO.out.2.size; rw [World.size_alloc]; omega) (fun k hk => (HO.out.1.lt k hk).1), hb, hlt, hcap⟩); (subst e2); (clear h2 g2 b2 hb hlt hr hcap))
  simp [bodyPost, results, Tryd.results6, go_sem]
  exact ⟨g, cap, ⟨rfl, rfl⟩, HR.out.2.2.2.2, HR.out.2.2.1, HR.out.2.2.2.1, HR.out.1, HR.out.2.1⟩
theorem lentA_len {ks : List (List Int)} (h : ∀ i, i < ks.length → (hC (ks.getD i [])).length = 20) (i : Nat) (hi : i < (ks ++ [mkAd, mkAd]).length) : (hC ((ks ++ [mkAd, mkAd]).getD i [])).length = 20 := by
  by_cases e : i < ks.length
  · rw [getD_app e]; exact h i e
  · rw [List.length_append] at hi
    have : i = ks.length + 0 ∨ i = ks.length + 1 := by simp at hi; omega
    rcases this with rfl | rfl <;> (rw [getD_appR]; rfl)
set_option maxRecDepth 100000 in
set_option maxHeartbeats 8000000 in
theorem stillA_yes {a : Option Addr} {b o c g cap : Nat} {ks : List (List Int)} (hl : ks.length < 1000000000) (hcap : ks.length + 2 ≤ cap) (w : World) (hM : MkA w) (hG : AsG w a b o c ks) (hr : w.rangeAt g 0 (flatC hC (ks ++ [mkAd, mkAd]))) :
    Calls Tryd.prog 12 #[.slice (some ⟨g, 0, none⟩) ks.length cap, .slice a ks.length c] w fun e w' => e = .returned (.bool true) ∧ Below w.heap.size w w' := by
  obtain ⟨m, em⟩ : ∃ m, m = ks.length := ⟨_, rfl⟩
  have HA : Hid (AsG w a b o c ks ∧ ks.length = m) := ⟨hG, em.symm⟩
  have HR : Hid (∀ W, Below w.heap.size w W → ∀ i, i < m → W.rangeAt g (i * 20) (hC (ks.getD i []))) := fun W B i hi => by
    have h := flat_at [] _ 0 (lentA_len hG.len) hr i (by rw [List.length_append]; omega)
    rw [getD_app (by omega), Nat.zero_add] at h
    exact range_keep h B
  have H2 : Hid (∀ W, Below w.heap.size w W → W.rangeAt g (m * 20) (hC mkAd) ∧ W.rangeAt g ((m + 1) * 20) (hC mkAd) ∧ W.rangeAt 0 0 (hC mkAd)) := fun W B => by
    have h0 := flat_at [] _ 0 (lentA_len hG.len) hr (ks.length + 0) (by simp)
    have h1 := flat_at [] _ 0 (lentA_len hG.len) hr (ks.length + 1) (by simp)
    rw [getD_appR, Nat.zero_add, ← em] at h0 h1
    exact ⟨range_keep h0 B, range_keep h1 B, range_keep hM B⟩
  have EQ : Hid (∀ i, i < m → ∀ w, (Op.equalIn 10000 38 (.agg (hC (ks.getD i [])).toArray) (.agg (hC (ks.getD i [])).toArray)).run Tryd.prog w = .ok true w) := fun i hi w => by
    have h := eq_ad (hG.2.2 i (by omega)).1.1 (hG.2.2 i (by omega)).1.1 w
    rw [decide_eq_true rfl] at h; exact h
  have EM : Hid (∀ w, (Op.equalIn 10000 38 (.agg (hC mkAd).toArray) (.agg (hC mkAd).toArray)).run Tryd.prog w = .ok true w) := fun w => by
    have h := eq_ad (X := mkAd) (Y := mkAd) rfl rfl w
    rw [decide_eq_true rfl] at h; exact h
  have LM : Hid ((Tryd.prog.info? 38).map (·.size) = some (hC mkAd).length) := size_ad
  generalize hC mkAd = mh at *
  rw [← em] at hcap hl ⊢
  have n1 : (m : Int) < 1000000000 := by omega
  have n2 : (m : Int) + 2 ≤ (cap : Int) := by omega
  clear hG hr hl em hM
  go_enter Tryd.func12, Tryd.ntmps12
  go_wp2_with fail
  go_loopg [6] m (fun k iv wr => ∃ i : Nat, k = m - i ∧ i ≤ m ∧ iv = .int .i64 i ∧ Below w.heap.size w wr)
  case atStart => exact ⟨0, rfl, Nat.zero_le _, rfl, Below.refl _ _⟩
  case round =>
    obtain ⟨i, hk, hi, rfl, B⟩ := hrel
    have HK : Hid (gk = m - i) := hk
    clear hk
    have B3 : Hid (∀ d os, Below w.heap.size w (grow (redrawn wr d) os)) := fun d os => B.trans ((below_regrown wr d os).mono B.size)
    by_cases h8 : i = m
    · subst h8
      have rb : ∀ w', (∃ q : Regrown, w' = grow (redrawn wr q.d) q.os) → w'.rangeAt g (i * 20) mh := by rintro w' ⟨q, rfl⟩; exact (H2.out _ (B3.out q.d q.os)).1
      have rc : ∀ w', (∃ q : Regrown, w' = grow (redrawn wr q.d) q.os) → w'.rangeAt g ((i + 1) * 20) mh := by rintro w' ⟨q, rfl⟩; exact (H2.out _ (B3.out q.d q.os)).2.1
      have rd : ∀ w', (∃ q : Regrown, w' = grow (redrawn wr q.d) q.os) → w'.rangeAt 0 0 mh := by rintro w' ⟨q, rfl⟩; exact (H2.out _ (B3.out q.d q.os)).2.2
      have eq := EM.out
      have ib := LM.out
      clear EM LM EQ HR H2 HA hi
      have n3 : (i : Int) < (cap : Int) := by omega
      have n4 : (i : Int) + 1 < (i : Int) + 2 := by omega
      have n5 : (i : Int) < (i : Int) + 2 := by omega
      have n6 : (0 : Int) ≤ (i : Int) + 1 := by omega
      go_wp2_with fail
      refine wp_region_quiet_below (by kernel_rfl) (by kernel_rfl) ?_
      repeat
        first
          | go_big_quiet_skip
          | (go_big_quiet_want; refine quiet_load_midT 38 _ rfl g (i * 20) rfl mh _ rb Tryd.underlying38 rfl ib ?_; simp only [Act.put, List.setIfInBounds_toArray, List.set_cons_succ, List.set_cons_zero]; go_big_quiet_on)
          | (go_big_quiet_want; refine quiet_load_midT 38 _ rfl 0 0 rfl mh _ rd Tryd.underlying38 rfl ib ?_; simp only [Act.put, List.setIfInBounds_toArray, List.set_cons_succ, List.set_cons_zero]; go_big_quiet_on)
          | (go_big_quiet_want; refine quiet_load_midT 38 _ rfl g ((i + 1) * 20) rfl mh _ rc Tryd.underlying38 rfl ib ?_; simp only [Act.put, List.setIfInBounds_toArray, List.set_cons_succ, List.set_cons_zero]; go_big_quiet_on)
          | (go_big_quiet_want; go_big_quiet_op; go_big_quiet_on)
      refine wpQuiet_nil ?_
      rintro w2 ⟨q, rfl⟩
      have hb := B3.out q.d q.os
      generalize grow (redrawn wr q.d) q.os = w2 at *
      clear rb rc rd eq ib B3
      go_wp2
      simp [bodyPost, results, Tryd.results12, go_sem]
      exact hb
    · have hlt : i < m := by omega
      have hlt' : (i : Int) < (m : Int) := by omega
      obtain rfl : a = some ⟨b, o, none⟩ := by
        rcases HA.out.1.2.1 with h | h
        · have := HA.out.2; rw [h] at this; simp at this; omega
        · exact h
      have rb : ∀ w', (∃ q : Regrown, w' = grow (redrawn wr q.d) q.os) → w'.rangeAt g (i * 20) (hC (ks.getD i [])) := by rintro w' ⟨q, rfl⟩; exact HR.out _ (B3.out q.d q.os) i hlt
      have rc : ∀ w', (∃ q : Regrown, w' = grow (redrawn wr q.d) q.os) → w'.rangeAt b (o + i * 20) (hC (ks.getD i [])) := by rintro w' ⟨q, rfl⟩; exact range_keep (HA.out.1.2.2 i (by rw [HA.out.2]; exact hlt)).2 (B3.out q.d q.os)
      have ib : (Tryd.prog.info? 38).map (·.size) = some (hC (ks.getD i [])).length := by rw [HA.out.1.len i (by rw [HA.out.2]; exact hlt)]; exact size_ad
      have eq := EQ.out i hlt
      clear EM LM EQ HR H2 hi
      have n3 : (i : Int) < (cap : Int) := by omega
      have n5 : (i : Int) < (m : Int) + 2 := by omega
      generalize hC (ks.getD i []) = ci at *
      go_wp2_with fail
      refine wp_region_quiet_below (by kernel_rfl) (by kernel_rfl) ?_
      repeat
        first
          | go_big_quiet_skip
          | (go_big_quiet_want; refine quiet_load_midT 38 _ rfl g (i * 20) rfl ci _ rb Tryd.underlying38 rfl ib ?_; simp only [Act.put, List.setIfInBounds_toArray, List.set_cons_succ, List.set_cons_zero]; go_big_quiet_on)
          | (go_big_quiet_want; refine quiet_load_midT 38 _ rfl b (o + i * 20) rfl ci _ rc Tryd.underlying38 rfl ib ?_; simp only [Act.put, List.setIfInBounds_toArray, List.set_cons_succ, List.set_cons_zero]; go_big_quiet_on)
          | (go_big_quiet_want; go_big_quiet_op; go_big_quiet_on)
      refine wpQuiet_nil ?_
      rintro w2 ⟨q, rfl⟩
      have hb := B3.out q.d q.os
      generalize grow (redrawn wr q.d) q.os = w2 at *
      clear rb rc eq ib B3
      go_wp2
      go_roundg (m - (i + 1))
      case measure => have := HK.out; omega
      case rel => exact ⟨i + 1, rfl, by omega, by go_num, hb⟩
end Go.Proofs.YtanokeeffbiijaaDoor.tq
