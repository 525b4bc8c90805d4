import Derived.Test.YtllfmlgnemkklaaDoorTsE
/- StillHashes of what LentHashes made; sameEntry; slices.EqualFunc of entries. -/
namespace Go.Proofs.YtllfmlgnemkklaaDoor.tq
open Go.RowKit Go.Sort
theorem getD_app {α : Type} {z : α} {L M : List α} {i : Nat} (h : i < L.length) : (L ++ M).getD i z = L.getD i z := by
  simp [List.getD, List.getElem?_append_left h]
theorem getD_appR {α : Type} {z : α} {L M : List α} (i : Nat) : (L ++ M).getD (L.length + i) z = M.getD i z := by
  simp [List.getD, List.getElem?_append_right (Nat.le_add_right _ _)]
theorem lent_len {ks : List (List Int)} (h : ∀ i, i < ks.length → (hC (ks.getD i [])).length = 32) (i : Nat) (hi : i < (ks ++ [mkHs, mkHs]).length) : (hC ((ks ++ [mkHs, mkHs]).getD i [])).length = 32 := by
  by_cases e : i < ks.length
  · rw [getD_app e]; exact h i e
  · rw [List.length_append] at hi
    have : i = ks.length + 0 ∨ i = ks.length + 1 := by simp at hi; omega
    rcases this with rfl | rfl <;> (rw [getD_appR]; rfl)
set_option maxRecDepth 100000 in
set_option maxHeartbeats 8000000 in
theorem stillH_yes {a : Option Addr} {b o c g cap : Nat} {ks : List (List Int)} (hl : ks.length < 1000000000) (hcap : ks.length + 2 ≤ cap) (w : World) (hM : MkH w) (hG : KsG w a b o c ks) (hr : w.rangeAt g 0 (flatC hC (ks ++ [mkHs, mkHs]))) :
    Calls Tryd.prog 32 #[.slice (some ⟨g, 0, none⟩) ks.length cap, .slice a ks.length c] w fun e w' => e = .returned (.bool true) ∧ Below w.heap.size w w' := by
  obtain ⟨m, em⟩ : ∃ m, m = ks.length := ⟨_, rfl⟩
  have HA : Hid (KsG w a b o c ks ∧ ks.length = m) := ⟨hG, em.symm⟩
  have HR : Hid (∀ W, Below w.heap.size w W → ∀ i, i < m → W.rangeAt g (i * 32) (hC (ks.getD i []))) := fun W B i hi => by
    have h := flat_at [] _ 0 (lent_len hG.len) hr i (by rw [List.length_append]; omega)
    rw [getD_app (by omega), Nat.zero_add] at h
    exact range_keep h B
  have H2 : Hid (∀ W, Below w.heap.size w W → W.rangeAt g (m * 32) (hC mkHs) ∧ W.rangeAt g ((m + 1) * 32) (hC mkHs) ∧ W.rangeAt 1 0 (hC mkHs)) := fun W B => by
    have h0 := flat_at [] _ 0 (lent_len hG.len) hr (ks.length + 0) (by simp)
    have h1 := flat_at [] _ 0 (lent_len hG.len) hr (ks.length + 1) (by simp)
    rw [getD_appR, Nat.zero_add, ← em] at h0 h1
    exact ⟨range_keep h0 B, range_keep h1 B, range_keep hM B⟩
  have EQ : Hid (∀ i, i < m → ∀ w, (Op.equalIn 10000 67 (.agg (hC (ks.getD i [])).toArray) (.agg (hC (ks.getD i [])).toArray)).run Tryd.prog w = .ok true w) := fun i hi w => by
    have h := eq_hs (hG.2.2 i (by omega)).1.1 (hG.2.2 i (by omega)).1.1 w
    rw [decide_eq_true rfl] at h; exact h
  have EM : Hid (∀ w, (Op.equalIn 10000 67 (.agg (hC mkHs).toArray) (.agg (hC mkHs).toArray)).run Tryd.prog w = .ok true w) := fun w => by
    have h := eq_hs (X := mkHs) (Y := mkHs) rfl rfl w
    rw [decide_eq_true rfl] at h; exact h
  have LM : Hid ((Tryd.prog.info? 67).map (·.size) = some (hC mkHs).length) := size_hs
  generalize hC mkHs = mh at *
  rw [← em] at hcap hl ⊢
  have n1 : (m : Int) < 1000000000 := by omega
  have n2 : (m : Int) + 2 ≤ (cap : Int) := by omega
  clear hG hr hl em hM
  go_enter Tryd.func32, Tryd.ntmps32
  go_wp2_with fail
  go_loopg [6] m (fun k iv wr => ∃ i : Nat, k = m - i ∧ i ≤ m ∧ iv = .int .i64 i ∧ Below w.heap.size w wr)
  case atStart => exact ⟨0, rfl, Nat.zero_le _, rfl, Below.refl _ _⟩
  case round =>
    obtain ⟨i, hk, hi, rfl, B⟩ := hrel
    have HK : Hid (gk = m - i) := hk
    clear hk
    have B3 : Hid (∀ d os, Below w.heap.size w (grow (redrawn wr d) os)) := fun d os => B.trans ((below_regrown wr d os).mono B.size)
    by_cases h8 : i = m
    · subst h8
      have rb : ∀ w', (∃ q : Regrown, w' = grow (redrawn wr q.d) q.os) → w'.rangeAt g (i * 32) mh := by rintro w' ⟨q, rfl⟩; exact (H2.out _ (B3.out q.d q.os)).1
      have rc : ∀ w', (∃ q : Regrown, w' = grow (redrawn wr q.d) q.os) → w'.rangeAt g ((i + 1) * 32) mh := by rintro w' ⟨q, rfl⟩; exact (H2.out _ (B3.out q.d q.os)).2.1
      have rd : ∀ w', (∃ q : Regrown, w' = grow (redrawn wr q.d) q.os) → w'.rangeAt 1 0 mh := by rintro w' ⟨q, rfl⟩; exact (H2.out _ (B3.out q.d q.os)).2.2
      have eq := EM.out
      have ib := LM.out
      clear EM LM EQ HR H2 HA hi
      have n3 : (i : Int) < (cap : Int) := by omega
      have n4 : (i : Int) + 1 < (i : Int) + 2 := by omega
      have n5 : (i : Int) < (i : Int) + 2 := by omega
      have n6 : (0 : Int) ≤ (i : Int) + 1 := by omega
      go_wp2_with fail
      refine wp_region_quiet_below (by kernel_rfl) (by kernel_rfl) ?_
      repeat
        first
          | go_big_quiet_skip
          | (go_big_quiet_want; refine quiet_load_midT 67 _ rfl g (i * 32) rfl mh _ rb Tryd.underlying67 rfl ib ?_; simp only [Act.put, List.setIfInBounds_toArray, List.set_cons_succ, List.set_cons_zero]; go_big_quiet_on)
          | (go_big_quiet_want; refine quiet_load_midT 67 _ rfl 1 0 rfl mh _ rd Tryd.underlying67 rfl ib ?_; simp only [Act.put, List.setIfInBounds_toArray, List.set_cons_succ, List.set_cons_zero]; go_big_quiet_on)
          | (go_big_quiet_want; refine quiet_load_midT 67 _ rfl g ((i + 1) * 32) rfl mh _ rc Tryd.underlying67 rfl ib ?_; simp only [Act.put, List.setIfInBounds_toArray, List.set_cons_succ, List.set_cons_zero]; go_big_quiet_on)
          | (go_big_quiet_want; go_big_quiet_op; go_big_quiet_on)
      refine wpQuiet_nil ?_
      rintro w2 ⟨q, rfl⟩
      have hb := B3.out q.d q.os
      generalize grow (redrawn wr q.d) q.os = w2 at *
      clear rb rc rd eq ib B3
      go_wp2
      simp [bodyPost, results, Tryd.results32, go_sem]
      exact hb
    · have hlt : i < m := by omega
      have hlt' : (i : Int) < (m : Int) := by omega
      obtain rfl : a = some ⟨b, o, none⟩ := by
        rcases HA.out.1.2.1 with h | h
        · have := HA.out.2; rw [h] at this; simp at this; omega
        · exact h
      have rb : ∀ w', (∃ q : Regrown, w' = grow (redrawn wr q.d) q.os) → w'.rangeAt g (i * 32) (hC (ks.getD i [])) := by rintro w' ⟨q, rfl⟩; exact HR.out _ (B3.out q.d q.os) i hlt
      have rc : ∀ w', (∃ q : Regrown, w' = grow (redrawn wr q.d) q.os) → w'.rangeAt b (o + i * 32) (hC (ks.getD i [])) := by rintro w' ⟨q, rfl⟩; exact range_keep (HA.out.1.2.2 i (by rw [HA.out.2]; exact hlt)).2 (B3.out q.d q.os)
      have ib : (Tryd.prog.info? 67).map (·.size) = some (hC (ks.getD i [])).length := by rw [HA.out.1.len i (by rw [HA.out.2]; exact hlt)]; exact size_hs
      have eq := EQ.out i hlt
      clear EM LM EQ HR H2 hi
      have n3 : (i : Int) < (cap : Int) := by omega
      have n5 : (i : Int) < (m : Int) + 2 := by omega
      generalize hC (ks.getD i []) = ci at *
      go_wp2_with fail
      refine wp_region_quiet_below (by kernel_rfl) (by kernel_rfl) ?_
      repeat
        first
          | go_big_quiet_skip
          | (go_big_quiet_want; refine quiet_load_midT 67 _ rfl g (i * 32) rfl ci _ rb Tryd.underlying67 rfl ib ?_; simp only [Act.put, List.setIfInBounds_toArray, List.set_cons_succ, List.set_cons_zero]; go_big_quiet_on)
          | (go_big_quiet_want; refine quiet_load_midT 67 _ rfl b (o + i * 32) rfl ci _ rc Tryd.underlying67 rfl ib ?_; simp only [Act.put, List.setIfInBounds_toArray, List.set_cons_succ, List.set_cons_zero]; go_big_quiet_on)
          | (go_big_quiet_want; go_big_quiet_op; go_big_quiet_on)
      refine wpQuiet_nil ?_
      rintro w2 ⟨q, rfl⟩
      have hb := B3.out q.d q.os
      generalize grow (redrawn wr q.d) q.os = w2 at *
      clear rb rc eq ib B3
      go_wp2
      go_roundg (m - (i + 1))
      case measure => have := HK.out; omega
      case rel => exact ⟨i + 1, rfl, by omega, by go_num, hb⟩
/-- The same entry? -/
def sameE (e f : En) : Bool := decide (e.adr = f.adr) && eqL eqB [] e.ks f.ks
theorem size_en : (Tryd.prog.info? 41).map (·.size) = some 21 := by kernel_rfl
theorem enC_len {e : En} (h : e.adr.length = 20) : (enC e).length = 21 := by rw [enC, List.length_append, hC_len, h]; rfl
theorem EnG.keep {W W' : World} {e : En} (h : EnG W e) (B : Below W.heap.size W W') : EnG W' e := ⟨h.1, h.2.1, h.2.2.1, fun i hi => ⟨(h.2.2.2 i hi).1, range_keep (h.2.2.2 i hi).2 B⟩⟩
theorem KsG.keep {W W' : World} {a : Option Addr} {b o c : Nat} {ks : List (List Int)} (h : KsG W a b o c ks) (B : Below W.heap.size W W') : KsG W' a b o c ks := ⟨h.1, h.2.1, fun i hi => ⟨(h.2.2 i hi).1, range_keep (h.2.2 i hi).2 B⟩⟩
theorem UsG.keep {W W' : World} {a : Option Addr} {b o c : Nat} {us : List Aun} (h : UsG W a b o c us) (B : Below W.heap.size W W') : UsG W' a b o c us := ⟨h.1, h.2.1, fun i hi => ⟨(h.2.2 i hi).1, range_keep (h.2.2 i hi).2 B⟩⟩
theorem EsG.keep {W W' : World} {a : Option Addr} {b o c : Nat} {es : List En} (h : EsG W a b o c es) (B : Below W.heap.size W W') : EsG W' a b o c es := ⟨h.1, h.2.1, fun i hi => ⟨(h.2.2 i hi).1.keep B, range_keep (h.2.2 i hi).2 B⟩⟩
theorem BtG.keep {W W' : World} {a : Option Addr} {b o c : Nat} {X : List Int} (h : BtG W a b o c X) (B : Below W.heap.size W W') : BtG W' a b o c X := ⟨h.1, h.2.1, h.2.2.1.keep B, h.2.2.2⟩
theorem TxG.keep {W W' : World} {t : Txv} (h : TxG W t) (B : Below W.heap.size W W') : TxG W' t := ⟨h.ty, h.ch, h.no, h.pr, h.ti, h.ca, h.gas, h.to, h.va, h.D.keep B, h.E.keep B, h.bc, h.Hs.keep B, h.U.keep B, h.sv, h.sr, h.ss⟩
end Go.Proofs.YtllfmlgnemkklaaDoor.tq
