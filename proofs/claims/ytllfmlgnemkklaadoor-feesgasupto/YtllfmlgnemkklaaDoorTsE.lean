import Derived.Test.YtllfmlgnemkklaaDoorTsD
/- slices.Equal of digests and authorizations, the document's sameHashes. -/
namespace Go.Proofs.YtllfmlgnemkklaaDoor.tq
open Go.RowKit Go.Sort
def eqL {α : Type} (q : α → α → Bool) (z : α) (L M : List α) : Bool := decide (L.length = M.length) && (List.range L.length).all fun j => q (L.getD j z) (M.getD j z)
theorem eqL_len {α : Type} {q : α → α → Bool} {z : α} {L M : List α} (h : ¬ L.length = M.length) : eqL q z L M = false := by simp [eqL, h]
theorem eqL_yes {α : Type} {q : α → α → Bool} {z : α} {L M : List α} (h : L.length = M.length) (k : ∀ j, j < L.length → q (L.getD j z) (M.getD j z) = true) : eqL q z L M = true := by
  unfold eqL
  rw [decide_eq_true h, Bool.true_and, List.all_eq_true]
  exact fun j hj => k j (List.mem_range.1 hj)
theorem eqL_no {α : Type} {q : α → α → Bool} {z : α} {L M : List α} {i : Nat} (hi : i < L.length) (h : q (L.getD i z) (M.getD i z) = false) : eqL q z L M = false := by
  unfold eqL
  rw [Bool.and_eq_false_iff]
  right
  rw [List.all_eq_false]
  exact ⟨i, List.mem_range.2 hi, by rw [h]; simp⟩
theorem eqL_iff {α : Type} {q : α → α → Bool} {z : α} {L M : List α} (hq : ∀ x y, q x y = true ↔ x = y) : eqL q z L M = true ↔ L = M := by
  constructor
  · intro h
    unfold eqL at h
    rw [Bool.and_eq_true, decide_eq_true_iff, List.all_eq_true] at h
    refine List.ext_getElem h.1 fun i h1 h2 => ?_
    have := (hq _ _).1 (h.2 i (List.mem_range.2 h1))
    rwa [List.getD, List.getD, List.getElem?_eq_getElem h1, List.getElem?_eq_getElem h2] at this
  · rintro rfl
    exact eqL_yes rfl fun j _ => (hq _ _).2 rfl
def eqB (X Y : List Int) : Bool := decide (X = Y)
theorem eqB_iff (X Y : List Int) : eqB X Y = true ↔ X = Y := by simp [eqB]
theorem size_aun : (Tryd.prog.info? 56).map (·.size) = some 34 := by kernel_rfl
set_option maxRecDepth 100000 in
set_option maxHeartbeats 8000000 in
theorem rsameH_any {a a' : Option Addr} {b o c b' o' c' : Nat} {L M : List (List Int)} (hl : L.length < 1000000000) (w : World) (hG : KsG w a b o c L) (hG' : KsG w a' b' o' c' M) :
    Calls Tryd.prog 34 #[.slice a L.length c, .slice a' M.length c'] w fun e w' => e = .returned (.bool (eqL eqB [] L M)) ∧ Below w.heap.size w w' := by
  by_cases hn : L.length = M.length
  case neg =>
    rw [eqL_len hn]
    have hn' : ¬ ((L.length : Int) = (M.length : Int)) := by omega
    clear hl hG hG' hn
    go_enter Tryd.func34, Tryd.ntmps34
    go_wp2
    simp [bodyPost, results, Tryd.results34, go_sem]
    exact Below.refl _ _
  rw [← hn]
  have HA : Hid (KsG w a b o c L ∧ KsG w a' b' o' c' M ∧ L.length = M.length) := ⟨hG, hG', hn⟩
  have n1 : (L.length : Int) < 1000000000 := by omega
  have EQ : Hid (∀ i, i < L.length → ∀ w, (Op.equalIn 10000 67 (.agg (hC (L.getD i [])).toArray) (.agg (hC (M.getD i [])).toArray)).run Tryd.prog w = .ok (eqB (L.getD i []) (M.getD i [])) w) := fun i hi w => eq_hs (HA.out.1.2.2 i hi).1.1 (HA.out.2.1.2.2 i (by rw [← HA.out.2.2]; exact hi)).1.1 w
  have LN : Hid (∀ i, i < L.length → (hC (L.getD i [])).length = 32 ∧ (hC (M.getD i [])).length = 32) := fun i hi => ⟨HA.out.1.len i hi, HA.out.2.1.len i (by rw [← HA.out.2.2]; exact hi)⟩
  clear hl hG hG' hn
  go_enter Tryd.func34, Tryd.ntmps34
  go_wp2_with fail
  go_loopg [5] L.length (fun kk iv wr => ∃ i : Nat, kk = L.length - i ∧ i ≤ L.length ∧ iv = .int .i64 (i : Int) ∧ (∀ j, j < i → eqB (L.getD j []) (M.getD j []) = true) ∧ Below w.heap.size w wr)
  case atStart => exact ⟨0, rfl, Nat.zero_le _, rfl, fun n hn => absurd hn (Nat.not_lt_zero _), Below.refl _ _⟩
  case round =>
    obtain ⟨i, hk, hi, rfl, ht, B⟩ := hrel
    have HK : Hid (gk = L.length - i ∧ ∀ j, j < i → eqB (L.getD j []) (M.getD j []) = true) := ⟨hk, ht⟩
    clear hk ht
    by_cases h8 : i = L.length
    · have HT : Hid (eqL eqB [] L M = true) := eqL_yes HA.out.2.2 (by rw [← h8]; exact HK.out.2)
      subst h8
      clear HA EQ HK LN
      go_wp2
      simp [bodyPost, results, Tryd.results34, go_sem]
      exact ⟨HT.out, B⟩
    · have hlt : i < L.length := by omega
      have hlt' : (i : Int) < (L.length : Int) := by omega
      obtain rfl : a = some ⟨b, o, none⟩ := by
        rcases HA.out.1.2.1 with h | h
        · rw [h] at hlt; exact absurd hlt (Nat.not_lt_zero _)
        · exact h
      obtain rfl : a' = some ⟨b', o', none⟩ := by
        rcases HA.out.2.1.2.1 with h | h
        · rw [HA.out.2.2, h] at hlt; exact absurd hlt (Nat.not_lt_zero _)
        · exact h
      have B3 : Hid (∀ d os, Below w.heap.size w (grow (redrawn wr d) os)) := fun d os => B.trans ((below_regrown wr d os).mono B.size)
      have rb : ∀ w', (∃ q : Regrown, w' = grow (redrawn wr q.d) q.os) → w'.rangeAt b (o + i * 32) (hC (L.getD i [])) := by rintro w' ⟨q, rfl⟩; exact range_keep (HA.out.1.2.2 i hlt).2 (B3.out q.d q.os)
      have rc : ∀ w', (∃ q : Regrown, w' = grow (redrawn wr q.d) q.os) → w'.rangeAt b' (o' + i * 32) (hC (M.getD i [])) := by rintro w' ⟨q, rfl⟩; exact range_keep (HA.out.2.1.2.2 i (by rw [← HA.out.2.2]; exact hlt)).2 (B3.out q.d q.os)
      have ib : (Tryd.prog.info? 67).map (·.size) = some (hC (L.getD i [])).length := by rw [(LN.out i hlt).1]; exact size_hs
      have ic : (Tryd.prog.info? 67).map (·.size) = some (hC (M.getD i [])).length := by rw [(LN.out i hlt).2]; exact size_hs
      have eq := EQ.out i hlt
      have DD : Hid (∀ r, eqB (L.getD i []) (M.getD i []) = r → r = eqB (L.getD i []) (M.getD i [])) := fun r h => h.symm
      have NO : Hid (eqB (L.getD i []) (M.getD i []) = false → eqL eqB [] L M = false) := fun h => eqL_no hlt h
      clear h8 hi EQ LN
      generalize hC (L.getD i []) = ci at *
      generalize hC (M.getD i []) = di at *
      obtain ⟨dd, hd⟩ : ∃ dd, eqB (L.getD i []) (M.getD i []) = dd := ⟨_, rfl⟩
      have HD : Hid (eqB (L.getD i []) (M.getD i []) = dd) := hd
      rw [hd] at eq
      clear hd DD
      cases dd with
      | true =>
        go_wp2_with fail
        refine wp_region_quiet_below (by kernel_rfl) (by kernel_rfl) ?_
        repeat
          first
            | go_big_quiet_skip
            | (go_big_quiet_want; refine quiet_load_midT 67 _ rfl b (o + i * 32) rfl ci _ rb Tryd.underlying67 rfl ib ?_; simp only [Act.put, List.setIfInBounds_toArray, List.set_cons_succ, List.set_cons_zero]; go_big_quiet_on)
            | (go_big_quiet_want; refine quiet_load_midT 67 _ rfl b' (o' + i * 32) rfl di _ rc Tryd.underlying67 rfl ic ?_; simp only [Act.put, List.setIfInBounds_toArray, List.set_cons_succ, List.set_cons_zero]; go_big_quiet_on)
            | (go_big_quiet_want; go_big_quiet_op; go_big_quiet_on)
        refine wpQuiet_nil ?_
        rintro w2 ⟨q, rfl⟩
        have hb := B3.out q.d q.os
        generalize grow (redrawn wr q.d) q.os = w2 at *
        clear rb rc eq ib ic B3
        go_wp2
        go_roundg (L.length - (i + 1))
        case measure => have := HK.out.1; omega
        case rel => exact ⟨i + 1, rfl, hlt, by go_num, fun n hn => by
          by_cases c : n = i
          · subst c; exact HD.out
          · exact HK.out.2 n (by omega), hb⟩
      | false =>
        go_wp2_with fail
        refine wp_region_quiet_below (by kernel_rfl) (by kernel_rfl) ?_
        repeat
          first
            | go_big_quiet_skip
            | (go_big_quiet_want; refine quiet_load_midT 67 _ rfl b (o + i * 32) rfl ci _ rb Tryd.underlying67 rfl ib ?_; simp only [Act.put, List.setIfInBounds_toArray, List.set_cons_succ, List.set_cons_zero]; go_big_quiet_on)
            | (go_big_quiet_want; refine quiet_load_midT 67 _ rfl b' (o' + i * 32) rfl di _ rc Tryd.underlying67 rfl ic ?_; simp only [Act.put, List.setIfInBounds_toArray, List.set_cons_succ, List.set_cons_zero]; go_big_quiet_on)
            | (go_big_quiet_want; go_big_quiet_op; go_big_quiet_on)
        refine wpQuiet_nil ?_
        rintro w2 ⟨q, rfl⟩
        have hb := B3.out q.d q.os
        generalize grow (redrawn wr q.d) q.os = w2 at *
        clear rb rc eq ib ic B3
        go_wp2
        simp [bodyPost, results, Tryd.results34, go_sem]
        exact ⟨NO.out HD.out, hb⟩
end Go.Proofs.YtllfmlgnemkklaaDoor.tq
