import Derived.Test.YtkmdhencmppemaaNbH
/- Layer 11: NibbleBack, NibbleOne. -/
namespace Go.Proofs.Ytkmdhencmppemaa
open Go.RowKit Go.Sort

theorem OwnB.bz {B a g c n : Nat} {W : World} {X : List Int} (h : OwnB B W (.slice (some ⟨g, a, none⟩) n c) X) (hn : X.length = n) : Bz W g a X := by
  obtain ⟨a', g', c', e, _, haz, hbz, _⟩ := h.lies
  injection e with e1 e2 e3
  rcases haz with rfl | e4
  · exact fun i hi => absurd hi (Nat.not_lt_zero _)
  · rw [e4] at e1
    injection e1 with e5
    injection e5 with e6 e7
    subst e6 e7
    exact hbz
theorem OwnB.at {B n c : Nat} {a : Option Addr} {W : World} {X : List Int} (h : OwnB B W (.slice a n c) X) : ∃ g, Az a g 0 X ∧ Bz W g 0 X := by
  obtain ⟨a', g', c', e, _, haz, hbz, _⟩ := h.lies
  injection e with e1 e2 e3
  subst e1
  exact ⟨g', haz, hbz⟩
theorem ofL_even (K : List Int) : ¬ (ofL K).length % 2 = 1 := by rw [ofL_len]; omega
theorem ofL_bys {K : List Int} (h : Bys K) : Bys (ofL K) := fun x hx => by have := ofL_row h x hx; omega
theorem ofL_rowB {K : List Int} (h : Bys K) : rowB (ofL K) = true := (rowB_iff (ofL_bys h)).2 (ofL_row h)
theorem key_ofE {K : List Int} (h : Bys K) : keyE (ofL K) = 0 := by rw [keyE, if_neg (by simp [ofL_even, ofL_rowB h])]
theorem key_ofX {K : List Int} (h : Bys K) : keyX (ofL K) = K := by rw [keyX, if_neg (by simp [ofL_even, ofL_rowB h]), joinL_of h]
theorem packH_at {M : List Int} (h : ∀ x ∈ M, 0 ≤ x ∧ x ≤ 15) (t : Bool) : (M.length % 2 = 1 ∧ 0 ≤ M.getD 0 0 ∧ M.getD 0 0 ≤ 15 ∧ packH M t = (if t then 48 else 16) + M.getD 0 0) ∨ (M.length % 2 = 0 ∧ packH M t = if t then 32 else 0) := by
  by_cases e : M.length % 2 = 1
  · left
    have hx : 0 ≤ M.getD 0 0 ∧ M.getD 0 0 ≤ 15 := by
      rw [List.getD, List.getElem?_eq_getElem (by omega)]
      exact h _ (List.getElem_mem _)
    refine ⟨e, hx.1, hx.2, ?_⟩
    rw [packH, if_pos e]
    cases t <;> simp <;> omega
  · right
    refine ⟨by omega, ?_⟩
    rw [packH, if_neg e, Int.add_zero]
theorem packR_row {M : List Int} (h : ∀ x ∈ M, 0 ≤ x ∧ x ≤ 15) : ∀ x ∈ packR M, 0 ≤ x ∧ x ≤ 15 := fun x hx => h x (List.mem_of_mem_drop hx)
theorem packR_even (M : List Int) : (packR M).length % 2 = 0 := by rw [packR, List.length_drop]; omega
theorem joinL_bys : ∀ {X : List Int}, (∀ x ∈ X, 0 ≤ x ∧ x ≤ 15) → Bys (joinL X)
  | [], _ => fun x hx => by simp [joinL] at hx
  | [_], _ => fun x hx => by simp [joinL] at hx
  | x :: y :: X, h => fun z hz => by
    have h1 := h x (by simp)
    have h2 := h y (by simp)
    rw [joinL] at hz
    rcases List.mem_cons.1 hz with rfl | hz
    · omega
    · exact joinL_bys (fun u hu => h u (by simp [hu])) z hz
theorem packL_bys {M : List Int} (h : ∀ x ∈ M, 0 ≤ x ∧ x ≤ 15) (t : Bool) : Bys (packL M t) := fun x hx => by
  rcases List.mem_cons.1 hx with rfl | hx
  · have hh := packH_at h t
    generalize M.getD 0 0 = x at hh
    rcases hh with ⟨_, a, b, e⟩ | ⟨_, e⟩ <;> rw [e] <;> cases t <;> simp <;> omega
  · exact joinL_bys (packR_row h) x hx
theorem packL_len (M : List Int) (t : Bool) : (packL M t).length = M.length / 2 + 1 := by
  rw [packL, List.length_cons, joinL_len, packR, List.length_drop]; omega
theorem packL_ok {M : List Int} (h : ∀ x ∈ M, 0 ≤ x ∧ x ≤ 15) (t : Bool) : okU (packL M t) := by
  refine ⟨by simp [packL], ?_⟩
  show packH M t = 0 ∨ packH M t = 32 ∨ (16 ≤ packH M t ∧ packH M t < 32) ∨ (48 ≤ packH M t ∧ packH M t < 64)
  have hh := packH_at h t
  generalize M.getD 0 0 = x at hh
  rcases hh with ⟨_, a, b, e⟩ | ⟨_, e⟩ <;> rw [e] <;> cases t <;> simp <;> omega
theorem unp_packM {M : List Int} (h : ∀ x ∈ M, 0 ≤ x ∧ x ≤ 15) (t : Bool) : unpM (packL M t) = t := by
  have ok := packL_ok h t
  have e0 : (packL M t).getD 0 0 = packH M t := rfl
  rw [unpM, e0]
  have hh := packH_at h t
  generalize M.getD 0 0 = x at hh
  rcases hh with ⟨_, a, b, e⟩ | ⟨_, e⟩ <;> rw [e] <;> cases t <;> simp [ok] <;> omega
theorem unp_packX {M : List Int} (h : ∀ x ∈ M, 0 ≤ x ∧ x ≤ 15) (t : Bool) : unpX (packL M t) = M := by
  have e0 : (packL M t).getD 0 0 = packH M t := rfl
  have e1 : (packL M t).drop 1 = joinL (packR M) := rfl
  rw [unpX, if_pos (packL_ok h t), unpR, e0, e1, ofL_join (packR_row h) (packR_even M)]
  rcases packH_at h t with ⟨o, a, b, e⟩ | ⟨o, e⟩
  · have e3 : ((if t = true then 48 else 16) + M.getD 0 0) / 16 % 2 = 1 := by
      generalize M.getD 0 0 = x at a b
      cases t <;> simp <;> omega
    have e2 : ((if t = true then 48 else 16) + M.getD 0 0) % 16 = M.getD 0 0 := by
      generalize M.getD 0 0 = x at a b
      cases t <;> simp <;> omega
    rw [e, if_pos e3, packR, o, e2]
    cases M with
    | nil => simp at o
    | cons x M => rfl
  · rw [e, if_neg (by cases t <;> simp), packR, o]
    rfl
theorem unpX_row {D : List Int} (h : Bys D) : ∀ x ∈ unpX D, 0 ≤ x ∧ x ≤ 15 := fun x hx => by
  rw [unpX] at hx
  split at hx
  · rcases List.mem_append.1 hx with hx | hx
    · rw [unpR] at hx
      split at hx
      · simp at hx; omega
      · simp at hx
    · exact ofL_row (h.drop 1) x hx
  · simp at hx
theorem pack_unp {D : List Int} (h : Bys D) (ok : okU D) : packL (unpX D) (unpM D) = D := by
  cases D with
  | nil => exact absurd rfl ok.1
  | cons d Y =>
    have ok2 := ok.2
    have e0 : (d :: Y).getD 0 0 = d := rfl
    have hY : Bys Y := fun x hx => h x (by simp [hx])
    have hd := h d (by simp)
    rw [e0] at ok2
    have eM : unpM (d :: Y) = decide (32 ≤ d) := by
      rw [unpM, e0]
      simp [ok]
    rw [eM, unpX, if_pos ok, unpR, e0]
    have e1 : (d :: Y).drop 1 = Y := rfl
    rw [e1]
    by_cases ho : d / 16 % 2 = 1
    · rw [if_pos ho, packL, packR, packH]
      have el : ([d % 16] ++ ofL Y).length % 2 = 1 := by rw [List.length_append, ofL_len]; simp
      rw [if_pos el, el]
      have e2 : ([d % 16] ++ ofL Y).drop 1 = ofL Y := rfl
      have e3 : ([d % 16] ++ ofL Y).getD 0 0 = d % 16 := rfl
      rw [e2, e3, joinL_of hY]
      congr 1
      by_cases h32 : 32 ≤ d <;> simp [h32] <;> omega
    · rw [if_neg ho, packL, packR, packH]
      have el : ¬ (([] : List Int) ++ ofL Y).length % 2 = 1 := by rw [List.nil_append]; exact ofL_even Y
      have el2 : (([] : List Int) ++ ofL Y).length % 2 = 0 := by omega
      rw [if_neg el, el2, List.drop_zero, List.nil_append, joinL_of hY]
      congr 1
      by_cases h32 : 32 ≤ d <;> simp [h32] <;> omega
theorem packX_mod (L : List Int) (t : Bool) : packX (modL L) t = packL (modL L) t := by rw [packX, if_pos (modL_rowB L)]
theorem packE_mod (L : List Int) : packE (modL L) = 0 := by rw [packE, if_pos (modL_rowB L)]
theorem unpE_ok {D : List Int} (h : okU D) : unpE D = 0 := by rw [unpE, if_pos h]

end Go.Proofs.Ytkmdhencmppemaa
