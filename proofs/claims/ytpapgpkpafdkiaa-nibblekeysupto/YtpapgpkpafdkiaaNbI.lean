import Derived.Test.YtpapgpkpafdkiaaNbH
/- Layer 11: NibbleBack, NibbleOne. -/
namespace Go.Proofs.Ytpapgpkpafdkiaa
open Go.RowKit Go.Sort

theorem OwnB.bz {B a g c n : Nat} {W : World} {X : List Int} (h : OwnB B W (.slice (some ⟨g, a, none⟩) n c) X) (hn : X.length = n) : Bz W g a X := by
  obtain ⟨a', g', c', e, _, haz, hbz, _⟩ := h.lies
  injection e with e1 e2 e3
  rcases haz with rfl | e4
  · exact fun i hi => absurd hi (Nat.not_lt_zero _)
  · rw [e4] at e1
    injection e1 with e5
    injection e5 with e6 e7
    subst e6 e7
    exact hbz
theorem OwnB.at {B n c : Nat} {a : Option Addr} {W : World} {X : List Int} (h : OwnB B W (.slice a n c) X) : ∃ g, Az a g 0 X ∧ Bz W g 0 X := by
  obtain ⟨a', g', c', e, _, haz, hbz, _⟩ := h.lies
  injection e with e1 e2 e3
  subst e1
  exact ⟨g', haz, hbz⟩
theorem ofL_even (K : List Int) : ¬ (ofL K).length % 2 = 1 := by rw [ofL_len]; omega
theorem ofL_bys {K : List Int} (h : Bys K) : Bys (ofL K) := fun x hx => by have := ofL_row h x hx; omega
theorem ofL_rowB {K : List Int} (h : Bys K) : rowB (ofL K) = true := (rowB_iff (ofL_bys h)).2 (ofL_row h)
theorem key_ofE {K : List Int} (h : Bys K) : keyE (ofL K) = 0 := by rw [keyE, if_neg (by simp [ofL_even, ofL_rowB h])]
theorem key_ofX {K : List Int} (h : Bys K) : keyX (ofL K) = K := by rw [keyX, if_neg (by simp [ofL_even, ofL_rowB h]), joinL_of h]
theorem packH_at {M : List Int} (h : ∀ x ∈ M, 0 ≤ x ∧ x ≤ 15) (t : Bool) : (M.length % 2 = 1 ∧ 0 ≤ M.getD 0 0 ∧ M.getD 0 0 ≤ 15 ∧ packH M t = (if t then 48 else 16) + M.getD 0 0) ∨ (M.length % 2 = 0 ∧ packH M t = if t then 32 else 0) := by
  by_cases e : M.length % 2 = 1
  · left
    have hx : 0 ≤ M.getD 0 0 ∧ M.getD 0 0 ≤ 15 := by
      rw [List.getD, List.getElem?_eq_getElem (by omega)]
      exact h _ (List.getElem_mem _)
    refine ⟨e, hx.1, hx.2, ?_⟩
    rw [packH, if_pos e]
    cases t <;> simp <;> omega
  · right
    refine ⟨by omega, ?_⟩
    rw [packH, if_neg e, Int.add_zero]
theorem packR_row {M : List Int} (h : ∀ x ∈ M, 0 ≤ x ∧ x ≤ 15) : ∀ x ∈ packR M, 0 ≤ x ∧ x ≤ 15 := fun x hx => h x (List.mem_of_mem_drop hx)
theorem packR_even (M : List Int) : (packR M).length % 2 = 0 := by rw [packR, List.length_drop]; omega
theorem joinL_bys : ∀ {X : List Int}, (∀ x ∈ X, 0 ≤ x ∧ x ≤ 15) → Bys (joinL X)
  | [], _ => fun x hx => by simp [joinL] at hx
  | [_], _ => fun x hx => by simp [joinL] at hx
  | x :: y :: X, h => fun z hz => by
    have h1 := h x (by simp)
    have h2 := h y (by simp)
    rw [joinL] at hz
    rcases List.mem_cons.1 hz with rfl | hz
    · omega
    · exact joinL_bys (fun u hu => h u (by simp [hu])) z hz
theorem packL_bys {M : List Int} (h : ∀ x ∈ M, 0 ≤ x ∧ x ≤ 15) (t : Bool) : Bys (packL M t) := fun x hx => by
  rcases List.mem_cons.1 hx with rfl | hx
  · have hh := packH_at h t
    generalize M.getD 0 0 = x at hh
    rcases hh with ⟨_, a, b, e⟩ | ⟨_, e⟩ <;> rw [e] <;> cases t <;> simp <;> omega
  · exact joinL_bys (packR_row h) x hx
theorem packL_len (M : List Int) (t : Bool) : (packL M t).length = M.length / 2 + 1 := by
  rw [packL, List.length_cons, joinL_len, packR, List.length_drop]; omega
theorem packL_ok {M : List Int} (h : ∀ x ∈ M, 0 ≤ x ∧ x ≤ 15) (t : Bool) : okU (packL M t) := by
  refine ⟨by simp [packL], ?_⟩
  show packH M t = 0 ∨ packH M t = 32 ∨ (16 ≤ packH M t ∧ packH M t < 32) ∨ (48 ≤ packH M t ∧ packH M t < 64)
  have hh := packH_at h t
  generalize M.getD 0 0 = x at hh
  rcases hh with ⟨_, a, b, e⟩ | ⟨_, e⟩ <;> rw [e] <;> cases t <;> simp <;> omega
theorem unp_packM {M : List Int} (h : ∀ x ∈ M, 0 ≤ x ∧ x ≤ 15) (t : Bool) : unpM (packL M t) = t := by
  have ok := packL_ok h t
  have e0 : (packL M t).getD 0 0 = packH M t := rfl
  rw [unpM, e0]
  have hh := packH_at h t
  generalize M.getD 0 0 = x at hh
  rcases hh with ⟨_, a, b, e⟩ | ⟨_, e⟩ <;> rw [e] <;> cases t <;> simp [ok] <;> omega
theorem unp_packX {M : List Int} (h : ∀ x ∈ M, 0 ≤ x ∧ x ≤ 15) (t : Bool) : unpX (packL M t) = M := by
  have e0 : (packL M t).getD 0 0 = packH M t := rfl
  have e1 : (packL M t).drop 1 = joinL (packR M) := rfl
  rw [unpX, if_pos (packL_ok h t), unpR, e0, e1, ofL_join (packR_row h) (packR_even M)]
  rcases packH_at h t with ⟨o, a, b, e⟩ | ⟨o, e⟩
  · have e3 : ((if t = true then 48 else 16) + M.getD 0 0) / 16 % 2 = 1 := by
      generalize M.getD 0 0 = x at a b
      cases t <;> simp <;> omega
    have e2 : ((if t = true then 48 else 16) + M.getD 0 0) % 16 = M.getD 0 0 := by
      generalize M.getD 0 0 = x at a b
      cases t <;> simp <;> omega
    rw [e, if_pos e3, packR, o, e2]
    cases M with
    | nil => simp at o
    | cons x M => rfl
  · rw [e, if_neg (by cases t <;> simp), packR, o]
    rfl
theorem unpX_row {D : List Int} (h : Bys D) : ∀ x ∈ unpX D, 0 ≤ x ∧ x ≤ 15 := fun x hx => by
  rw [unpX] at hx
  split at hx
  · rcases List.mem_append.1 hx with hx | hx
    · rw [unpR] at hx
      split at hx
      · simp at hx; omega
      · simp at hx
    · exact ofL_row (h.drop 1) x hx
  · simp at hx
theorem pack_unp {D : List Int} (h : Bys D) (ok : okU D) : packL (unpX D) (unpM D) = D := by
  cases D with
  | nil => exact absurd rfl ok.1
  | cons d Y =>
    have ok2 := ok.2
    have e0 : (d :: Y).getD 0 0 = d := rfl
    have hY : Bys Y := fun x hx => h x (by simp [hx])
    have hd := h d (by simp)
    rw [e0] at ok2
    have eM : unpM (d :: Y) = decide (32 ≤ d) := by
      rw [unpM, e0]
      simp [ok]
    rw [eM, unpX, if_pos ok, unpR, e0]
    have e1 : (d :: Y).drop 1 = Y := rfl
    rw [e1]
    by_cases ho : d / 16 % 2 = 1
    · rw [if_pos ho, packL, packR, packH]
      have el : ([d % 16] ++ ofL Y).length % 2 = 1 := by rw [List.length_append, ofL_len]; simp
      rw [if_pos el, el]
      have e2 : ([d % 16] ++ ofL Y).drop 1 = ofL Y := rfl
      have e3 : ([d % 16] ++ ofL Y).getD 0 0 = d % 16 := rfl
      rw [e2, e3, joinL_of hY]
      congr 1
      by_cases h32 : 32 ≤ d <;> simp [h32] <;> omega
    · rw [if_neg ho, packL, packR, packH]
      have el : ¬ (([] : List Int) ++ ofL Y).length % 2 = 1 := by rw [List.nil_append]; exact ofL_even Y
      have el2 : (([] : List Int) ++ ofL Y).length % 2 = 0 := by omega
      rw [if_neg el, el2, List.drop_zero, List.nil_append, joinL_of hY]
      congr 1
      by_cases h32 : 32 ≤ d <;> simp [h32] <;> omega
theorem packX_mod (L : List Int) (t : Bool) : packX (modL L) t = packL (modL L) t := by rw [packX, if_pos (modL_rowB L)]
theorem packE_mod (L : List Int) : packE (modL L) = 0 := by rw [packE, if_pos (modL_rowB L)]
theorem unpE_ok {D : List Int} (h : okU D) : unpE D = 0 := by rw [unpE, if_pos h]

set_option maxRecDepth 100000 in
set_option maxHeartbeats 8000000 in
theorem back_any {a0 a1 : Option Addr} {b0 o0 c0 b1 o1 c1 : Nat} {K L : List Int} {t : Bool} (w0 : K.length ≤ 140737488351232) (w1 : L.length ≤ 140737488351232) (B0 : Bys K) (B1 : Bys L) (z0 : Az a0 b0 o0 K) (z1 : Az a1 b1 o1 L) (w : World) (y0 : Bz w b0 o0 K) (y1 : Bz w b1 o1 L) :
    Calls Try.prog 5 #[.slice a0 K.length c0, .slice a1 L.length c1, .bool t] w fun e w' => e = .returned (.bool true) ∧ Below w.heap.size w w' := by
  have HA : Hid (K.length ≤ 140737488351232 ∧ L.length ≤ 140737488351232 ∧ Bys K ∧ Bys L ∧ Az a0 b0 o0 K ∧ Az a1 b1 o1 L) := ⟨w0, w1, B0, B1, z0, z1⟩
  have KL : Hid (∀ W, Below w.heap.size w W → Bz W b0 o0 K ∧ Bz W b1 o1 L) := fun W B => ⟨y0.keep B, y1.keep B⟩
  have hn0 := num_any 0
  have hn1 := num_any 110
  have BB : Below w.heap.size w w := Below.refl _ _
  clear w0 w1 B0 B1 z0 z1 y0 y1
  go_enter Try.func5, Try.ntmps5
  have hc := lent_any (cd := c0) (by have := HA.out.1; omega) HA.out.2.2.2.2.1 w (KL.out w BB).1
  go_wp2_with (first | ((with_reducible refine (hn0 _).mono ?_); rintro e9 w9 ⟨rfl, hw9⟩; (rw [hw9]); (clear hw9 w9)) | ((with_reducible refine (hn1 _).mono ?_); rintro e9 w9 ⟨rfl, hw9⟩; (rw [hw9]); (clear hw9 w9)))
  with_reducible refine hc.mono ?_
  rintro e w1 ⟨rfl, r1, BN⟩
  clear hc
  replace BB := BB.trans (BN.mono BB.size)
  clear BN
  have hc := of_any (c := K.length + 70) HA.out.2.2.1 (by have := HA.out.1; omega) (.inr rfl) w1 (lentL_bz r1)
  go_wp2_with (first | ((with_reducible refine (hn0 _).mono ?_); rintro e9 w9 ⟨rfl, hw9⟩; (rw [hw9]); (clear hw9 w9)) | ((with_reducible refine (hn1 _).mono ?_); rintro e9 w9 ⟨rfl, hw9⟩; (rw [hw9]); (clear hw9 w9)))
  with_reducible refine hc.mono ?_
  rintro e w2 ⟨v2, rfl, o2, BN⟩
  clear hc
  clear r1
  replace BB := BB.trans (BN.mono BB.size)
  clear BN
  obtain ⟨a2, g2, c2, rfl, q2, z2, _, _, _, _⟩ := o2.lies
  obtain ⟨g2', z2', y2'⟩ := o2.at
  have hc := key_any (c := c2) (ofL_bys HA.out.2.2.1) (by rw [ofL_len]; have := HA.out.1; omega) z2' w2 y2'
  rw [key_ofE HA.out.2.2.1, key_ofX HA.out.2.2.1] at hc
  go_wp2_with (first | ((with_reducible refine (hn0 _).mono ?_); rintro e9 w9 ⟨rfl, hw9⟩; (rw [hw9]); (clear hw9 w9)) | ((with_reducible refine (hn1 _).mono ?_); rintro e9 w9 ⟨rfl, hw9⟩; (rw [hw9]); (clear hw9 w9)))
  with_reducible refine hc.mono ?_
  rintro e w3 ⟨v3, rfl, o3, BN⟩
  clear hc
  clear o2
  replace BB := BB.trans (BN.mono BB.size)
  clear BN
  clear y2' z2' z2 q2
  have hc := lrow_any (c := c1) HA.out.2.2.2.1 (by have := HA.out.2.1; omega) HA.out.2.2.2.2.2 w3 (KL.out w3 BB).2
  go_wp2_with (first | ((with_reducible refine (hn0 _).mono ?_); rintro e9 w9 ⟨rfl, hw9⟩; (rw [hw9]); (clear hw9 w9)) | ((with_reducible refine (hn1 _).mono ?_); rintro e9 w9 ⟨rfl, hw9⟩; (rw [hw9]); (clear hw9 w9)))
  with_reducible refine hc.mono ?_
  rintro e w4 ⟨v4, rfl, o4, BN⟩
  clear hc
  replace o3 := o3.keep BN
  replace BB := BB.trans (BN.mono BB.size)
  clear BN
  have hM : Hid ((∀ x ∈ modL L, 0 ≤ x ∧ x ≤ 15) ∧ Bys (modL L) ∧ (modL L).length ≤ 140737488351232) := ⟨modL_row L, modL_bys L, by rw [modL_len]; exact HA.out.2.1⟩
  have hP : Hid (packX (modL L) t = packL (modL L) t ∧ packE (modL L) = 0) := ⟨packX_mod L t, packE_mod L⟩
  generalize modL L = M at *
  obtain ⟨a4, g4, c4, rfl, q4, z4, _, _, _, _⟩ := o4.lies
  obtain ⟨g4', z4', y4'⟩ := o4.at
  have hc := lent_any (cd := c4) (by have := hM.out.2.2; omega) z4' w4 y4'
  go_wp2_with (first | ((with_reducible refine (hn0 _).mono ?_); rintro e9 w9 ⟨rfl, hw9⟩; (rw [hw9]); (clear hw9 w9)) | ((with_reducible refine (hn1 _).mono ?_); rintro e9 w9 ⟨rfl, hw9⟩; (rw [hw9]); (clear hw9 w9)))
  with_reducible refine hc.mono ?_
  rintro e w5 ⟨rfl, r5, BN⟩
  clear hc
  replace o3 := o3.keep BN
  replace o4 := o4.keep BN
  replace BB := BB.trans (BN.mono BB.size)
  clear BN
  clear y4'
  have hc := pack_any (t := t) (c := M.length + 70) hM.out.2.1 (by have := hM.out.2.2; omega) (by omega) (.inr rfl) w5 (lentL_bz r5)
  rw [hP.out.1, hP.out.2] at hc
  go_wp2_with (first | ((with_reducible refine (hn0 _).mono ?_); rintro e9 w9 ⟨rfl, hw9⟩; (rw [hw9]); (clear hw9 w9)) | ((with_reducible refine (hn1 _).mono ?_); rintro e9 w9 ⟨rfl, hw9⟩; (rw [hw9]); (clear hw9 w9)))
  with_reducible refine hc.mono ?_
  rintro e w6 ⟨v6, rfl, o6, BN⟩
  clear hc
  clear r5
  replace o3 := o3.keep BN
  replace o4 := o4.keep BN
  replace BB := BB.trans (BN.mono BB.size)
  clear BN
  have hQ : Hid (Bys (packL M t) ∧ (packL M t).length = M.length / 2 + 1 ∧ unpM (packL M t) = t ∧ unpX (packL M t) = M ∧ unpE (packL M t) = 0) := ⟨packL_bys hM.out.1 t, packL_len M t, unp_packM hM.out.1 t, unp_packX hM.out.1 t, unpE_ok (packL_ok hM.out.1 t)⟩
  generalize packL M t = P at *
  obtain ⟨a6, g6, c6, rfl, q6, z6, _, _, _, _⟩ := o6.lies
  obtain ⟨g6', z6', y6'⟩ := o6.at
  have hc := unp_any (c := c6) hQ.out.1 (by have := hM.out.2.2; have := hQ.out.2.1; omega) q6 z6' w6 y6'
  rw [hQ.out.2.2.1, hQ.out.2.2.2.1, hQ.out.2.2.2.2] at hc
  go_wp2_with (first | ((with_reducible refine (hn0 _).mono ?_); rintro e9 w9 ⟨rfl, hw9⟩; (rw [hw9]); (clear hw9 w9)) | ((with_reducible refine (hn1 _).mono ?_); rintro e9 w9 ⟨rfl, hw9⟩; (rw [hw9]); (clear hw9 w9)))
  with_reducible refine hc.mono ?_
  rintro e w7 ⟨v7, rfl, o7, BN⟩
  clear hc
  replace o3 := o3.keep BN
  replace o4 := o4.keep BN
  replace o6 := o6.keep BN
  replace BB := BB.trans (BN.mono BB.size)
  clear BN
  clear y6'
  obtain ⟨a3, g3, c3, rfl, q3, z3, _, _, _, _⟩ := o3.lies
  obtain ⟨g3', z3', y3'⟩ := o3.at
  have hc := same_any (c := c3) (c' := c0) (by have := HA.out.1; omega) z3' HA.out.2.2.2.2.1 w7 y3' (KL.out w7 BB).1
  rw [decide_eq_true rfl] at hc
  go_wp2_with (first | ((with_reducible refine (hn0 _).mono ?_); rintro e9 w9 ⟨rfl, hw9⟩; (rw [hw9]); (clear hw9 w9)) | ((with_reducible refine (hn1 _).mono ?_); rintro e9 w9 ⟨rfl, hw9⟩; (rw [hw9]); (clear hw9 w9)))
  with_reducible refine hc.mono ?_
  rintro e w8 ⟨rfl, BN⟩
  clear hc
  clear o3
  replace o4 := o4.keep BN
  replace o6 := o6.keep BN
  replace o7 := o7.keep BN
  replace BB := BB.trans (BN.mono BB.size)
  clear BN
  clear y3' z3' z3 q3
  obtain ⟨a7, g7, c7, rfl, q7, z7, _, _, _, _⟩ := o7.lies
  obtain ⟨g7', z7', y7'⟩ := o7.at
  obtain ⟨g4x, z4x, y4x⟩ := o4.at
  have hc := same_any (c := c7) (c' := c4) (by have := hM.out.2.2; omega) z7' z4x w8 y7' y4x
  rw [decide_eq_true rfl] at hc
  go_wp2_with (first | ((with_reducible refine (hn0 _).mono ?_); rintro e9 w9 ⟨rfl, hw9⟩; (rw [hw9]); (clear hw9 w9)) | ((with_reducible refine (hn1 _).mono ?_); rintro e9 w9 ⟨rfl, hw9⟩; (rw [hw9]); (clear hw9 w9)))
  with_reducible refine hc.mono ?_
  rintro e w9 ⟨rfl, BN⟩
  clear hc
  clear o7
  replace o4 := o4.keep BN
  replace o6 := o6.keep BN
  replace BB := BB.trans (BN.mono BB.size)
  clear BN
  clear y7' z7' z7 q7 y4x z4x
  have hW : wrap64 (wrap64 ((M.length : Int) / 2) + 1) = (P.length : Int) := by
    have := hM.out.2.2
    rw [hQ.out.2.1, wrap64_small (n := (M.length : Int) / 2) (by omega) (by omega), wrap64_small (by omega) (by omega)]
    omega
  clear q4 q6 z4 z6 z6' o6
  by_cases hp : M.length % 2 = 1
  · have kk : Hid (keyE M = 110 ∧ keyX M = []) := ⟨by rw [keyE, if_pos (.inl hp)], by rw [keyX, if_pos (.inl hp)]⟩
    have hp' : (M.length : Int) % 2 = 1 := by omega
    obtain ⟨g4y, z4y, y4y⟩ := o4.at
    clear hp
    have hc := lent_any (cd := c4) (by have := hM.out.2.2; omega) z4y w9 y4y
    go_wp2_with (first | ((with_reducible refine (hn0 _).mono ?_); rintro e9 w9 ⟨rfl, hw9⟩; (rw [hw9]); (clear hw9 w9)) | ((with_reducible refine (hn1 _).mono ?_); rintro e9 w9 ⟨rfl, hw9⟩; (rw [hw9]); (clear hw9 w9)))
    with_reducible refine hc.mono ?_
    rintro e w10 ⟨rfl, r10, BN⟩
    clear hc
    replace o4 := o4.keep BN
    replace BB := BB.trans (BN.mono BB.size)
    clear BN
    clear y4y z4y
    have hc := key_any (c := M.length + 70) hM.out.2.1 (by have := hM.out.2.2; omega) (.inr rfl) w10 (lentL_bz r10)
    rw [kk.out.1, kk.out.2] at hc
    go_wp2_with (first | ((with_reducible refine (hn0 _).mono ?_); rintro e9 w9 ⟨rfl, hw9⟩; (rw [hw9]); (clear hw9 w9)) | ((with_reducible refine (hn1 _).mono ?_); rintro e9 w9 ⟨rfl, hw9⟩; (rw [hw9]); (clear hw9 w9)))
    with_reducible refine hc.mono ?_
    rintro e w11 ⟨v11, rfl, o11, BN⟩
    clear hc
    clear r10
    replace o4 := o4.keep BN
    replace BB := BB.trans (BN.mono BB.size)
    clear BN
    obtain ⟨a11, g11, c11, rfl, q11, z11, _, _, _, _⟩ := o11.lies
    clear q11 z11
    clear o11 o4 hW
    go_wp2_with (first | ((with_reducible refine (hn0 _).mono ?_); rintro e9 w9 ⟨rfl, hw9⟩; (rw [hw9]); (clear hw9 w9)) | ((with_reducible refine (hn1 _).mono ?_); rintro e9 w9 ⟨rfl, hw9⟩; (rw [hw9]); (clear hw9 w9)))
    simp [bodyPost, results, Try.results5, go_sem]
    exact BB
  · have kk : Hid (keyE M = 0 ∧ keyX M = joinL M ∧ ofL (joinL M) = M ∧ Bys (joinL M) ∧ (joinL M).length ≤ 140737488351232) := by
      have rr : rowB M = true := (rowB_iff hM.out.2.1).2 hM.out.1
      refine ⟨by rw [keyE, if_neg (by simp [hp, rr])], by rw [keyX, if_neg (by simp [hp, rr])], ofL_join hM.out.1 (by omega), joinL_bys hM.out.1, ?_⟩
      rw [joinL_len]; have := hM.out.2.2; omega
    have hp' : (M.length : Int) % 2 = 0 := by omega
    obtain ⟨g4y, z4y, y4y⟩ := o4.at
    clear hp
    have hc := lent_any (cd := c4) (by have := hM.out.2.2; omega) z4y w9 y4y
    go_wp2_with (first | ((with_reducible refine (hn0 _).mono ?_); rintro e9 w9 ⟨rfl, hw9⟩; (rw [hw9]); (clear hw9 w9)) | ((with_reducible refine (hn1 _).mono ?_); rintro e9 w9 ⟨rfl, hw9⟩; (rw [hw9]); (clear hw9 w9)))
    with_reducible refine hc.mono ?_
    rintro e w10 ⟨rfl, r10, BN⟩
    clear hc
    replace o4 := o4.keep BN
    replace BB := BB.trans (BN.mono BB.size)
    clear BN
    clear y4y z4y
    have hc := key_any (c := M.length + 70) hM.out.2.1 (by have := hM.out.2.2; omega) (.inr rfl) w10 (lentL_bz r10)
    rw [kk.out.1, kk.out.2.1] at hc
    go_wp2_with (first | ((with_reducible refine (hn0 _).mono ?_); rintro e9 w9 ⟨rfl, hw9⟩; (rw [hw9]); (clear hw9 w9)) | ((with_reducible refine (hn1 _).mono ?_); rintro e9 w9 ⟨rfl, hw9⟩; (rw [hw9]); (clear hw9 w9)))
    with_reducible refine hc.mono ?_
    rintro e w11 ⟨v11, rfl, o11, BN⟩
    clear hc
    clear r10
    replace o4 := o4.keep BN
    replace BB := BB.trans (BN.mono BB.size)
    clear BN
    obtain ⟨a11, g11, c11, rfl, q11, z11, _, _, _, _⟩ := o11.lies
    clear q11 z11
    obtain ⟨g11', z11', y11'⟩ := o11.at
    clear hW
    have hc := of_any (c := c11) kk.out.2.2.2.1 (by have := kk.out.2.2.2.2; omega) z11' w11 y11'
    rw [kk.out.2.2.1] at hc
    go_wp2_with (first | ((with_reducible refine (hn0 _).mono ?_); rintro e9 w9 ⟨rfl, hw9⟩; (rw [hw9]); (clear hw9 w9)) | ((with_reducible refine (hn1 _).mono ?_); rintro e9 w9 ⟨rfl, hw9⟩; (rw [hw9]); (clear hw9 w9)))
    with_reducible refine hc.mono ?_
    rintro e w12 ⟨v12, rfl, o12, BN⟩
    clear hc
    clear o11
    replace o4 := o4.keep BN
    replace BB := BB.trans (BN.mono BB.size)
    clear BN
    clear y11' z11'
    obtain ⟨a12, g12, c12, rfl, q12, z12, _, _, _, _⟩ := o12.lies
    clear q12 z12
    obtain ⟨g12', z12', y12'⟩ := o12.at
    obtain ⟨g4z, z4z, y4z⟩ := o4.at
    have hc := same_any (c := c12) (c' := c4) (by have := hM.out.2.2; omega) z12' z4z w12 y12' y4z
    rw [decide_eq_true rfl] at hc
    go_wp2_with (first | ((with_reducible refine (hn0 _).mono ?_); rintro e9 w9 ⟨rfl, hw9⟩; (rw [hw9]); (clear hw9 w9)) | ((with_reducible refine (hn1 _).mono ?_); rintro e9 w9 ⟨rfl, hw9⟩; (rw [hw9]); (clear hw9 w9)))
    with_reducible refine hc.mono ?_
    rintro e w13 ⟨rfl, BN⟩
    clear hc
    clear o12
    clear o4
    replace BB := BB.trans (BN.mono BB.size)
    clear BN
    clear y12' z12' y4z z4z
    go_wp2_with (first | ((with_reducible refine (hn0 _).mono ?_); rintro e9 w9 ⟨rfl, hw9⟩; (rw [hw9]); (clear hw9 w9)) | ((with_reducible refine (hn1 _).mono ?_); rintro e9 w9 ⟨rfl, hw9⟩; (rw [hw9]); (clear hw9 w9)))
    simp [bodyPost, results, Try.results5, go_sem]
    exact BB

set_option maxRecDepth 100000 in
set_option maxHeartbeats 8000000 in
theorem one_any {a0 a1 : Option Addr} {b0 o0 c0 b1 o1 c1 : Nat} {D L : List Int} {t : Bool} (w0 : D.length ≤ 140737488351232) (w1 : L.length ≤ 140737488351232) (B0 : Bys D) (B1 : Bys L) (z0 : Az a0 b0 o0 D) (z1 : Az a1 b1 o1 L) (w : World) (y0 : Bz w b0 o0 D) (y1 : Bz w b1 o1 L) :
    Calls Try.prog 6 #[.slice a0 D.length c0, .slice a1 L.length c1, .bool t] w fun e w' => e = .returned (.bool true) ∧ Below w.heap.size w w' := by
  have HA : Hid (D.length ≤ 140737488351232 ∧ L.length ≤ 140737488351232 ∧ Bys D ∧ Bys L ∧ Az a0 b0 o0 D ∧ Az a1 b1 o1 L) := ⟨w0, w1, B0, B1, z0, z1⟩
  have KL : Hid (∀ W, Below w.heap.size w W → Bz W b0 o0 D ∧ Bz W b1 o1 L) := fun W B => ⟨y0.keep B, y1.keep B⟩
  have hn0 := num_any 0
  have hn1 := num_any 110
  have BB : Below w.heap.size w w := Below.refl _ _
  clear w0 w1 B0 B1 z0 z1 y0 y1
  by_cases ok : okU D
  · have kk : Hid (unpE D = 0 ∧ (∀ x ∈ unpX D, 0 ≤ x ∧ x ≤ 15) ∧ packX (unpX D) (unpM D) = D ∧ packE (unpX D) = 0 ∧ Bys (unpX D) ∧ (unpX D).length < 281474976710600) := by
      have rw0 := unpX_row HA.out.2.2.1
      have bx : Bys (unpX D) := fun x hx => by have := rw0 x hx; omega
      have rr : rowB (unpX D) = true := (rowB_iff bx).2 rw0
      refine ⟨unpE_ok ok, rw0, by rw [packX, if_pos rr]; exact pack_unp HA.out.2.2.1 ok, by rw [packE, if_pos rr], bx, ?_⟩
      rw [unpX, if_pos ok, List.length_append, ofL_len, List.length_drop, unpR]
      have := HA.out.1
      split <;> simp <;> omega
    clear ok
    go_enter Try.func6, Try.ntmps6
    have hc := lent_any (cd := c0) (by have := HA.out.1; omega) HA.out.2.2.2.2.1 w (KL.out w BB).1
    go_wp2_with (first | ((with_reducible refine (hn0 _).mono ?_); rintro e9 w9 ⟨rfl, hw9⟩; (rw [hw9]); (clear hw9 w9)) | ((with_reducible refine (hn1 _).mono ?_); rintro e9 w9 ⟨rfl, hw9⟩; (rw [hw9]); (clear hw9 w9)))
    with_reducible refine hc.mono ?_
    rintro e w1 ⟨rfl, r1, BN⟩
    clear hc
    replace BB := BB.trans (BN.mono BB.size)
    clear BN
    have hc := unp_any (c := D.length + 70) HA.out.2.2.1 (by have := HA.out.1; omega) (by omega) (.inr rfl) w1 (lentL_bz r1)
    rw [kk.out.1] at hc
    go_wp2_with (first | ((with_reducible refine (hn0 _).mono ?_); rintro e9 w9 ⟨rfl, hw9⟩; (rw [hw9]); (clear hw9 w9)) | ((with_reducible refine (hn1 _).mono ?_); rintro e9 w9 ⟨rfl, hw9⟩; (rw [hw9]); (clear hw9 w9)))
    with_reducible refine hc.mono ?_
    rintro e w2 ⟨v2, rfl, o2, BN⟩
    clear hc
    clear r1
    replace BB := BB.trans (BN.mono BB.size)
    clear BN
    obtain ⟨a2, g2, c2, rfl, q2, z2, _, _, _, _⟩ := o2.lies
    clear z2
    have EX : Hid _ := kk.out
    generalize unpX D = U at *
    generalize unpM D = tu at *
    have hc := lrow_any (c := c1) HA.out.2.2.2.1 (by have := HA.out.2.1; omega) HA.out.2.2.2.2.2 w2 (KL.out w2 BB).2
    go_wp2_with (first | ((with_reducible refine (hn0 _).mono ?_); rintro e9 w9 ⟨rfl, hw9⟩; (rw [hw9]); (clear hw9 w9)) | ((with_reducible refine (hn1 _).mono ?_); rintro e9 w9 ⟨rfl, hw9⟩; (rw [hw9]); (clear hw9 w9)))
    with_reducible refine hc.mono ?_
    rintro e w3 ⟨v4, rfl, o4, BN⟩
    clear hc
    replace o2 := o2.keep BN
    replace BB := BB.trans (BN.mono BB.size)
    clear BN
    have hM : Hid ((∀ x ∈ modL L, 0 ≤ x ∧ x ≤ 15) ∧ Bys (modL L) ∧ (modL L).length ≤ 140737488351232) := ⟨modL_row L, modL_bys L, by rw [modL_len]; exact HA.out.2.1⟩
    have hP : Hid (packX (modL L) t = packL (modL L) t ∧ packE (modL L) = 0) := ⟨packX_mod L t, packE_mod L⟩
    generalize modL L = M at *
    obtain ⟨a4, g4, c4, rfl, q4, z4, _, _, _, _⟩ := o4.lies
    clear z4
    obtain ⟨g4', z4', y4'⟩ := o4.at
    have hc := pack_any (t := t) (c := c4) hM.out.2.1 (by have := hM.out.2.2; omega) q4 z4' w3 y4'
    rw [hP.out.1, hP.out.2] at hc
    go_wp2_with (first | ((with_reducible refine (hn0 _).mono ?_); rintro e9 w9 ⟨rfl, hw9⟩; (rw [hw9]); (clear hw9 w9)) | ((with_reducible refine (hn1 _).mono ?_); rintro e9 w9 ⟨rfl, hw9⟩; (rw [hw9]); (clear hw9 w9)))
    with_reducible refine hc.mono ?_
    rintro e w4 ⟨v6, rfl, o6, BN⟩
    clear hc
    clear o4
    replace o2 := o2.keep BN
    replace BB := BB.trans (BN.mono BB.size)
    clear BN
    clear y4' z4' q4
    have hQ : Hid (Bys (packL M t) ∧ (packL M t).length = M.length / 2 + 1 ∧ okU (packL M t)) := ⟨packL_bys hM.out.1 t, packL_len M t, packL_ok hM.out.1 t⟩
    generalize packL M t = P at *
    obtain ⟨a6, g6, c6, rfl, q6, z6, _, _, _, _⟩ := o6.lies
    clear z6 q6
    have hP0 : ((P.length : Int) == 0) = false := beq_eq_false_iff_ne.2 (by have := hQ.out.2.1; omega)
    clear o6
    obtain ⟨g2', z2', y2'⟩ := o2.at
    have hc := pack_any (t := tu) (c := c2) kk.out.2.2.2.2.1 kk.out.2.2.2.2.2 q2 z2' w4 y2'
    rw [kk.out.2.2.1, kk.out.2.2.2.1] at hc
    go_wp2_with (first | ((with_reducible refine (hn0 _).mono ?_); rintro e9 w9 ⟨rfl, hw9⟩; (rw [hw9]); (clear hw9 w9)) | ((with_reducible refine (hn1 _).mono ?_); rintro e9 w9 ⟨rfl, hw9⟩; (rw [hw9]); (clear hw9 w9)))
    with_reducible refine hc.mono ?_
    rintro e w5 ⟨v7, rfl, o7, BN⟩
    clear hc
    clear o2
    replace BB := BB.trans (BN.mono BB.size)
    clear BN
    clear y2' z2' q2
    obtain ⟨a7, g7, c7, rfl, q7, z7, _, _, _, _⟩ := o7.lies
    clear z7 q7
    obtain ⟨g7', z7', y7'⟩ := o7.at
    have hc := same_any (c := c7) (c' := c0) (by have := HA.out.1; omega) z7' HA.out.2.2.2.2.1 w5 y7' (KL.out w5 BB).1
    rw [decide_eq_true rfl] at hc
    go_wp2_with (first | ((with_reducible refine (hn0 _).mono ?_); rintro e9 w9 ⟨rfl, hw9⟩; (rw [hw9]); (clear hw9 w9)) | ((with_reducible refine (hn1 _).mono ?_); rintro e9 w9 ⟨rfl, hw9⟩; (rw [hw9]); (clear hw9 w9)))
    with_reducible refine hc.mono ?_
    rintro e w6 ⟨rfl, BN⟩
    clear hc
    clear o7
    replace BB := BB.trans (BN.mono BB.size)
    clear BN
    clear y7' z7'
    go_wp2_with (first | ((with_reducible refine (hn0 _).mono ?_); rintro e9 w9 ⟨rfl, hw9⟩; (rw [hw9]); (clear hw9 w9)) | ((with_reducible refine (hn1 _).mono ?_); rintro e9 w9 ⟨rfl, hw9⟩; (rw [hw9]); (clear hw9 w9)))
    simp [bodyPost, results, Try.results6, go_sem]
    exact BB
  · have kk : Hid (unpE D = 110 ∧ unpX D = [] ∧ unpM D = false ∧ ¬ okU D) := ⟨by rw [unpE, if_neg ok], by rw [unpX, if_neg ok], by rw [unpM, decide_eq_false (fun h => ok h.1)], ok⟩
    clear ok
    go_enter Try.func6, Try.ntmps6
    have hc := lent_any (cd := c0) (by have := HA.out.1; omega) HA.out.2.2.2.2.1 w (KL.out w BB).1
    go_wp2_with (first | ((with_reducible refine (hn0 _).mono ?_); rintro e9 w9 ⟨rfl, hw9⟩; (rw [hw9]); (clear hw9 w9)) | ((with_reducible refine (hn1 _).mono ?_); rintro e9 w9 ⟨rfl, hw9⟩; (rw [hw9]); (clear hw9 w9)))
    with_reducible refine hc.mono ?_
    rintro e w1 ⟨rfl, r1, BN⟩
    clear hc
    replace BB := BB.trans (BN.mono BB.size)
    clear BN
    have hc := unp_any (c := D.length + 70) HA.out.2.2.1 (by have := HA.out.1; omega) (by omega) (.inr rfl) w1 (lentL_bz r1)
    rw [kk.out.1, kk.out.2.1, kk.out.2.2.1] at hc
    go_wp2_with (first | ((with_reducible refine (hn0 _).mono ?_); rintro e9 w9 ⟨rfl, hw9⟩; (rw [hw9]); (clear hw9 w9)) | ((with_reducible refine (hn1 _).mono ?_); rintro e9 w9 ⟨rfl, hw9⟩; (rw [hw9]); (clear hw9 w9)))
    with_reducible refine hc.mono ?_
    rintro e w2 ⟨v2, rfl, o2, BN⟩
    clear hc
    clear r1
    replace BB := BB.trans (BN.mono BB.size)
    clear BN
    obtain ⟨a2, g2, c2, rfl, q2, z2, _, _, _, _⟩ := o2.lies
    clear z2
    have hc := lrow_any (c := c1) HA.out.2.2.2.1 (by have := HA.out.2.1; omega) HA.out.2.2.2.2.2 w2 (KL.out w2 BB).2
    go_wp2_with (first | ((with_reducible refine (hn0 _).mono ?_); rintro e9 w9 ⟨rfl, hw9⟩; (rw [hw9]); (clear hw9 w9)) | ((with_reducible refine (hn1 _).mono ?_); rintro e9 w9 ⟨rfl, hw9⟩; (rw [hw9]); (clear hw9 w9)))
    with_reducible refine hc.mono ?_
    rintro e w3 ⟨v4, rfl, o4, BN⟩
    clear hc
    replace o2 := o2.keep BN
    replace BB := BB.trans (BN.mono BB.size)
    clear BN
    have hM : Hid ((∀ x ∈ modL L, 0 ≤ x ∧ x ≤ 15) ∧ Bys (modL L) ∧ (modL L).length ≤ 140737488351232) := ⟨modL_row L, modL_bys L, by rw [modL_len]; exact HA.out.2.1⟩
    have hP : Hid (packX (modL L) t = packL (modL L) t ∧ packE (modL L) = 0) := ⟨packX_mod L t, packE_mod L⟩
    generalize modL L = M at *
    obtain ⟨a4, g4, c4, rfl, q4, z4, _, _, _, _⟩ := o4.lies
    clear z4
    obtain ⟨g4', z4', y4'⟩ := o4.at
    have hc := pack_any (t := t) (c := c4) hM.out.2.1 (by have := hM.out.2.2; omega) q4 z4' w3 y4'
    rw [hP.out.1, hP.out.2] at hc
    go_wp2_with (first | ((with_reducible refine (hn0 _).mono ?_); rintro e9 w9 ⟨rfl, hw9⟩; (rw [hw9]); (clear hw9 w9)) | ((with_reducible refine (hn1 _).mono ?_); rintro e9 w9 ⟨rfl, hw9⟩; (rw [hw9]); (clear hw9 w9)))
    with_reducible refine hc.mono ?_
    rintro e w4 ⟨v6, rfl, o6, BN⟩
    clear hc
    clear o4
    replace o2 := o2.keep BN
    replace BB := BB.trans (BN.mono BB.size)
    clear BN
    clear y4' z4' q4
    have hQ : Hid (Bys (packL M t) ∧ (packL M t).length = M.length / 2 + 1 ∧ okU (packL M t)) := ⟨packL_bys hM.out.1 t, packL_len M t, packL_ok hM.out.1 t⟩
    generalize packL M t = P at *
    obtain ⟨a6, g6, c6, rfl, q6, z6, _, _, _, _⟩ := o6.lies
    clear z6 q6
    have hP0 : ((P.length : Int) == 0) = false := beq_eq_false_iff_ne.2 (by have := hQ.out.2.1; omega)
    clear o2 q2
    obtain ⟨g6', z6', y6'⟩ := o6.at
    have hne : Hid (decide (P = D) = false) := decide_eq_false (fun e => kk.out.2.2.2 (e ▸ hQ.out.2.2))
    have hc := same_any (c := c6) (c' := c0) (by have := hQ.out.2.1; have := hM.out.2.2; omega) z6' HA.out.2.2.2.2.1 w4 y6' (KL.out w4 BB).1
    rw [hne.out] at hc
    go_wp2_with (first | ((with_reducible refine (hn0 _).mono ?_); rintro e9 w9 ⟨rfl, hw9⟩; (rw [hw9]); (clear hw9 w9)) | ((with_reducible refine (hn1 _).mono ?_); rintro e9 w9 ⟨rfl, hw9⟩; (rw [hw9]); (clear hw9 w9)))
    with_reducible refine hc.mono ?_
    rintro e w5 ⟨rfl, BN⟩
    clear hc
    clear o6
    replace BB := BB.trans (BN.mono BB.size)
    clear BN
    clear y6' z6'
    go_wp2_with (first | ((with_reducible refine (hn0 _).mono ?_); rintro e9 w9 ⟨rfl, hw9⟩; (rw [hw9]); (clear hw9 w9)) | ((with_reducible refine (hn1 _).mono ?_); rintro e9 w9 ⟨rfl, hw9⟩; (rw [hw9]); (clear hw9 w9)))
    simp [bodyPost, results, Try.results6, go_sem]
    exact BB
end Go.Proofs.Ytpapgpkpafdkiaa
