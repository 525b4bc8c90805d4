import Derived.Test.YtohdlfilldaghaaNbQ
/- Layer 11: the document's Pack. -/
namespace Go.Proofs.Ytohdlfilldaghaa
open Go.RowKit Go.Sort

set_option maxRecDepth 100000 in
set_option maxHeartbeats 8000000 in
theorem rpack_even {b o c : Nat} {a : Option Addr} {X : List Int} {t : Bool} (hl : X.length < 140737488354000) (hr : rowB X = true) (hR : ∀ x ∈ X, 0 ≤ x ∧ x ≤ 15) (he : X.length % 2 = 0) (ha : Az a b o X) (w : World) (hz : Bz w b o X) :
    Calls Try.prog 6 #[.slice a X.length c, .bool t] w fun e w' => ∃ v, e = .returned (.tuple #[v, .int .i64 0]) ∧ OwnB w.heap.size w' v ((if t then 32 else 0) :: joinL X) ∧ Below w.heap.size w w' := by
  have hw := rrow_any (c := c) (by omega) ha w hz
  rw [hr] at hw
  obtain ⟨i0, hi, hz0, hz1, hz2⟩ := info_parts info_byte
  have l1 : (X.length : Int) < 281474976710600 := by omega
  have pe : (X.length : Int) % 2 = 0 := by omega
  have HA : Hid (X.length < 140737488354000 ∧ Az a b o X ∧ Bz w b o X ∧ (∀ x ∈ X, 0 ≤ x ∧ x ≤ 15) ∧ X.length % 2 = 0 ∧ rowB X = true) := ⟨hl, ha, hz, hR, he, hr⟩
  clear hl ha hz hR he hr
  cases t
  all_goals (
    go_enter Try.func6, Try.ntmps6
    go_wp2_with (first | ((with_reducible refine hw.mono ?_); rintro e1 w9 ⟨rfl, hw9⟩; (rw [hw9]); (clear hw9 w9)) | (at_builtin; go_loud (refine wpList_append_own_at _ rfl _ _ 22 rfl w.heap.size 5 i0 (.int .u8 0) 1 1 Try.underlying22 hi hz0 hz1 hz2 rfl (by decide) (.slice none 0 0) 0 [] rfl (OwnB.nil _ _).row ⟨w.heap.size, 0, none⟩ 1 1 [_] rfl rfl (cell_one_new _ _ _) (fun u hu => by simp at hu; subst hu; rfl) (by decide) (by decide) (by simp) ?_); intro v1 w1 hown' hgrow3 _ _))
    have H1 : Hid (OwnB w.heap.size w1 v1 [_] ∧ Below w.heap.size w w1) := ⟨one_own hown', ((Below.refl _ _).alloc (Nat.le_refl _) _).grown hgrow3 (by simp) (fun k hk => by cases hk)⟩
    clear hown' hgrow3
    have hc := rkey_ok (c := c) HA.out.2.2.2.2.2 HA.out.2.2.2.1 HA.out.2.2.2.2.1 (by have := HA.out.1; omega) HA.out.2.1 w1 (HA.out.2.2.1.keep H1.out.2)
    with_reducible refine hc.mono ?_
    rintro e w4 ⟨v4, rfl, ho4, B4⟩
    have H4 : Hid (OwnB w.heap.size w4 v1 [_] ∧ OwnB w1.heap.size w4 v4 (joinL X) ∧ Below w.heap.size w w4) := ⟨H1.out.1.keep B4, ho4, H1.out.2.trans (B4.mono H1.out.2.size)⟩
    clear hc ho4 B4 H1
    (try clear l1)
    (try clear pe)
    go_wp2_with (at_builtin; go_loud (refine wpList_append_all rfl _ _ rfl rfl rfl H4.out.1 H4.out.2.1 (by rw [joinL_len]; have := HA.out.1; simp; omega) H4.out.2.2.size ?_); intro v5 w5 ho5 hg5)
    have HO : Hid (OwnB w.heap.size w5 v5 ([_] ++ joinL X) ∧ Below w.heap.size w w5) := ⟨ho5, H4.out.2.2.grown hg5 H4.out.2.2.size (fun k hk => (H4.out.1.lt k hk).1)⟩
    clear ho5 hg5
    (try go_wp2)
    simp [bodyPost, results, Try.results6, go_sem]
    exact HO.out)
set_option maxRecDepth 100000 in
set_option maxHeartbeats 8000000 in
theorem rpack_odd {b o c m : Nat} {a : Option Addr} {X : List Int} {t : Bool} (hl : X.length < 140737488354000) (hm : X.length = m + 1) (hc1 : ¬ c = 1) (hr : rowB X = true) (hR : ∀ x ∈ X, 0 ≤ x ∧ x ≤ 15) (he : X.length % 2 = 1) (ha : Az a b o X) (w : World) (hz : Bz w b o X) :
    Calls Try.prog 6 #[.slice a (m + 1) c, .bool t] w fun e w' => ∃ v, e = .returned (.tuple #[v, .int .i64 0]) ∧ OwnB w.heap.size w' v (((if t then 48 else 16) + X.getD 0 0) :: joinL (X.drop 1)) ∧ Below w.heap.size w w' := by
  have hw := rrow_any (c := c) (by omega) ha w hz
  rw [hr, hm] at hw
  obtain ⟨i0, hi, hz0, hz1, hz2⟩ := info_parts info_byte
  obtain rfl := ha.cons (by omega)
  have g0 := hz 0 (by omega)
  rw [Nat.add_zero] at g0
  have xx : 0 ≤ X.getD 0 0 ∧ X.getD 0 0 ≤ 15 := by
    rw [List.getD, List.getElem?_eq_getElem (by omega)]
    exact hR _ (List.getElem_mem _)
  have rd : rowB (X.drop 1) = true := by
    rw [rowB, List.all_eq_true] at hr ⊢
    exact fun x hx => hr x (List.mem_of_mem_drop hx)
  have HA : Hid (X.length < 140737488354000 ∧ Bz w b (o + 1) (X.drop 1) ∧ (∀ x ∈ X.drop 1, 0 ≤ x ∧ x ≤ 15) ∧ (X.drop 1).length % 2 = 0 ∧ (X.drop 1).length = m ∧ X.length = m + 1 ∧ rowB (X.drop 1) = true) := ⟨hl, hz.drop, fun x hx => hR x (List.mem_of_mem_drop hx), by rw [List.length_drop]; omega, by rw [List.length_drop]; omega, hm, rd⟩
  obtain ⟨x, ex⟩ : ∃ x, x = X.getD 0 0 := ⟨_, rfl⟩
  rw [← ex] at g0 xx ⊢
  obtain ⟨x0, x1⟩ := xx
  have _he := he
  have wu1 : IntKind.u8.wrap (16 + x) = 16 + x := by rw [IntKind.wrap_u8']; omega
  have wu2 : IntKind.u8.wrap (48 + x) = 48 + x := by rw [IntKind.wrap_u8']; omega
  have pe : ((m : Int) + 1) % 2 = 1 := by omega
  have l1 : (m : Int) < 281474976710500 := by omega
  clear hl ha hz hR he _he hr ex hm rd
  cases t
  all_goals (
    go_enter Try.func6, Try.ntmps6
    go_wp2_with (first | ((with_reducible refine hw.mono ?_); rintro e1 w9 ⟨rfl, hw9⟩; (rw [hw9]); (clear hw9 w9)) | (at_builtin; go_loud (refine wpList_append_own_at _ rfl _ _ 22 rfl w.heap.size 5 i0 (.int .u8 0) 1 1 Try.underlying22 hi hz0 hz1 hz2 rfl (by decide) (.slice none 0 0) 0 [] rfl (OwnB.nil _ _).row ⟨w.heap.size, 0, none⟩ 1 1 [_] rfl rfl (cell_one_new _ _ _) (fun u hu => by simp at hu; subst hu; rfl) (by decide) (by decide) (by simp) ?_); intro v1 w1 hown' hgrow3 _ _))
    have H1 : Hid (OwnB w.heap.size w1 v1 [_] ∧ Below w.heap.size w w1) := ⟨one_own hown', ((Below.refl _ _).alloc (Nat.le_refl _) _).grown hgrow3 (by simp) (fun k hk => by cases hk)⟩
    clear hown' hgrow3
    have hc := rkey_ok (R := X.drop 1) (b := b) (o := o + 1) (a := some ⟨b, (o + 1), none⟩) (c := (c - 1)) HA.out.2.2.2.2.2.2 HA.out.2.2.1 HA.out.2.2.2.1 (by rw [HA.out.2.2.2.2.1]; have := HA.out.1; have := HA.out.2.2.2.2.2.1; omega) (.inr rfl) w1 (HA.out.2.1.keep H1.out.2)
    rw [HA.out.2.2.2.2.1] at hc
    with_reducible refine hc.mono ?_
    rintro e w4 ⟨v4, rfl, ho4, B4⟩
    have H4 : Hid (OwnB w.heap.size w4 v1 [_] ∧ OwnB w1.heap.size w4 v4 (joinL (X.drop 1)) ∧ Below w.heap.size w w4) := ⟨H1.out.1.keep B4, ho4, H1.out.2.trans (B4.mono H1.out.2.size)⟩
    clear hc ho4 B4 H1
    (try clear l1)
    (try clear pe)
    go_wp2_with (at_builtin; go_loud (refine wpList_append_all rfl _ _ rfl rfl rfl H4.out.1 H4.out.2.1 (by rw [joinL_len, HA.out.2.2.2.2.1]; have := HA.out.1; have := HA.out.2.2.2.2.2.1; simp; omega) H4.out.2.2.size ?_); intro v5 w5 ho5 hg5)
    have HO : Hid (OwnB w.heap.size w5 v5 ([_] ++ joinL (X.drop 1)) ∧ Below w.heap.size w w5) := ⟨ho5, H4.out.2.2.grown hg5 H4.out.2.2.size (fun k hk => (H4.out.1.lt k hk).1)⟩
    clear ho5 hg5
    (try go_wp2)
    simp [bodyPost, results, Try.results6, go_sem]
    have h := HO.out
    rw [List.drop_one] at h
    exact h)
set_option maxRecDepth 100000 in
set_option maxHeartbeats 8000000 in
theorem rpack_one {b o : Nat} {a : Option Addr} {X : List Int} {t : Bool} (hl : X.length < 140737488354000) (hm : X.length = 1) (hr : rowB X = true) (hR : ∀ x ∈ X, 0 ≤ x ∧ x ≤ 15) (he : X.length % 2 = 1) (ha : Az a b o X) (w : World) (hz : Bz w b o X) :
    Calls Try.prog 6 #[.slice a 1 1, .bool t] w fun e w' => ∃ v, e = .returned (.tuple #[v, .int .i64 0]) ∧ OwnB w.heap.size w' v (((if t then 48 else 16) + X.getD 0 0) :: joinL (X.drop 1)) ∧ Below w.heap.size w w' := by
  have hw := rrow_any (c := 1) (by omega) ha w hz
  rw [hr, hm] at hw
  obtain ⟨i0, hi, hz0, hz1, hz2⟩ := info_parts info_byte
  obtain rfl := ha.cons (by omega)
  have g0 := hz 0 (by omega)
  rw [Nat.add_zero] at g0
  have xx : 0 ≤ X.getD 0 0 ∧ X.getD 0 0 ≤ 15 := by
    rw [List.getD, List.getElem?_eq_getElem (by omega)]
    exact hR _ (List.getElem_mem _)
  have rd : rowB (X.drop 1) = true := by
    rw [rowB, List.all_eq_true] at hr ⊢
    exact fun x hx => hr x (List.mem_of_mem_drop hx)
  have HA : Hid (X.length < 140737488354000 ∧ Bz w b (o + 1) (X.drop 1) ∧ (∀ x ∈ X.drop 1, 0 ≤ x ∧ x ≤ 15) ∧ (X.drop 1).length % 2 = 0 ∧ (X.drop 1).length = 0 ∧ X.length = 1 ∧ rowB (X.drop 1) = true) := ⟨hl, hz.drop, fun x hx => hR x (List.mem_of_mem_drop hx), by rw [List.length_drop]; omega, by rw [List.length_drop]; omega, hm, rd⟩
  obtain ⟨x, ex⟩ : ∃ x, x = X.getD 0 0 := ⟨_, rfl⟩
  rw [← ex] at g0 xx ⊢
  obtain ⟨x0, x1⟩ := xx
  have _he := he
  have wu1 : IntKind.u8.wrap (16 + x) = 16 + x := by rw [IntKind.wrap_u8']; omega
  have wu2 : IntKind.u8.wrap (48 + x) = 48 + x := by rw [IntKind.wrap_u8']; omega
  clear hl ha hz hR he _he hr ex hm rd
  cases t
  all_goals (
    go_enter Try.func6, Try.ntmps6
    go_wp2_with (first | ((with_reducible refine hw.mono ?_); rintro e1 w9 ⟨rfl, hw9⟩; (rw [hw9]); (clear hw9 w9)) | (at_builtin; go_loud (refine wpList_append_own_at _ rfl _ _ 22 rfl w.heap.size 5 i0 (.int .u8 0) 1 1 Try.underlying22 hi hz0 hz1 hz2 rfl (by decide) (.slice none 0 0) 0 [] rfl (OwnB.nil _ _).row ⟨w.heap.size, 0, none⟩ 1 1 [_] rfl rfl (cell_one_new _ _ _) (fun u hu => by simp at hu; subst hu; rfl) (by decide) (by decide) (by simp) ?_); intro v1 w1 hown' hgrow3 _ _))
    have H1 : Hid (OwnB w.heap.size w1 v1 [_] ∧ Below w.heap.size w w1) := ⟨one_own hown', ((Below.refl _ _).alloc (Nat.le_refl _) _).grown hgrow3 (by simp) (fun k hk => by cases hk)⟩
    clear hown' hgrow3
    have hc := rkey_ok (R := X.drop 1) (b := b) (o := o + 1) (a := some ⟨b, o, none⟩) (c := 0) HA.out.2.2.2.2.2.2 HA.out.2.2.1 HA.out.2.2.2.1 (by rw [HA.out.2.2.2.2.1]; decide) (.inl (List.eq_nil_of_length_eq_zero HA.out.2.2.2.2.1)) w1 (HA.out.2.1.keep H1.out.2)
    rw [HA.out.2.2.2.2.1] at hc
    with_reducible refine hc.mono ?_
    rintro e w4 ⟨v4, rfl, ho4, B4⟩
    have H4 : Hid (OwnB w.heap.size w4 v1 [_] ∧ OwnB w1.heap.size w4 v4 (joinL (X.drop 1)) ∧ Below w.heap.size w w4) := ⟨H1.out.1.keep B4, ho4, H1.out.2.trans (B4.mono H1.out.2.size)⟩
    clear hc ho4 B4 H1
    (try clear l1)
    (try clear pe)
    go_wp2_with (at_builtin; go_loud (refine wpList_append_all rfl _ _ rfl rfl rfl H4.out.1 H4.out.2.1 (by rw [joinL_len, HA.out.2.2.2.2.1]; simp) H4.out.2.2.size ?_); intro v5 w5 ho5 hg5)
    have HO : Hid (OwnB w.heap.size w5 v5 ([_] ++ joinL (X.drop 1)) ∧ Below w.heap.size w w5) := ⟨ho5, H4.out.2.2.grown hg5 H4.out.2.2.size (fun k hk => (H4.out.1.lt k hk).1)⟩
    clear ho5 hg5
    (try go_wp2)
    simp [bodyPost, results, Try.results6, go_sem]
    have h := HO.out
    rw [List.drop_one] at h
    exact h)
set_option maxRecDepth 100000 in
theorem rpack_any {b o c : Nat} {a : Option Addr} {X : List Int} {t : Bool} (hX : Bys X) (hl : X.length < 140737488354000) (hcc : X.length ≤ c) (ha : Az a b o X) (w : World) (hz : Bz w b o X) :
    Calls Try.prog 6 #[.slice a X.length c, .bool t] w fun e w' => ∃ v, e = .returned (.tuple #[v, .int .i64 (packE X)]) ∧ OwnB w.heap.size w' v (packX X t) ∧ Below w.heap.size w w' := by
  unfold packE packX
  by_cases hr : rowB X = true
  · rw [if_pos hr, if_pos hr]
    have hR := (rowB_iff hX).1 hr
    unfold packL packH packR
    by_cases he : X.length % 2 = 1
    · rw [if_pos he, he]
      have e1 : (if t = true then 32 else 0) + (16 + X.getD 0 0) = (if t = true then 48 else 16) + X.getD 0 0 := by cases t <;> simp <;> omega
      rw [e1]
      by_cases hc1 : c = 1
      · have hm : X.length = 1 := by omega
        subst hc1
        have := rpack_one (t := t) hl hm hr hR he ha w hz
        rw [hm]
        exact this
      · obtain ⟨m, hm⟩ : ∃ m, X.length = m + 1 := ⟨X.length - 1, by omega⟩
        have := rpack_odd (t := t) hl hm hc1 hr hR he ha w hz
        rw [hm]
        exact this
    · rw [if_neg he, show X.length % 2 = 0 by omega, List.drop_zero, Int.add_zero]
      exact rpack_even hl hr hR (by omega) ha w hz
  · rw [if_neg hr, if_neg hr]
    have hw := rrow_any (c := c) (by omega) ha w hz
    rw [show rowB X = false by simpa using hr] at hw
    clear hl ha hz hX hr hcc
    go_enter Try.func6, Try.ntmps6
    go_wp2_with ((with_reducible refine hw.mono ?_); rintro e1 w9 ⟨rfl, hw9⟩; (rw [hw9]); (clear hw9 w9))
    simp [bodyPost, results, Try.results6, go_sem]
    exact ⟨OwnB.nil _ _, Below.refl _ _⟩
end Go.Proofs.Ytohdlfilldaghaa
