import Derived.Test.YtpapgpkpafdkiaaNbR
import Derived.Test.YtpapgpkpafdkiaaNbN
/- Layer 11: the document's Unpack. -/
namespace Go.Proofs.Ytpapgpkpafdkiaa
open Go.RowKit Go.Sort

set_option maxRecDepth 100000 in
theorem runp_nil {c : Nat} {a : Option Addr} (w : World) :
    Calls Try.prog 15 #[.slice a 0 c] w fun e w' => e = .returned (.tuple #[.slice none 0 0, .bool false, .int .i64 110]) ∧ w' = w := by
  go_enter Try.func15, Try.ntmps15
  go_wp2
  simp [bodyPost, results, Try.results15, go_sem]
set_option maxRecDepth 100000 in
set_option maxHeartbeats 8000000 in
theorem runp_bad {b o c m : Nat} {d : Int} (h0 : 0 ≤ d) (hb : ¬ (d = 0 ∨ d = 32 ∨ (16 ≤ d ∧ d < 32) ∨ (48 ≤ d ∧ d < 64))) (w : World) (g0 : w.cell? ⟨b, o, none⟩ = some (.int .u8 d)) :
    Calls Try.prog 15 #[.slice (some ⟨b, o, none⟩) (m + 1) c] w fun e w' => e = .returned (.tuple #[.slice none 0 0, .bool false, .int .i64 110]) ∧ w' = w := by
  have q1 : Int.tdiv d 16 = d / 16 := Int.tdiv_eq_ediv_of_nonneg h0
  have q2 : Int.tmod d 16 = d % 16 := Int.tmod_eq_emod_of_nonneg h0
  have two : (64 ≤ d) ∨ (¬ 64 ≤ d ∧ d / 16 = 0 ∧ (d % 16 == 0) = false) ∨ (¬ 64 ≤ d ∧ d / 16 = 2 ∧ (d % 16 == 0) = false) := by
    by_cases h : 64 ≤ d
    · exact .inl h
    · by_cases h2 : d / 16 = 0
      · exact .inr (.inl ⟨h, h2, beq_eq_false_iff_ne.2 (by omega)⟩)
      · exact .inr (.inr ⟨h, by omega, beq_eq_false_iff_ne.2 (by omega)⟩)
  clear hb
  rcases two with c1 | ⟨c1, c2, c3⟩ | ⟨c1, c2, c3⟩
  all_goals (
    (first | (have q3 : decide (64 ≤ d) = true := decide_eq_true c1) | (have q3 : decide (64 ≤ d) = false := decide_eq_false c1))
    clear c1
    go_enter Try.func15, Try.ntmps15
    go_wp2
    simp [bodyPost, results, Try.results15, go_sem])
set_option maxRecDepth 100000 in
set_option maxHeartbeats 8000000 in
theorem runp_evn {b o c m : Nat} {d : Int} {Y : List Int} {t : Bool} (hY : Bys Y) (hm : Y.length = m) (hl : m < 536870900) (hc1 : ¬ c = 1) (h0 : 0 ≤ d) (h1 : d < 64) (hd : d / 16 = if t then 2 else 0) (hf : d % 16 = 0) (w : World) (g0 : w.cell? ⟨b, o, none⟩ = some (.int .u8 d)) (hz : Bz w b (o + 1) Y) :
    Calls Try.prog 15 #[.slice (some ⟨b, o, none⟩) (m + 1) c] w fun e w' => ∃ v, e = .returned (.tuple #[v, .bool t, .int .i64 0]) ∧ OwnB w.heap.size w' v ([] ++ ofL Y) ∧ Below w.heap.size w w' := by
  obtain ⟨i0, hi, hz0, hz1, hz2⟩ := info_parts info_byte
  have HA : Hid (Bys Y ∧ Y.length = m ∧ Bz w b (o + 1) Y ∧ m < 536870900) := ⟨hY, hm, hz, hl⟩
  have q1 : Int.tdiv d 16 = d / 16 := Int.tdiv_eq_ediv_of_nonneg h0
  have q2 : Int.tmod d 16 = d % 16 := Int.tmod_eq_emod_of_nonneg h0
  have q3 : decide (64 ≤ d) = false := decide_eq_false (by omega)
  clear hY hm hz hl
  cases t
  all_goals (
    simp only [if_true, if_false, Bool.false_eq_true] at hd
    go_enter Try.func15, Try.ntmps15
    go_wp2_with fail
    have H1 : Hid (OwnB w.heap.size w (.slice none 0 0) [] ∧ Below w.heap.size w w) := ⟨OwnB.nil _ _, Below.refl _ _⟩
    have hc := rof_any (b := b) (o := o + 1) (a := some ⟨b, (o + 1), none⟩) (c := (c - 1)) HA.out.1 (by rw [HA.out.2.1]; have := HA.out.2.2.2; omega) (.inr rfl) w (HA.out.2.2.1.keep H1.out.2)
    rw [HA.out.2.1] at hc
    with_reducible refine hc.mono ?_
    rintro e w4 ⟨v4, rfl, ho4, B4⟩
    have H4 : Hid (OwnB w.heap.size w4 (.slice none 0 0) [] ∧ OwnB w.heap.size w4 v4 (ofL Y) ∧ Below w.heap.size w w4) := ⟨H1.out.1.keep B4, ho4, H1.out.2.trans (B4.mono H1.out.2.size)⟩
    clear hc ho4 B4 H1
    go_wp2_with (at_builtin; go_loud (refine wpList_append_all rfl _ _ rfl rfl rfl H4.out.1 H4.out.2.1 (by rw [ofL_len, HA.out.2.1]; have := HA.out.2.2.2; simp; omega) H4.out.2.2.size ?_); intro v5 w5 ho5 hg5)
    have HO : Hid (OwnB w.heap.size w5 v5 ([] ++ ofL Y) ∧ Below w.heap.size w w5) := ⟨ho5, H4.out.2.2.grown hg5 H4.out.2.2.size (fun k hk => (H4.out.1.lt k hk).1)⟩
    clear ho5 hg5
    (try go_wp2)
    simp [bodyPost, results, Try.results15, go_sem]
    exact HO.out)
set_option maxRecDepth 100000 in
set_option maxHeartbeats 8000000 in
theorem runp_ev1 {b o : Nat} {d : Int} {Y : List Int} {t : Bool} (hY : Bys Y) (hm : Y.length = 0) (h0 : 0 ≤ d) (h1 : d < 64) (hd : d / 16 = if t then 2 else 0) (hf : d % 16 = 0) (w : World) (g0 : w.cell? ⟨b, o, none⟩ = some (.int .u8 d)) (hz : Bz w b (o + 1) Y) :
    Calls Try.prog 15 #[.slice (some ⟨b, o, none⟩) 1 1] w fun e w' => ∃ v, e = .returned (.tuple #[v, .bool t, .int .i64 0]) ∧ OwnB w.heap.size w' v ([] ++ ofL Y) ∧ Below w.heap.size w w' := by
  obtain ⟨i0, hi, hz0, hz1, hz2⟩ := info_parts info_byte
  have HA : Hid (Bys Y ∧ Y.length = 0 ∧ Bz w b (o + 1) Y ∧ 0 < 536870900) := ⟨hY, hm, hz, by decide⟩
  have q1 : Int.tdiv d 16 = d / 16 := Int.tdiv_eq_ediv_of_nonneg h0
  have q2 : Int.tmod d 16 = d % 16 := Int.tmod_eq_emod_of_nonneg h0
  have q3 : decide (64 ≤ d) = false := decide_eq_false (by omega)
  clear hY hm hz
  cases t
  all_goals (
    simp only [if_true, if_false, Bool.false_eq_true] at hd
    go_enter Try.func15, Try.ntmps15
    go_wp2_with fail
    have H1 : Hid (OwnB w.heap.size w (.slice none 0 0) [] ∧ Below w.heap.size w w) := ⟨OwnB.nil _ _, Below.refl _ _⟩
    have hc := rof_any (b := b) (o := o + 1) (a := some ⟨b, o, none⟩) (c := 0) HA.out.1 (by rw [HA.out.2.1]; have := HA.out.2.2.2; omega) (.inl (List.eq_nil_of_length_eq_zero HA.out.2.1)) w (HA.out.2.2.1.keep H1.out.2)
    rw [HA.out.2.1] at hc
    with_reducible refine hc.mono ?_
    rintro e w4 ⟨v4, rfl, ho4, B4⟩
    have H4 : Hid (OwnB w.heap.size w4 (.slice none 0 0) [] ∧ OwnB w.heap.size w4 v4 (ofL Y) ∧ Below w.heap.size w w4) := ⟨H1.out.1.keep B4, ho4, H1.out.2.trans (B4.mono H1.out.2.size)⟩
    clear hc ho4 B4 H1
    go_wp2_with (at_builtin; go_loud (refine wpList_append_all rfl _ _ rfl rfl rfl H4.out.1 H4.out.2.1 (by rw [ofL_len, HA.out.2.1]; simp) H4.out.2.2.size ?_); intro v5 w5 ho5 hg5)
    have HO : Hid (OwnB w.heap.size w5 v5 ([] ++ ofL Y) ∧ Below w.heap.size w w5) := ⟨ho5, H4.out.2.2.grown hg5 H4.out.2.2.size (fun k hk => (H4.out.1.lt k hk).1)⟩
    clear ho5 hg5
    (try go_wp2)
    simp [bodyPost, results, Try.results15, go_sem]
    exact HO.out)
set_option maxRecDepth 100000 in
set_option maxHeartbeats 8000000 in
theorem runp_odd {b o c m : Nat} {d f : Int} {Y : List Int} {t : Bool} (hY : Bys Y) (hm : Y.length = m) (hl : m < 536870900) (hc1 : ¬ c = 1) (h0 : 0 ≤ d) (h1 : d < 64) (hd : d / 16 = if t then 3 else 1) (hf : d % 16 = f) (w : World) (g0 : w.cell? ⟨b, o, none⟩ = some (.int .u8 d)) (hz : Bz w b (o + 1) Y) :
    Calls Try.prog 15 #[.slice (some ⟨b, o, none⟩) (m + 1) c] w fun e w' => ∃ v, e = .returned (.tuple #[v, .bool t, .int .i64 0]) ∧ OwnB w.heap.size w' v ([f] ++ ofL Y) ∧ Below w.heap.size w w' := by
  obtain ⟨i0, hi, hz0, hz1, hz2⟩ := info_parts info_byte
  have HA : Hid (Bys Y ∧ Y.length = m ∧ Bz w b (o + 1) Y ∧ m < 536870900) := ⟨hY, hm, hz, hl⟩
  have q1 : Int.tdiv d 16 = d / 16 := Int.tdiv_eq_ediv_of_nonneg h0
  have q2 : Int.tmod d 16 = d % 16 := Int.tmod_eq_emod_of_nonneg h0
  have q3 : decide (64 ≤ d) = false := decide_eq_false (by omega)
  clear hY hm hz hl
  cases t
  all_goals (
    simp only [if_true, if_false, Bool.false_eq_true] at hd
    go_enter Try.func15, Try.ntmps15
    go_wp2_with (at_builtin; go_loud (refine wpList_append_own_at _ rfl _ _ 22 rfl w.heap.size 5 i0 (.int .u8 0) 1 1 Try.underlying22 hi hz0 hz1 hz2 rfl (by decide) (.slice none 0 0) 0 [] rfl (OwnB.nil _ _).row ⟨w.heap.size, 0, none⟩ 1 1 [.int .u8 f] rfl rfl (cell_one_new _ _ _) (fun u hu => by simp at hu; subst hu; rfl) (by decide) (by decide) (by simp) ?_); intro v1 w1 hown' hgrow3 _ _)
    have H1 : Hid (OwnB w.heap.size w1 v1 [f] ∧ Below w.heap.size w w1) := ⟨one_own hown', ((Below.refl _ _).alloc (Nat.le_refl _) _).grown hgrow3 (by simp) (fun k hk => by cases hk)⟩
    clear hown' hgrow3
    have hc := rof_any (b := b) (o := o + 1) (a := some ⟨b, (o + 1), none⟩) (c := (c - 1)) HA.out.1 (by rw [HA.out.2.1]; have := HA.out.2.2.2; omega) (.inr rfl) w1 (HA.out.2.2.1.keep H1.out.2)
    rw [HA.out.2.1] at hc
    with_reducible refine hc.mono ?_
    rintro e w4 ⟨v4, rfl, ho4, B4⟩
    have H4 : Hid (OwnB w.heap.size w4 v1 [f] ∧ OwnB w1.heap.size w4 v4 (ofL Y) ∧ Below w.heap.size w w4) := ⟨H1.out.1.keep B4, ho4, H1.out.2.trans (B4.mono H1.out.2.size)⟩
    clear hc ho4 B4 H1
    go_wp2_with (at_builtin; go_loud (refine wpList_append_all rfl _ _ rfl rfl rfl H4.out.1 H4.out.2.1 (by rw [ofL_len, HA.out.2.1]; have := HA.out.2.2.2; simp; omega) H4.out.2.2.size ?_); intro v5 w5 ho5 hg5)
    have HO : Hid (OwnB w.heap.size w5 v5 ([f] ++ ofL Y) ∧ Below w.heap.size w w5) := ⟨ho5, H4.out.2.2.grown hg5 H4.out.2.2.size (fun k hk => (H4.out.1.lt k hk).1)⟩
    clear ho5 hg5
    (try go_wp2)
    simp [bodyPost, results, Try.results15, go_sem]
    exact HO.out)
set_option maxRecDepth 100000 in
set_option maxHeartbeats 8000000 in
theorem runp_od1 {b o : Nat} {d f : Int} {Y : List Int} {t : Bool} (hY : Bys Y) (hm : Y.length = 0) (h0 : 0 ≤ d) (h1 : d < 64) (hd : d / 16 = if t then 3 else 1) (hf : d % 16 = f) (w : World) (g0 : w.cell? ⟨b, o, none⟩ = some (.int .u8 d)) (hz : Bz w b (o + 1) Y) :
    Calls Try.prog 15 #[.slice (some ⟨b, o, none⟩) 1 1] w fun e w' => ∃ v, e = .returned (.tuple #[v, .bool t, .int .i64 0]) ∧ OwnB w.heap.size w' v ([f] ++ ofL Y) ∧ Below w.heap.size w w' := by
  obtain ⟨i0, hi, hz0, hz1, hz2⟩ := info_parts info_byte
  have HA : Hid (Bys Y ∧ Y.length = 0 ∧ Bz w b (o + 1) Y ∧ 0 < 536870900) := ⟨hY, hm, hz, by decide⟩
  have q1 : Int.tdiv d 16 = d / 16 := Int.tdiv_eq_ediv_of_nonneg h0
  have q2 : Int.tmod d 16 = d % 16 := Int.tmod_eq_emod_of_nonneg h0
  have q3 : decide (64 ≤ d) = false := decide_eq_false (by omega)
  clear hY hm hz
  cases t
  all_goals (
    simp only [if_true, if_false, Bool.false_eq_true] at hd
    go_enter Try.func15, Try.ntmps15
    go_wp2_with (at_builtin; go_loud (refine wpList_append_own_at _ rfl _ _ 22 rfl w.heap.size 5 i0 (.int .u8 0) 1 1 Try.underlying22 hi hz0 hz1 hz2 rfl (by decide) (.slice none 0 0) 0 [] rfl (OwnB.nil _ _).row ⟨w.heap.size, 0, none⟩ 1 1 [.int .u8 f] rfl rfl (cell_one_new _ _ _) (fun u hu => by simp at hu; subst hu; rfl) (by decide) (by decide) (by simp) ?_); intro v1 w1 hown' hgrow3 _ _)
    have H1 : Hid (OwnB w.heap.size w1 v1 [f] ∧ Below w.heap.size w w1) := ⟨one_own hown', ((Below.refl _ _).alloc (Nat.le_refl _) _).grown hgrow3 (by simp) (fun k hk => by cases hk)⟩
    clear hown' hgrow3
    have hc := rof_any (b := b) (o := o + 1) (a := some ⟨b, o, none⟩) (c := 0) HA.out.1 (by rw [HA.out.2.1]; have := HA.out.2.2.2; omega) (.inl (List.eq_nil_of_length_eq_zero HA.out.2.1)) w1 (HA.out.2.2.1.keep H1.out.2)
    rw [HA.out.2.1] at hc
    with_reducible refine hc.mono ?_
    rintro e w4 ⟨v4, rfl, ho4, B4⟩
    have H4 : Hid (OwnB w.heap.size w4 v1 [f] ∧ OwnB w1.heap.size w4 v4 (ofL Y) ∧ Below w.heap.size w w4) := ⟨H1.out.1.keep B4, ho4, H1.out.2.trans (B4.mono H1.out.2.size)⟩
    clear hc ho4 B4 H1
    go_wp2_with (at_builtin; go_loud (refine wpList_append_all rfl _ _ rfl rfl rfl H4.out.1 H4.out.2.1 (by rw [ofL_len, HA.out.2.1]; simp) H4.out.2.2.size ?_); intro v5 w5 ho5 hg5)
    have HO : Hid (OwnB w.heap.size w5 v5 ([f] ++ ofL Y) ∧ Below w.heap.size w w5) := ⟨ho5, H4.out.2.2.grown hg5 H4.out.2.2.size (fun k hk => (H4.out.1.lt k hk).1)⟩
    clear ho5 hg5
    (try go_wp2)
    simp [bodyPost, results, Try.results15, go_sem]
    exact HO.out)
theorem runp_any {b o c : Nat} {a : Option Addr} {D : List Int} (hD : Bys D) (hl : D.length < 536870900) (hcc : D.length ≤ c) (ha : Az a b o D) (w : World) (hz : Bz w b o D) :
    Calls Try.prog 15 #[.slice a D.length c] w fun e w' => ∃ v, e = .returned (.tuple #[v, .bool (unpM D), .int .i64 (unpE D)]) ∧ OwnB w.heap.size w' v (unpX D) ∧ Below w.heap.size w w' := by
  unfold unpM unpE unpX
  cases D with
  | nil =>
    have ne : ¬ okU [] := fun h => h.1 rfl
    rw [if_neg ne, if_neg ne, decide_eq_false (fun h => ne h.1)]
    exact (runp_nil w).mono fun e w' ⟨h1, h2⟩ => ⟨_, h1, OwnB.nil _ _, by rw [h2]; exact Below.refl _ _⟩
  | cons d Y =>
    obtain rfl := ha.cons (by simp)
    obtain ⟨h0, h1⟩ := hD d (by simp)
    have g0 : w.cell? ⟨b, o, none⟩ = some (.int .u8 d) := by have := hz 0 (by simp); simpa using this
    have hY : Bys Y := fun x hx => hD x (by simp [hx])
    have hz1 : Bz w b (o + 1) Y := by have := hz.drop (n := 1); simpa using this
    have e0 : (d :: Y).getD 0 0 = d := rfl
    have e1 : (d :: Y).drop 1 = Y := rfl
    simp only [List.length_cons] at hl hcc ⊢
    unfold unpR
    rw [e0, e1]
    by_cases ok : okU (d :: Y)
    · have ok2 := ok.2
      rw [e0] at ok2
      rw [if_pos ok, if_pos ok]
      have em : ∀ t : Bool, (t = true ↔ 32 ≤ d) → decide (okU (d :: Y) ∧ 32 ≤ d) = t := fun t ht => by
        cases t
        · exact decide_eq_false (fun h => by have := ht.2 h.2; cases this)
        · exact decide_eq_true ⟨ok, ht.1 rfl⟩
      by_cases ho : d / 16 % 2 = 1
      · rw [if_pos ho, em (decide (32 ≤ d)) (by simp)]
        have hd : d / 16 = if decide (32 ≤ d) = true then 3 else 1 := by
          by_cases h : 32 ≤ d <;> simp [h] <;> omega
        by_cases c1 : c = 1
        · have hm : Y.length = 0 := by omega
          subst c1
          rw [hm]
          exact runp_od1 hY hm h0 (by omega) hd rfl w g0 hz1
        · exact runp_odd hY rfl (by omega) c1 h0 (by omega) hd rfl w g0 hz1
      · rw [if_neg ho, em (decide (32 ≤ d)) (by simp)]
        have hd : d / 16 = if decide (32 ≤ d) = true then 2 else 0 := by
          by_cases h : 32 ≤ d <;> simp [h] <;> omega
        by_cases c1 : c = 1
        · have hm : Y.length = 0 := by omega
          subst c1
          rw [hm]
          exact runp_ev1 hY hm h0 (by omega) hd (by omega) w g0 hz1
        · exact runp_evn hY rfl (by omega) c1 h0 (by omega) hd (by omega) w g0 hz1
    · rw [if_neg ok, if_neg ok, decide_eq_false (fun h => ok h.1)]
      have hb : ¬ (d = 0 ∨ d = 32 ∨ (16 ≤ d ∧ d < 32) ∨ (48 ≤ d ∧ d < 64)) := fun h => ok ⟨by simp, h⟩
      exact (runp_bad h0 hb w g0).mono fun e w' ⟨q1, q2⟩ => ⟨_, q1, OwnB.nil _ _, by rw [q2]; exact Below.refl _ _⟩
end Go.Proofs.Ytpapgpkpafdkiaa
