import Derived.Test.YtpapgpkpafdkiaaNbG
/- Layer 11: Unpack. -/
namespace Go.Proofs.Ytpapgpkpafdkiaa
open Go.RowKit Go.Sort

/-- Are these bytes a packed row? -/
def okU (D : List Int) : Prop := D ≠ [] ∧ (D.getD 0 0 = 0 ∨ D.getD 0 0 = 32 ∨ (16 ≤ D.getD 0 0 ∧ D.getD 0 0 < 32) ∨ (48 ≤ D.getD 0 0 ∧ D.getD 0 0 < 64))
instance (D : List Int) : Decidable (okU D) := by unfold okU; infer_instance
def unpR (D : List Int) : List Int := if D.getD 0 0 / 16 % 2 = 1 then [D.getD 0 0 % 16] else []
def unpX (D : List Int) : List Int := if okU D then unpR D ++ ofL (D.drop 1) else []
def unpM (D : List Int) : Bool := decide (okU D ∧ 32 ≤ D.getD 0 0)
def unpE (D : List Int) : Int := if okU D then 0 else 110
set_option maxRecDepth 100000 in
theorem unp_nil {c : Nat} {a : Option Addr} (w : World) :
    Calls Try.prog 14 #[.slice a 0 c] w fun e w' => e = .returned (.tuple #[.slice none 0 0, .bool false, .int .i64 110]) ∧ w' = w := by
  go_enter Try.func14, Try.ntmps14
  go_wp2
  simp [bodyPost, results, Try.results14, go_sem]
set_option maxRecDepth 100000 in
set_option maxHeartbeats 8000000 in
theorem unp_bad {b o c m : Nat} {d : Int} (h0 : 0 ≤ d) (h1 : d < 256) (hb : ¬ (d = 0 ∨ d = 32 ∨ (16 ≤ d ∧ d < 32) ∨ (48 ≤ d ∧ d < 64))) (hl : m < 140737488355320) (w : World) (g0 : w.cell? ⟨b, o, none⟩ = some (.int .u8 d)) :
    Calls Try.prog 14 #[.slice (some ⟨b, o, none⟩) (m + 1) c] w fun e w' => e = .returned (.tuple #[.slice none 0 0, .bool false, .int .i64 110]) ∧ Below w.heap.size w w' := by
  obtain ⟨i0, hi, hz0, hz1, hz2⟩ := info_parts info_byte
  have a15 := and15 h0 h1
  have hW : Hid (wrap64 (wrap64 (2 * ((m : Int) + 1)) - 1) = ((2 * m + 1 : Nat) : Int) ∧ m < 140737488355320) := by
    refine ⟨?_, hl⟩
    rw [wrap64_small (n := 2 * ((m : Int) + 1)) (by omega) (by omega), wrap64_small (by omega) (by omega)]
    omega
  clear hl
  have two : (d / 16 = 0 ∧ d % 16 ≠ 0) ∨ (d / 16 = 2 ∧ d % 16 ≠ 0) ∨ (d / 16 ≠ 0 ∧ d / 16 ≠ 1 ∧ d / 16 ≠ 2 ∧ d / 16 ≠ 3) := by omega
  clear hb
  have gG := fun k os => cell_regrown g0 k os
  obtain ⟨h, eh⟩ : ∃ h, h = d / 16 := ⟨_, rfl⟩
  obtain ⟨f, ef⟩ : ∃ f, f = d % 16 := ⟨_, rfl⟩
  rw [← eh, ← ef] at two
  have HE : Hid (d / 16 = h ∧ d % 16 = f) := ⟨eh.symm, ef.symm⟩
  clear eh ef
  rcases two with ⟨c1, c2⟩ | ⟨c1, c2⟩ | ⟨c1, c2, c3, c4⟩
  all_goals (
    go_enter Try.func14, Try.ntmps14
    go_wp2_with fail
    refine wp_region_quiet_below (by kernel_rfl) (by kernel_rfl) ?_
    repeat (first | go_big_quiet_skip | (go_big_quiet_want; go_big_quiet_op; go_big_quiet_on))
    refine wpQuiet_nil ?_
    rintro w1 ⟨p, rfl⟩
    have hb := below_regrown w p.d p.os
    generalize grow (redrawn w p.d) p.os = w1 at *
    (try rw [HE.out.1])
    (try rw [HE.out.2])
    clear gG g0 a15
    (first | (have b1 : (f == 0) = false := beq_eq_false_iff_ne.2 c2; subst c1) | (have b1 : (h == 0) = false := beq_eq_false_iff_ne.2 c1; have b2 : (h == 1) = false := beq_eq_false_iff_ne.2 c2; have b3 : (h == 2) = false := beq_eq_false_iff_ne.2 c3; have b4 : (h == 3) = false := beq_eq_false_iff_ne.2 c4; clear c1 c2 c3 c4))
    go_wp2_with (at_make; refine wpList_make_cap _ rfl _ _ 22 rfl 5 i0 (.int .u8 0) Try.underlying22 hi hz0 hz1 rfl hz2 .i64 .i64 _ _ 0 (2 * m + 1) rfl rfl rfl (by first | exact hW.out.1 | decide) (Nat.zero_le _) (by have := hW.out.2; omega) ?_; refine wpList_world (fun W => OwnB w.heap.size W (.slice (some ⟨w1.heap.size, 0, none⟩) 0 (2 * m + 1)) [] ∧ Below w.heap.size w W ∧ w1.heap.size < W.heap.size) ⟨made_own _ _ hb.size (by have := hW.out.2; omega), hb.alloc hb.size _, by simp⟩ ?_; intro w2 h2; have H2 : Hid _ := h2; clear h2)
    (try rw [show (f != 0) = true from bne_iff_ne.2 c2])
    (try go_wp2)
    simp [bodyPost, results, Try.results14, go_sem]
    exact H2.out.2.1)
set_option maxRecDepth 100000 in
set_option maxHeartbeats 8000000 in
theorem unp_evn {b o c m : Nat} {d : Int} {Y : List Int} {t : Bool} (hY : Bys Y) (hm : Y.length = m) (hl : m < 140737488355320) (hcc : m + 1 ≤ c) (hc1 : ¬ c = 1) (h0 : 0 ≤ d) (h1 : d < 256) (hd : d / 16 = if t then 2 else 0) (hf : d % 16 = 0) (w : World) (g0 : w.cell? ⟨b, o, none⟩ = some (.int .u8 d)) (hz : Bz w b (o + 1) Y) :
    Calls Try.prog 14 #[.slice (some ⟨b, o, none⟩) (m + 1) c] w fun e w' => ∃ v, e = .returned (.tuple #[v, .bool t, .int .i64 0]) ∧ OwnB w.heap.size w' v ([] ++ ofL Y) ∧ Below w.heap.size w w' := by
  obtain ⟨i0, hi, hz0, hz1, hz2⟩ := info_parts info_byte
  have a15 := and15 h0 h1
  have hW : Hid (wrap64 (wrap64 (2 * ((m : Int) + 1)) - 1) = ((2 * m + 1 : Nat) : Int) ∧ m < 140737488355320) := by
    refine ⟨?_, hl⟩
    rw [wrap64_small (n := 2 * ((m : Int) + 1)) (by omega) (by omega), wrap64_small (by omega) (by omega)]
    omega
  have HA : Hid (Bys Y ∧ Y.length = m ∧ Bz w b (o + 1) Y ∧ m + 1 ≤ c) := ⟨hY, hm, hz, hcc⟩
  clear hY hm hz hl hcc
  have gG := fun k os => cell_regrown g0 k os
  cases t
  all_goals (
    simp only [if_true, if_false, Bool.false_eq_true] at hd
    go_enter Try.func14, Try.ntmps14
    go_wp2_with fail
    refine wp_region_quiet_below (by kernel_rfl) (by kernel_rfl) ?_
    repeat (first | go_big_quiet_skip | (go_big_quiet_want; go_big_quiet_op; go_big_quiet_on))
    refine wpQuiet_nil ?_
    rintro w1 ⟨p, rfl⟩
    have hb := below_regrown w p.d p.os
    generalize grow (redrawn w p.d) p.os = w1 at *
    (try rw [hd])
    (try rw [hf])
    clear gG g0 a15
    go_wp2_with (first | (at_make; refine wpList_make_cap _ rfl _ _ 22 rfl 5 i0 (.int .u8 0) Try.underlying22 hi hz0 hz1 rfl hz2 .i64 .i64 _ _ 0 (2 * m + 1) rfl rfl rfl (by first | exact hW.out.1 | decide) (Nat.zero_le _) (by have := hW.out.2; omega) ?_; refine wpList_world (fun W => OwnB w.heap.size W (.slice (some ⟨w1.heap.size, 0, none⟩) 0 (2 * m + 1)) [] ∧ Below w.heap.size w W ∧ w1.heap.size < W.heap.size) ⟨made_own _ _ hb.size (by have := hW.out.2; omega), hb.alloc hb.size _, by simp⟩ ?_; intro w2 h2; have H2 : Hid _ := h2; clear h2))
    have H3 : Hid (OwnB w.heap.size w2 (.slice (some ⟨w1.heap.size, 0, none⟩) 0 (2 * m + 1)) [] ∧ Below w.heap.size w w2) := ⟨H2.out.1, H2.out.2.1⟩
    obtain ⟨b', ne, ha', hz'⟩ := Az.far (a := some ⟨b, (o + 1), none⟩) (g := w1.heap.size) (o := o + 1) (b := b) (X := Y) (w := w) (.inr rfl) HA.out.2.2.1 hb.size
    have hc := split_any (R := []) (g := w1.heap.size) (cap := (2 * m + 1)) (c := (c - 1)) (B := w.heap.size) (b := b') (o := o + 1) (a := some ⟨b, (o + 1), none⟩) HA.out.1 (by rw [HA.out.2.1]; have := hW.out.2; omega) (by rw [HA.out.2.1]; simp) ha' w2 (hz' _ (HA.out.2.2.1.keep H3.out.2)) ne H3.out.1
    rw [HA.out.2.1] at hc
    have hc' : Calls Try.prog 28 #[.slice (some ⟨w1.heap.size, 0, none⟩) 0 (2 * m + 1), .slice (some ⟨b, (o + 1), none⟩) m (c - 1)] w2 fun e w' => e = .returned (.slice (some ⟨w1.heap.size, 0, none⟩) (0 + 2 * m) (2 * m + 1)) ∧ OwnB w.heap.size w' (.slice (some ⟨w1.heap.size, 0, none⟩) (0 + 2 * m) (2 * m + 1)) ([] ++ ofL Y) ∧ w2.grownBy w' (some w1.heap.size) := hc
    clear hc
    with_reducible refine hc'.mono ?_
    rintro e w4 ⟨rfl, ho4, hg4⟩
    have HO : Hid (OwnB w.heap.size w4 _ ([] ++ ofL Y) ∧ Below w.heap.size w w4) := ⟨ho4, H3.out.2.grown hg4 H3.out.2.size (fun k hk => by have := Option.some.inj hk; have := hb.size; omega)⟩
    clear hc' ho4 hg4 H3 ha' hz'
    go_wp2
    simp [bodyPost, results, Try.results14, go_sem]
    have h := HO.out
    rw [Nat.zero_add] at h
    exact ⟨_, ⟨rfl, by decide⟩, h⟩)
set_option maxRecDepth 100000 in
set_option maxHeartbeats 8000000 in
theorem unp_ev1 {b o : Nat} {d : Int} {Y : List Int} {t : Bool} (hY : Bys Y) (hm : Y.length = 0) (h0 : 0 ≤ d) (h1 : d < 256) (hd : d / 16 = if t then 2 else 0) (hf : d % 16 = 0) (w : World) (g0 : w.cell? ⟨b, o, none⟩ = some (.int .u8 d)) (hz : Bz w b (o + 1) Y) :
    Calls Try.prog 14 #[.slice (some ⟨b, o, none⟩) 1 1] w fun e w' => ∃ v, e = .returned (.tuple #[v, .bool t, .int .i64 0]) ∧ OwnB w.heap.size w' v ([] ++ ofL Y) ∧ Below w.heap.size w w' := by
  obtain ⟨i0, hi, hz0, hz1, hz2⟩ := info_parts info_byte
  have a15 := and15 h0 h1
  have hW : Hid (True ∧ 0 < 140737488355320) := by
    refine ⟨?_, by decide⟩
    trivial
  have HA : Hid (Bys Y ∧ Y.length = 0 ∧ Bz w b (o + 1) Y) := ⟨hY, hm, hz⟩
  clear hY hm hz
  have gG := fun k os => cell_regrown g0 k os
  cases t
  all_goals (
    simp only [if_true, if_false, Bool.false_eq_true] at hd
    go_enter Try.func14, Try.ntmps14
    go_wp2_with fail
    refine wp_region_quiet_below (by kernel_rfl) (by kernel_rfl) ?_
    repeat (first | go_big_quiet_skip | (go_big_quiet_want; go_big_quiet_op; go_big_quiet_on))
    refine wpQuiet_nil ?_
    rintro w1 ⟨p, rfl⟩
    have hb := below_regrown w p.d p.os
    generalize grow (redrawn w p.d) p.os = w1 at *
    (try rw [hd])
    (try rw [hf])
    clear gG g0 a15
    go_wp2_with (first | (at_make; refine wpList_make_cap _ rfl _ _ 22 rfl 5 i0 (.int .u8 0) Try.underlying22 hi hz0 hz1 rfl hz2 .i64 .i64 _ _ 0 1 rfl rfl rfl (by first | exact hW.out.1 | decide) (Nat.zero_le _) (by have := hW.out.2; omega) ?_; refine wpList_world (fun W => OwnB w.heap.size W (.slice (some ⟨w1.heap.size, 0, none⟩) 0 1) [] ∧ Below w.heap.size w W ∧ w1.heap.size < W.heap.size) ⟨made_own _ _ hb.size (by have := hW.out.2; omega), hb.alloc hb.size _, by simp⟩ ?_; intro w2 h2; have H2 : Hid _ := h2; clear h2))
    have H3 : Hid (OwnB w.heap.size w2 (.slice (some ⟨w1.heap.size, 0, none⟩) 0 1) [] ∧ Below w.heap.size w w2) := ⟨H2.out.1, H2.out.2.1⟩
    obtain ⟨b', ne, ha', hz'⟩ := Az.far (a := some ⟨b, o, none⟩) (g := w1.heap.size) (o := o + 1) (b := b) (X := Y) (w := w) (.inl (List.eq_nil_of_length_eq_zero HA.out.2.1)) HA.out.2.2 hb.size
    have hc := split_any (R := []) (g := w1.heap.size) (cap := 1) (c := 0) (B := w.heap.size) (b := b') (o := o + 1) (a := some ⟨b, o, none⟩) HA.out.1 (by rw [HA.out.2.1]; have := hW.out.2; omega) (by rw [HA.out.2.1]; simp) ha' w2 (hz' _ (HA.out.2.2.keep H3.out.2)) ne H3.out.1
    rw [HA.out.2.1] at hc
    have hc' : Calls Try.prog 28 #[.slice (some ⟨w1.heap.size, 0, none⟩) 0 1, .slice (some ⟨b, o, none⟩) 0 0] w2 fun e w' => e = .returned (.slice (some ⟨w1.heap.size, 0, none⟩) (0 + 2 * 0) 1) ∧ OwnB w.heap.size w' (.slice (some ⟨w1.heap.size, 0, none⟩) (0 + 2 * 0) 1) ([] ++ ofL Y) ∧ w2.grownBy w' (some w1.heap.size) := hc
    clear hc
    with_reducible refine hc'.mono ?_
    rintro e w4 ⟨rfl, ho4, hg4⟩
    have HO : Hid (OwnB w.heap.size w4 _ ([] ++ ofL Y) ∧ Below w.heap.size w w4) := ⟨ho4, H3.out.2.grown hg4 H3.out.2.size (fun k hk => by have := Option.some.inj hk; have := hb.size; omega)⟩
    clear hc' ho4 hg4 H3 ha' hz'
    go_wp2
    simp [bodyPost, results, Try.results14, go_sem]
    exact ⟨_, ⟨rfl, by decide⟩, HO.out⟩)
set_option maxRecDepth 100000 in
set_option maxHeartbeats 8000000 in
theorem unp_odd {b o c m : Nat} {d f : Int} {Y : List Int} {t : Bool} (hY : Bys Y) (hm : Y.length = m) (hl : m < 140737488355320) (hcc : m + 1 ≤ c) (hc1 : ¬ c = 1) (h0 : 0 ≤ d) (h1 : d < 256) (hd : d / 16 = if t then 3 else 1) (hf : d % 16 = f) (w : World) (g0 : w.cell? ⟨b, o, none⟩ = some (.int .u8 d)) (hz : Bz w b (o + 1) Y) :
    Calls Try.prog 14 #[.slice (some ⟨b, o, none⟩) (m + 1) c] w fun e w' => ∃ v, e = .returned (.tuple #[v, .bool t, .int .i64 0]) ∧ OwnB w.heap.size w' v ([f] ++ ofL Y) ∧ Below w.heap.size w w' := by
  obtain ⟨i0, hi, hz0, hz1, hz2⟩ := info_parts info_byte
  have a15 := and15 h0 h1
  have hW : Hid (wrap64 (wrap64 (2 * ((m : Int) + 1)) - 1) = ((2 * m + 1 : Nat) : Int) ∧ m < 140737488355320) := by
    refine ⟨?_, hl⟩
    rw [wrap64_small (n := 2 * ((m : Int) + 1)) (by omega) (by omega), wrap64_small (by omega) (by omega)]
    omega
  have HA : Hid (Bys Y ∧ Y.length = m ∧ Bz w b (o + 1) Y ∧ m + 1 ≤ c) := ⟨hY, hm, hz, hcc⟩
  clear hY hm hz hl hcc
  have gG := fun k os => cell_regrown g0 k os
  cases t
  all_goals (
    simp only [if_true, if_false, Bool.false_eq_true] at hd
    go_enter Try.func14, Try.ntmps14
    go_wp2_with fail
    refine wp_region_quiet_below (by kernel_rfl) (by kernel_rfl) ?_
    repeat (first | go_big_quiet_skip | (go_big_quiet_want; go_big_quiet_op; go_big_quiet_on))
    refine wpQuiet_nil ?_
    rintro w1 ⟨p, rfl⟩
    have hb := below_regrown w p.d p.os
    generalize grow (redrawn w p.d) p.os = w1 at *
    (try rw [hd])
    (try rw [hf])
    clear gG g0 a15
    go_wp2_with (first | (at_make; refine wpList_make_cap _ rfl _ _ 22 rfl 5 i0 (.int .u8 0) Try.underlying22 hi hz0 hz1 rfl hz2 .i64 .i64 _ _ 0 (2 * m + 1) rfl rfl rfl (by first | exact hW.out.1 | decide) (Nat.zero_le _) (by have := hW.out.2; omega) ?_; refine wpList_world (fun W => OwnB w.heap.size W (.slice (some ⟨w1.heap.size, 0, none⟩) 0 (2 * m + 1)) [] ∧ Below w.heap.size w W ∧ w1.heap.size < W.heap.size) ⟨made_own _ _ hb.size (by have := hW.out.2; omega), hb.alloc hb.size _, by simp⟩ ?_; intro w2 h2; have H2 : Hid _ := h2; clear h2) | (at_builtin; go_loud (refine wpList_append_fits _ rfl _ _ 22 rfl w.heap.size 5 i0 1 Try.underlying22 hi hz1 w1.heap.size 0 (2 * m + 1) [] rfl (H2.out.1.alloc _).row ⟨w2.heap.size, 0, none⟩ 1 1 [_] rfl rfl (cell_one_new _ _ _) (fun u hu => by simp at hu; subst hu; rfl) (by omega) ?_); intro w3 hown' hgrow3))
    have H3 : Hid (OwnB w.heap.size w3 (.slice (some ⟨w1.heap.size, 0, none⟩) 1 (2 * m + 1)) [f] ∧ Below w.heap.size w w3) := ⟨one_own hown', (H2.out.2.1.alloc H2.out.2.1.size _).grown hgrow3 (by have := H2.out.2.1.size; simp; omega) (fun k hk => by have := Option.some.inj hk; have := hb.size; omega)⟩
    clear hown' hgrow3
    obtain ⟨b', ne, ha', hz'⟩ := Az.far (a := some ⟨b, (o + 1), none⟩) (g := w1.heap.size) (o := o + 1) (b := b) (X := Y) (w := w) (.inr rfl) HA.out.2.2.1 hb.size
    have hc := split_any (R := [f]) (g := w1.heap.size) (cap := (2 * m + 1)) (c := (c - 1)) (B := w.heap.size) (b := b') (o := o + 1) (a := some ⟨b, (o + 1), none⟩) HA.out.1 (by rw [HA.out.2.1]; have := hW.out.2; omega) (by rw [HA.out.2.1]; simp; omega) ha' w3 (hz' _ (HA.out.2.2.1.keep H3.out.2)) ne H3.out.1
    rw [HA.out.2.1] at hc
    have hc' : Calls Try.prog 28 #[.slice (some ⟨w1.heap.size, 0, none⟩) 1 (2 * m + 1), .slice (some ⟨b, (o + 1), none⟩) m (c - 1)] w3 fun e w' => e = .returned (.slice (some ⟨w1.heap.size, 0, none⟩) (1 + 2 * m) (2 * m + 1)) ∧ OwnB w.heap.size w' (.slice (some ⟨w1.heap.size, 0, none⟩) (1 + 2 * m) (2 * m + 1)) ([f] ++ ofL Y) ∧ w3.grownBy w' (some w1.heap.size) := hc
    clear hc
    with_reducible refine hc'.mono ?_
    rintro e w4 ⟨rfl, ho4, hg4⟩
    have HO : Hid (OwnB w.heap.size w4 _ ([f] ++ ofL Y) ∧ Below w.heap.size w w4) := ⟨ho4, H3.out.2.grown hg4 H3.out.2.size (fun k hk => by have := Option.some.inj hk; have := hb.size; omega)⟩
    clear hc' ho4 hg4 H3 ha' hz'
    go_wp2
    simp [bodyPost, results, Try.results14, go_sem]
    exact ⟨_, ⟨rfl, by decide⟩, HO.out⟩)
set_option maxRecDepth 100000 in
set_option maxHeartbeats 8000000 in
theorem unp_od1 {b o : Nat} {d f : Int} {Y : List Int} {t : Bool} (hY : Bys Y) (hm : Y.length = 0) (h0 : 0 ≤ d) (h1 : d < 256) (hd : d / 16 = if t then 3 else 1) (hf : d % 16 = f) (w : World) (g0 : w.cell? ⟨b, o, none⟩ = some (.int .u8 d)) (hz : Bz w b (o + 1) Y) :
    Calls Try.prog 14 #[.slice (some ⟨b, o, none⟩) 1 1] w fun e w' => ∃ v, e = .returned (.tuple #[v, .bool t, .int .i64 0]) ∧ OwnB w.heap.size w' v ([f] ++ ofL Y) ∧ Below w.heap.size w w' := by
  obtain ⟨i0, hi, hz0, hz1, hz2⟩ := info_parts info_byte
  have a15 := and15 h0 h1
  have hW : Hid (True ∧ 0 < 140737488355320) := by
    refine ⟨?_, by decide⟩
    trivial
  have HA : Hid (Bys Y ∧ Y.length = 0 ∧ Bz w b (o + 1) Y) := ⟨hY, hm, hz⟩
  clear hY hm hz
  have gG := fun k os => cell_regrown g0 k os
  cases t
  all_goals (
    simp only [if_true, if_false, Bool.false_eq_true] at hd
    go_enter Try.func14, Try.ntmps14
    go_wp2_with fail
    refine wp_region_quiet_below (by kernel_rfl) (by kernel_rfl) ?_
    repeat (first | go_big_quiet_skip | (go_big_quiet_want; go_big_quiet_op; go_big_quiet_on))
    refine wpQuiet_nil ?_
    rintro w1 ⟨p, rfl⟩
    have hb := below_regrown w p.d p.os
    generalize grow (redrawn w p.d) p.os = w1 at *
    (try rw [hd])
    (try rw [hf])
    clear gG g0 a15
    go_wp2_with (first | (at_make; refine wpList_make_cap _ rfl _ _ 22 rfl 5 i0 (.int .u8 0) Try.underlying22 hi hz0 hz1 rfl hz2 .i64 .i64 _ _ 0 1 rfl rfl rfl (by first | exact hW.out.1 | decide) (Nat.zero_le _) (by have := hW.out.2; omega) ?_; refine wpList_world (fun W => OwnB w.heap.size W (.slice (some ⟨w1.heap.size, 0, none⟩) 0 1) [] ∧ Below w.heap.size w W ∧ w1.heap.size < W.heap.size) ⟨made_own _ _ hb.size (by have := hW.out.2; omega), hb.alloc hb.size _, by simp⟩ ?_; intro w2 h2; have H2 : Hid _ := h2; clear h2) | (at_builtin; go_loud (refine wpList_append_fits _ rfl _ _ 22 rfl w.heap.size 5 i0 1 Try.underlying22 hi hz1 w1.heap.size 0 1 [] rfl (H2.out.1.alloc _).row ⟨w2.heap.size, 0, none⟩ 1 1 [_] rfl rfl (cell_one_new _ _ _) (fun u hu => by simp at hu; subst hu; rfl) (by omega) ?_); intro w3 hown' hgrow3))
    have H3 : Hid (OwnB w.heap.size w3 (.slice (some ⟨w1.heap.size, 0, none⟩) 1 1) [f] ∧ Below w.heap.size w w3) := ⟨one_own hown', (H2.out.2.1.alloc H2.out.2.1.size _).grown hgrow3 (by have := H2.out.2.1.size; simp; omega) (fun k hk => by have := Option.some.inj hk; have := hb.size; omega)⟩
    clear hown' hgrow3
    obtain ⟨b', ne, ha', hz'⟩ := Az.far (a := some ⟨b, o, none⟩) (g := w1.heap.size) (o := o + 1) (b := b) (X := Y) (w := w) (.inl (List.eq_nil_of_length_eq_zero HA.out.2.1)) HA.out.2.2 hb.size
    have hc := split_any (R := [f]) (g := w1.heap.size) (cap := 1) (c := 0) (B := w.heap.size) (b := b') (o := o + 1) (a := some ⟨b, o, none⟩) HA.out.1 (by rw [HA.out.2.1]; have := hW.out.2; omega) (by rw [HA.out.2.1]; simp) ha' w3 (hz' _ (HA.out.2.2.keep H3.out.2)) ne H3.out.1
    rw [HA.out.2.1] at hc
    have hc' : Calls Try.prog 28 #[.slice (some ⟨w1.heap.size, 0, none⟩) 1 1, .slice (some ⟨b, o, none⟩) 0 0] w3 fun e w' => e = .returned (.slice (some ⟨w1.heap.size, 0, none⟩) (1 + 2 * 0) 1) ∧ OwnB w.heap.size w' (.slice (some ⟨w1.heap.size, 0, none⟩) (1 + 2 * 0) 1) ([f] ++ ofL Y) ∧ w3.grownBy w' (some w1.heap.size) := hc
    clear hc
    with_reducible refine hc'.mono ?_
    rintro e w4 ⟨rfl, ho4, hg4⟩
    have HO : Hid (OwnB w.heap.size w4 _ ([f] ++ ofL Y) ∧ Below w.heap.size w w4) := ⟨ho4, H3.out.2.grown hg4 H3.out.2.size (fun k hk => by have := Option.some.inj hk; have := hb.size; omega)⟩
    clear hc' ho4 hg4 H3 ha' hz'
    go_wp2
    simp [bodyPost, results, Try.results14, go_sem]
    exact ⟨_, ⟨rfl, by decide⟩, HO.out⟩)
theorem unp_any {b o c : Nat} {a : Option Addr} {D : List Int} (hD : Bys D) (hl : D.length < 140737488355320) (hcc : D.length ≤ c) (ha : Az a b o D) (w : World) (hz : Bz w b o D) :
    Calls Try.prog 14 #[.slice a D.length c] w fun e w' => ∃ v, e = .returned (.tuple #[v, .bool (unpM D), .int .i64 (unpE D)]) ∧ OwnB w.heap.size w' v (unpX D) ∧ Below w.heap.size w w' := by
  unfold unpM unpE unpX
  cases D with
  | nil =>
    have ne : ¬ okU [] := fun h => h.1 rfl
    rw [if_neg ne, if_neg ne, decide_eq_false (fun h => ne h.1)]
    exact (unp_nil w).mono fun e w' ⟨h1, h2⟩ => ⟨_, h1, OwnB.nil _ _, by rw [h2]; exact Below.refl _ _⟩
  | cons d Y =>
    obtain rfl := ha.cons (by simp)
    obtain ⟨h0, h1⟩ := hD d (by simp)
    have g0 : w.cell? ⟨b, o, none⟩ = some (.int .u8 d) := by have := hz 0 (by simp); simpa using this
    have hY : Bys Y := fun x hx => hD x (by simp [hx])
    have hz1 : Bz w b (o + 1) Y := by have := hz.drop (n := 1); simpa using this
    have e0 : (d :: Y).getD 0 0 = d := rfl
    have e1 : (d :: Y).drop 1 = Y := rfl
    simp only [List.length_cons] at hl hcc ⊢
    unfold unpR
    rw [e0, e1]
    by_cases ok : okU (d :: Y)
    · have ok2 := ok.2
      rw [e0] at ok2
      rw [if_pos ok, if_pos ok]
      have em : ∀ t : Bool, (t = true ↔ 32 ≤ d) → decide (okU (d :: Y) ∧ 32 ≤ d) = t := fun t ht => by
        cases t
        · exact decide_eq_false (fun h => by have := ht.2 h.2; cases this)
        · exact decide_eq_true ⟨ok, ht.1 rfl⟩
      by_cases ho : d / 16 % 2 = 1
      · rw [if_pos ho, em (decide (32 ≤ d)) (by simp)]
        have hd : d / 16 = if decide (32 ≤ d) = true then 3 else 1 := by
          by_cases h : 32 ≤ d <;> simp [h] <;> omega
        by_cases c1 : c = 1
        · have hm : Y.length = 0 := by omega
          subst c1
          rw [hm]
          exact unp_od1 hY hm h0 h1 hd rfl w g0 hz1
        · exact unp_odd hY rfl (by omega) hcc c1 h0 h1 hd rfl w g0 hz1
      · rw [if_neg ho, em (decide (32 ≤ d)) (by simp)]
        have hd : d / 16 = if decide (32 ≤ d) = true then 2 else 0 := by
          by_cases h : 32 ≤ d <;> simp [h] <;> omega
        by_cases c1 : c = 1
        · have hm : Y.length = 0 := by omega
          subst c1
          rw [hm]
          exact unp_ev1 hY hm h0 h1 hd (by omega) w g0 hz1
        · exact unp_evn hY rfl (by omega) hcc c1 h0 h1 hd (by omega) w g0 hz1
    · rw [if_neg ok, if_neg ok, decide_eq_false (fun h => ok h.1)]
      have hb : ¬ (d = 0 ∨ d = 32 ∨ (16 ≤ d ∧ d < 32) ∨ (48 ≤ d ∧ d < 64)) := fun h => ok ⟨by simp, h⟩
      exact (unp_bad h0 h1 hb (by omega) w g0).mono fun e w' ⟨q1, q2⟩ => ⟨_, q1, OwnB.nil _ _, q2⟩
theorem num_any (E : Int) (w : World) : Calls Try.prog 16 #[.int .i64 E] w fun e w' => e = .returned (.int .i64 E) ∧ w' = w := by
  go_enter Try.func16, Try.ntmps16
  go_wp2
  go_ret
  exact ⟨by simp, rfl⟩
/-- Each byte modulo 16. -/
def modL (X : List Int) : List Int := X.map (· % 16)
theorem modL_len (X : List Int) : (modL X).length = X.length := by simp [modL]
theorem modL_row (X : List Int) : ∀ x ∈ modL X, 0 ≤ x ∧ x ≤ 15 := fun x hx => by
  obtain ⟨y, _, rfl⟩ := List.mem_map.1 hx
  exact ⟨by omega, by omega⟩
theorem modL_bys (X : List Int) : Bys (modL X) := fun x hx => by have := modL_row X x hx; omega
theorem modL_rowB (X : List Int) : rowB (modL X) = true := (rowB_iff (modL_bys X)).2 (modL_row X)
theorem made_full {w : World} (n : Nat) (hn : n ≤ 281474976710656) : OwnB w.heap.size (w.alloc (.cells (madeCells #[Value.int .u8 0] n) 5)) (.slice (some ⟨w.heap.size, 0, none⟩) n n) (List.replicate n 0) := by
  have := World.ownsRow_lit (base := w.heap.size) (e := 5) (size := 1) w (madeCells #[Value.int .u8 0] n) n (Nat.le_refl _) (by unfold maxLen; omega) (by rw [made_bytes]; simp)
  rw [OwnB, List.length_replicate, List.map_replicate]
  rw [made_bytes] at this ⊢
  exact this
set_option maxRecDepth 100000 in
set_option maxHeartbeats 4000000 in
theorem lrow_any {b o c : Nat} {a : Option Addr} {X : List Int} (hX : Bys X) (hl : X.length < 140737488355328) (ha : Az a b o X) (w : World) (hz : Bz w b o X) :
    Calls Try.prog 20 #[.slice a X.length c] w fun e w' => ∃ v, e = .returned v ∧ OwnB w.heap.size w' v (modL X) ∧ Below w.heap.size w w' := by
  obtain ⟨i0, hi, hz0, hz1, hz2⟩ := info_parts info_byte
  have HA : Hid (X.length < 140737488355328 ∧ Az a b o X ∧ Bz w b o X ∧ Bys X) := ⟨hl, ha, hz, hX⟩
  have l1 : (X.length : Int) < 140737488355328 := by omega
  have hp : Hid ((modL X).length = (List.replicate X.length (0 : Int)).length) := by show _ = _; rw [modL_len, List.length_replicate]
  clear hl ha hz hX
  go_enter Try.func20, Try.ntmps20
  go_wp2_with (at_make; refine wpList_make_cap _ rfl _ _ 22 rfl 5 i0 (.int .u8 0) Try.underlying22 hi hz0 hz1 rfl hz2 .i64 .i64 _ _ X.length X.length rfl rfl (by omega) (by omega) (Nat.le_refl _) (by have := HA.out.1; omega) ?_; refine wpList_world (fun W => OwnB w.heap.size W (.slice (some ⟨w.heap.size, 0, none⟩) X.length X.length) (List.replicate X.length 0) ∧ Below w.heap.size w W) ⟨made_full _ (by have := HA.out.1; omega), (Below.refl _ _).alloc (Nat.le_refl _) _⟩ ?_; intro w1 h1; have H1 : Hid _ := h1; clear h1)
  go_loopg [4] X.length (fun k iv wr => ∃ i : Nat, k = X.length - i ∧ i ≤ X.length ∧ iv = .int .i64 (i : Int) ∧ OwnB w.heap.size wr (.slice (some ⟨w.heap.size, 0, none⟩) X.length X.length) (partw (modL X) (List.replicate X.length 0) i) ∧ Below w.heap.size w wr)
  case atStart => exact ⟨0, rfl, Nat.zero_le _, rfl, by rw [partw_zero]; exact H1.out.1, H1.out.2⟩
  case round =>
    clear H1
    obtain ⟨i, hk, hi9, rfl, hO, B⟩ := hrel
    have HK : Hid (gk = X.length - i) := hk
    have HF : Hid (OwnB w.heap.size wr (.slice (some ⟨w.heap.size, 0, none⟩) X.length X.length) (partw (modL X) (List.replicate X.length 0) i) ∧ Below w.heap.size w wr) := ⟨hO, B⟩
    clear hk hO B
    by_cases h8 : i = X.length
    · subst h8
      have HT : Hid (partw (modL X) (List.replicate X.length 0) X.length = modL X) := by
        have := partw_all hp.out
        rw [List.length_replicate] at this
        exact this
      rw [HT.out] at HF
      go_wp2
      simp [bodyPost, results, Try.results20, go_sem]
      exact HF.out
    · have hlt : i < X.length := by omega
      have hlt' : (i : Int) < (X.length : Int) := by omega
      obtain rfl := HA.out.2.1.cons (by omega)
      have gx := HA.out.2.2.1.keep HF.out.2 i hlt
      obtain ⟨x0, x1⟩ := HA.out.2.2.2.at i
      have lp : (partw (modL X) (List.replicate X.length 0) i).length = X.length := by rw [partw_len hp.out, List.length_replicate]
      have cQ := HF.out.1.cell lp hlt
      have fQ := HF.out.1.free lp i
      have HS := HF.out.1.set lp i (X.getD i 0 % 16)
      have e1 : (modL X).getD i 0 = X.getD i 0 % 16 := by simp [modL, List.getD, hlt]
      rw [← e1, partw_set hp.out (by rw [List.length_replicate]; exact hlt), e1] at HS
      have HS' : Hid _ := HS
      clear HS lp e1
      generalize X.getD i 0 = x at *
      generalize (partw (modL X) (List.replicate X.length 0) i).getD i 0 = y at *
      go_wp2
      go_roundg (X.length - (i + 1))
      case measure => have := HK.out; omega
      case rel => exact ⟨i + 1, rfl, by omega, by go_num, HS'.out.1, HF.out.2.grown HS'.out.2 HF.out.2.size (fun k hk => by have := Option.some.inj hk; omega)⟩
end Go.Proofs.Ytpapgpkpafdkiaa
