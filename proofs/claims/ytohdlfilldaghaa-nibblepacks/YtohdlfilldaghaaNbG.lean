import Derived.Test.YtohdlfilldaghaaNbF
/- Layer 11: Pack. -/
namespace Go.Proofs.Ytohdlfilldaghaa
open Go.RowKit Go.Sort

/-- The packed form. -/
def packH (X : List Int) (t : Bool) : Int := (if t then 32 else 0) + (if X.length % 2 = 1 then 16 + X.getD 0 0 else 0)
def packR (X : List Int) : List Int := X.drop (X.length % 2)
def packL (X : List Int) (t : Bool) : List Int := packH X t :: joinL (packR X)
def packX (X : List Int) (t : Bool) : List Int := if rowB X = true then packL X t else []
def packE (X : List Int) : Int := if rowB X = true then 0 else 110
theorem or_head {x : Int} (h0 : 0 ≤ x) (h1 : x ≤ 15) : bits .or .u8 16 x = 16 + x ∧ bits .or .u8 0 (16 + x) = 16 + x ∧ bits .or .u8 32 (16 + x) = 48 + x := by
  have h : ∀ n : Fin 16, bits .or .u8 16 (n.val : Int) = 16 + (n.val : Int) ∧ bits .or .u8 0 (16 + (n.val : Int)) = 16 + (n.val : Int) ∧ bits .or .u8 32 (16 + (n.val : Int)) = 48 + (n.val : Int) := by decide +kernel
  obtain ⟨n, rfl⟩ := Int.eq_ofNat_of_zero_le h0
  exact h ⟨n, by omega⟩
theorem wrap64_small {n : Int} (h0 : 0 ≤ n) (h1 : n < 9223372036854775808) : wrap64 n = n := by unfold wrap64; omega
theorem one_own {B : Nat} {w : World} {v : Value} {x : Int} (h : w.ownsRow B 5 1 v 1 [.int .u8 x]) : OwnB B w v [x] := h
set_option maxRecDepth 100000 in
set_option maxHeartbeats 8000000 in
theorem pack_even {b o c : Nat} {a : Option Addr} {X : List Int} {t : Bool} (hl : X.length < 281474976710600) (hr : rowB X = true) (hR : ∀ x ∈ X, 0 ≤ x ∧ x ≤ 15) (he : X.length % 2 = 0) (ha : Az a b o X) (w : World) (hz : Bz w b o X) :
    Calls Try.prog 5 #[.slice a X.length c, .bool t] w fun e w' => ∃ v, e = .returned (.tuple #[v, .int .i64 0]) ∧ OwnB w.heap.size w' v ((if t then 32 else 0) :: joinL X) ∧ Below w.heap.size w w' := by
  have ho := odd_any (a := a) (n := X.length) (c := c) (by omega)
  rw [decide_eq_false (by omega)] at ho
  have hw := row_any (c := c) (by omega) ha w hz
  rw [hr] at hw
  have o1 : bits .or .u8 0 32 = 32 := by decide
  obtain ⟨i0, hi, hz0, hz1, hz2⟩ := info_parts info_byte
  have l1 : (X.length : Int) < 281474976710600 := by omega
  have HA : Hid (X.length < 281474976710600 ∧ Az a b o X ∧ Bz w b o X ∧ (∀ x ∈ X, 0 ≤ x ∧ x ≤ 15) ∧ X.length % 2 = 0) := ⟨hl, ha, hz, hR, he⟩
  clear hl ha hz hR he hr
  cases t
  all_goals (
    go_enter Try.func5, Try.ntmps5
    go_wp2_with (first | ((with_reducible refine (ho _).mono ?_); rintro e1 w9 ⟨rfl, hw9⟩; (rw [hw9]); (clear hw9 w9)) | ((with_reducible refine hw.mono ?_); rintro e1 w9 ⟨rfl, hw9⟩; (rw [hw9]); (clear hw9 w9)) | (at_make; refine wpList_make_cap _ rfl _ _ 22 rfl 5 i0 (.int .u8 0) Try.underlying22 hi hz0 hz1 rfl hz2 .i64 .i64 _ _ 0 (1 + X.length / 2) rfl rfl (by omega) (by omega) (Nat.zero_le _) (by have := HA.out.1; omega) ?_; refine wpList_world (fun W => OwnB w.heap.size W (.slice (some ⟨w.heap.size, 0, none⟩) 0 (1 + X.length / 2)) [] ∧ Below w.heap.size w W) ⟨made_own _ _ (Nat.le_refl _) (by have := HA.out.1; omega), (Below.refl _ _).alloc (Nat.le_refl _) _⟩ ?_; intro w1 h1; have H1 : Hid _ := h1; clear h1) | (at_builtin; go_loud (refine wpList_append_fits _ rfl _ _ 22 rfl w.heap.size 5 i0 1 Try.underlying22 hi hz1 w.heap.size 0 (1 + X.length / 2) [] rfl (H1.out.1.alloc _).row ⟨w1.heap.size, 0, none⟩ 1 1 [_] rfl rfl (cell_one_new _ _ _) (fun u hu => by simp at hu; subst hu; rfl) (by omega) ?_); intro w3 hown' hgrow3))
    have HO0 : Hid (OwnB w.heap.size w3 (.slice (some ⟨w.heap.size, 0, none⟩) 1 (1 + X.length / 2)) [_] ∧ Below w.heap.size w w3) := ⟨one_own hown', (H1.out.2.alloc H1.out.2.size _).grown hgrow3 (by have := H1.out.2.size; simp; omega) (fun k hk => by have := Option.some.inj hk; omega)⟩
    clear hown' hgrow3
    have hc := join_any (c := c) (B := w.heap.size) (b := b) (o := o) (a := a) HA.out.2.2.2.1 HA.out.2.2.2.2 (by have := HA.out.1; simp; omega) HA.out.2.1 (fun hx => by have := World.block_lt_of_cell? w _ (HA.out.2.2.1 0 (List.length_pos_iff.2 hx)); simpa using this) w3 HO0.out.2.size (HA.out.2.2.1.keep HO0.out.2) HO0.out.1
    with_reducible refine hc.mono ?_
    rintro e w2 ⟨v', rfl, ho2, hg⟩
    have HO : Hid (OwnB w.heap.size w2 v' _ ∧ Below w.heap.size w w2) := ⟨ho2, HO0.out.2.trans hg⟩
    clear hc ho2 hg H1 HO0 o1 l1
    go_wp2
    simp [bodyPost, results, Try.results5, go_sem]
    exact HO.out)
set_option maxRecDepth 100000 in
set_option maxHeartbeats 8000000 in
theorem pack_odd {b o c m : Nat} {a : Option Addr} {X : List Int} {t : Bool} (hl : X.length < 281474976710600) (hm : X.length = m + 1) (hcc : X.length ≤ c) (hc1 : ¬ c = 1) (hr : rowB X = true) (hR : ∀ x ∈ X, 0 ≤ x ∧ x ≤ 15) (he : X.length % 2 = 1) (ha : Az a b o X) (w : World) (hz : Bz w b o X) :
    Calls Try.prog 5 #[.slice a (m + 1) c, .bool t] w fun e w' => ∃ v, e = .returned (.tuple #[v, .int .i64 0]) ∧ OwnB w.heap.size w' v (((if t then 48 else 16) + X.getD 0 0) :: joinL (X.drop 1)) ∧ Below w.heap.size w w' := by
  have ho := odd_any (a := a) (n := X.length) (c := c) (by omega)
  rw [decide_eq_true (by omega)] at ho
  have hw := row_any (c := c) (by omega) ha w hz
  rw [hr] at hw
  rw [hm] at ho hw
  have o1 : bits .or .u8 0 32 = 32 := by decide
  obtain ⟨i0, hi, hz0, hz1, hz2⟩ := info_parts info_byte
  obtain rfl := ha.cons (by omega)
  have g0 := hz 0 (by omega)
  rw [Nat.add_zero] at g0
  have xx : 0 ≤ X.getD 0 0 ∧ X.getD 0 0 ≤ 15 := by
    rw [List.getD, List.getElem?_eq_getElem (by omega)]
    exact hR _ (List.getElem_mem _)
  obtain ⟨q1, q2, q3⟩ := or_head xx.1 xx.2
  have HA : Hid (X.length < 281474976710600 ∧ Bz w b (o + 1) (X.drop 1) ∧ (∀ x ∈ X.drop 1, 0 ≤ x ∧ x ≤ 15) ∧ (X.drop 1).length % 2 = 0 ∧ (X.drop 1).length = m ∧ X.length = m + 1 ∧ m + 1 ≤ c) := ⟨hl, hz.drop, fun x hx => hR x (List.mem_of_mem_drop hx), by rw [List.length_drop]; omega, by rw [List.length_drop]; omega, hm, by omega⟩
  obtain ⟨x, ex⟩ : ∃ x, x = X.getD 0 0 := ⟨_, rfl⟩
  rw [← ex] at g0 q1 q2 q3 ⊢
  have HQ : Hid (bits .or .u8 16 x = 16 + x ∧ bits .or .u8 0 (16 + x) = 16 + x ∧ bits .or .u8 32 (16 + x) = 48 + x ∧ bits .or .u8 0 32 = 32) := ⟨q1, q2, q3, o1⟩
  clear q1 q2 q3 o1
  clear hl ha hz hR he hr xx ex hm hcc
  have hW : Hid (wrap64 (1 + wrap64 ((m : Int) / 2)) = ((1 + m / 2 : Nat) : Int)) := by
    have hq : wrap64 (1 + wrap64 ((m : Int) / 2)) = ((1 + m / 2 : Nat) : Int) := by
      have := HA.out.1
      have := HA.out.2.2.2.2.2.1
      rw [wrap64_small (n := (m : Int) / 2) (by omega) (by omega), wrap64_small (by omega) (by omega)]
      omega
    exact hq
  cases t
  all_goals (
    go_enter Try.func5, Try.ntmps5
    go_wp2_with fail
    with_reducible refine hw.mono ?_
    rintro e1 w9 ⟨rfl, hw9⟩
    rw [hw9]
    clear hw9 w9
    go_wp2_with fail
    with_reducible refine (ho _).mono ?_
    rintro e1 w9 ⟨rfl, hw9⟩
    rw [hw9]
    clear hw9 w9 ho hw
    go_wp2_with (first | (at_make; refine wpList_make_cap _ rfl _ _ 22 rfl 5 i0 (.int .u8 0) Try.underlying22 hi hz0 hz1 rfl hz2 .i64 .i64 _ _ 0 (1 + m / 2) rfl rfl rfl (by first | exact hW.out | decide) (Nat.zero_le _) (by have := HA.out.1; have := HA.out.2.2.2.2.2.1; omega) ?_; refine wpList_world (fun W => OwnB w.heap.size W (.slice (some ⟨w.heap.size, 0, none⟩) 0 (1 + m / 2)) [] ∧ Below w.heap.size w W) ⟨made_own _ _ (Nat.le_refl _) (by have := HA.out.1; have := HA.out.2.2.2.2.2.1; omega), (Below.refl _ _).alloc (Nat.le_refl _) _⟩ ?_; intro w1 h1; have H1 : Hid _ := h1; clear h1) | (at_builtin; go_loud (refine wpList_append_fits _ rfl _ _ 22 rfl w.heap.size 5 i0 1 Try.underlying22 hi hz1 w.heap.size 0 (1 + m / 2) [] rfl (H1.out.1.alloc _).row ⟨w1.heap.size, 0, none⟩ 1 1 [_] rfl rfl (cell_one_new _ _ _) (fun u hu => by simp at hu; subst hu; rfl) (by omega) ?_); intro w3 hown' hgrow3))
    have HO0 : Hid (OwnB w.heap.size w3 (.slice (some ⟨w.heap.size, 0, none⟩) 1 (1 + m / 2)) [_] ∧ Below w.heap.size w w3) := ⟨one_own hown', (H1.out.2.alloc H1.out.2.size _).grown hgrow3 (by have := H1.out.2.size; simp; omega) (fun k hk => by have := Option.some.inj hk; omega)⟩
    clear hown' hgrow3
    have hc := join_any (R := X.drop 1) (c := c - 1) (B := w.heap.size) (b := b) (o := o + 1) (a := some ⟨b, o + 1, none⟩) HA.out.2.2.1 HA.out.2.2.2.1 (by have := HA.out.1; have := HA.out.2.2.2.2.2.1; rw [HA.out.2.2.2.2.1]; simp; omega) (.inr rfl) (fun hx => by have := World.block_lt_of_cell? w _ (HA.out.2.1 0 (List.length_pos_iff.2 hx)); simpa using this) w3 HO0.out.2.size (HA.out.2.1.keep HO0.out.2) HO0.out.1
    rw [HA.out.2.2.2.2.1] at hc
    with_reducible refine hc.mono ?_
    rintro e w2 ⟨v', rfl, ho2, hg⟩
    have HO : Hid (OwnB w.heap.size w2 v' _ ∧ Below w.heap.size w w2) := ⟨ho2, HO0.out.2.trans hg⟩
    clear hc ho2 hg H1 HO0
    go_wp2
    simp [bodyPost, results, Try.results5, go_sem]
    have h := HO.out
    simp only [HQ.out.1, HQ.out.2.1, HQ.out.2.2.1, HQ.out.2.2.2] at h
    rw [List.drop_one] at h
    exact h)
set_option maxRecDepth 100000 in
set_option maxHeartbeats 8000000 in
theorem pack_one {b o : Nat} {a : Option Addr} {X : List Int} {t : Bool} (hl : X.length < 281474976710600) (hm : X.length = 1) (hr : rowB X = true) (hR : ∀ x ∈ X, 0 ≤ x ∧ x ≤ 15) (he : X.length % 2 = 1) (ha : Az a b o X) (w : World) (hz : Bz w b o X) :
    Calls Try.prog 5 #[.slice a 1 1, .bool t] w fun e w' => ∃ v, e = .returned (.tuple #[v, .int .i64 0]) ∧ OwnB w.heap.size w' v (((if t then 48 else 16) + X.getD 0 0) :: joinL (X.drop 1)) ∧ Below w.heap.size w w' := by
  have ho := odd_any (a := a) (n := X.length) (c := 1) (by omega)
  rw [decide_eq_true (by omega)] at ho
  have hw := row_any (c := 1) (by omega) ha w hz
  rw [hr] at hw
  rw [hm] at ho hw
  have o1 : bits .or .u8 0 32 = 32 := by decide
  obtain ⟨i0, hi, hz0, hz1, hz2⟩ := info_parts info_byte
  obtain rfl := ha.cons (by omega)
  have g0 := hz 0 (by omega)
  rw [Nat.add_zero] at g0
  have xx : 0 ≤ X.getD 0 0 ∧ X.getD 0 0 ≤ 15 := by
    rw [List.getD, List.getElem?_eq_getElem (by omega)]
    exact hR _ (List.getElem_mem _)
  obtain ⟨q1, q2, q3⟩ := or_head xx.1 xx.2
  have HA : Hid (X.length < 281474976710600 ∧ Bz w b (o + 1) (X.drop 1) ∧ (∀ x ∈ X.drop 1, 0 ≤ x ∧ x ≤ 15) ∧ (X.drop 1).length % 2 = 0 ∧ (X.drop 1).length = 0 ∧ X.length = 1) := ⟨hl, hz.drop, fun x hx => hR x (List.mem_of_mem_drop hx), by rw [List.length_drop]; omega, by rw [List.length_drop]; omega, hm⟩
  obtain ⟨x, ex⟩ : ∃ x, x = X.getD 0 0 := ⟨_, rfl⟩
  rw [← ex] at g0 q1 q2 q3 ⊢
  have HQ : Hid (bits .or .u8 16 x = 16 + x ∧ bits .or .u8 0 (16 + x) = 16 + x ∧ bits .or .u8 32 (16 + x) = 48 + x ∧ bits .or .u8 0 32 = 32) := ⟨q1, q2, q3, o1⟩
  clear q1 q2 q3 o1
  clear hl ha hz hR he hr xx ex hm
  have hW : Hid True := trivial
  cases t
  all_goals (
    go_enter Try.func5, Try.ntmps5
    go_wp2_with fail
    with_reducible refine hw.mono ?_
    rintro e1 w9 ⟨rfl, hw9⟩
    rw [hw9]
    clear hw9 w9
    go_wp2_with fail
    with_reducible refine (ho _).mono ?_
    rintro e1 w9 ⟨rfl, hw9⟩
    rw [hw9]
    clear hw9 w9 ho hw
    go_wp2_with (first | (at_make; refine wpList_make_cap _ rfl _ _ 22 rfl 5 i0 (.int .u8 0) Try.underlying22 hi hz0 hz1 rfl hz2 .i64 .i64 _ _ 0 (1) rfl rfl rfl (by decide) (Nat.zero_le _) (by have := HA.out.1; omega) ?_; refine wpList_world (fun W => OwnB w.heap.size W (.slice (some ⟨w.heap.size, 0, none⟩) 0 (1)) [] ∧ Below w.heap.size w W) ⟨made_own _ _ (Nat.le_refl _) (by have := HA.out.1; omega), (Below.refl _ _).alloc (Nat.le_refl _) _⟩ ?_; intro w1 h1; have H1 : Hid _ := h1; clear h1) | (at_builtin; go_loud (refine wpList_append_fits _ rfl _ _ 22 rfl w.heap.size 5 i0 1 Try.underlying22 hi hz1 w.heap.size 0 (1) [] rfl (H1.out.1.alloc _).row ⟨w1.heap.size, 0, none⟩ 1 1 [_] rfl rfl (cell_one_new _ _ _) (fun u hu => by simp at hu; subst hu; rfl) (by omega) ?_); intro w3 hown' hgrow3))
    have HO0 : Hid (OwnB w.heap.size w3 (.slice (some ⟨w.heap.size, 0, none⟩) 1 (1)) [_] ∧ Below w.heap.size w w3) := ⟨one_own hown', (H1.out.2.alloc H1.out.2.size _).grown hgrow3 (by have := H1.out.2.size; simp; omega) (fun k hk => by have := Option.some.inj hk; omega)⟩
    clear hown' hgrow3
    have hc := join_any (R := X.drop 1) (c := 0) (B := w.heap.size) (b := b) (o := o + 1) (a := some ⟨b, o, none⟩) HA.out.2.2.1 HA.out.2.2.2.1 (by rw [HA.out.2.2.2.2.1]; simp) (.inl (List.eq_nil_of_length_eq_zero HA.out.2.2.2.2.1)) (fun hx => by have := World.block_lt_of_cell? w _ (HA.out.2.1 0 (List.length_pos_iff.2 hx)); simpa using this) w3 HO0.out.2.size (HA.out.2.1.keep HO0.out.2) HO0.out.1
    rw [HA.out.2.2.2.2.1] at hc
    with_reducible refine hc.mono ?_
    rintro e w2 ⟨v', rfl, ho2, hg⟩
    have HO : Hid (OwnB w.heap.size w2 v' _ ∧ Below w.heap.size w w2) := ⟨ho2, HO0.out.2.trans hg⟩
    clear hc ho2 hg H1 HO0
    go_wp2
    simp [bodyPost, results, Try.results5, go_sem]
    have h := HO.out
    simp only [HQ.out.1, HQ.out.2.1, HQ.out.2.2.1, HQ.out.2.2.2] at h
    rw [List.drop_one] at h
    exact h)
theorem pack_any {b o c : Nat} {a : Option Addr} {X : List Int} {t : Bool} (hX : Bys X) (hl : X.length < 281474976710600) (hcc : X.length ≤ c) (ha : Az a b o X) (w : World) (hz : Bz w b o X) :
    Calls Try.prog 5 #[.slice a X.length c, .bool t] w fun e w' => ∃ v, e = .returned (.tuple #[v, .int .i64 (packE X)]) ∧ OwnB w.heap.size w' v (packX X t) ∧ Below w.heap.size w w' := by
  unfold packE packX
  by_cases hr : rowB X = true
  · rw [if_pos hr, if_pos hr]
    have hR := (rowB_iff hX).1 hr
    unfold packL packH packR
    by_cases he : X.length % 2 = 1
    · rw [if_pos he, he]
      have e1 : (if t = true then 32 else 0) + (16 + X.getD 0 0) = (if t = true then 48 else 16) + X.getD 0 0 := by cases t <;> simp <;> omega
      rw [e1]
      by_cases hc1 : c = 1
      · have hm : X.length = 1 := by omega
        subst hc1
        have := pack_one (t := t) hl hm hr hR he ha w hz
        rw [hm]
        exact this
      · obtain ⟨m, hm⟩ : ∃ m, X.length = m + 1 := ⟨X.length - 1, by omega⟩
        have := pack_odd (t := t) hl hm hcc hc1 hr hR he ha w hz
        rw [hm]
        exact this
    · rw [if_neg he, show X.length % 2 = 0 by omega, List.drop_zero, Int.add_zero]
      exact pack_even hl hr hR (by omega) ha w hz
  · rw [if_neg hr, if_neg hr]
    have hw := row_any (c := c) (by omega) ha w hz
    rw [show rowB X = false by simpa using hr] at hw
    clear hl ha hz hX hr hcc
    go_enter Try.func5, Try.ntmps5
    go_wp2_with ((with_reducible refine hw.mono ?_); rintro e1 w9 ⟨rfl, hw9⟩; (rw [hw9]); (clear hw9 w9))
    simp [bodyPost, results, Try.results5, go_sem]
    exact ⟨OwnB.nil _ _, Below.refl _ _⟩
end Go.Proofs.Ytohdlfilldaghaa
