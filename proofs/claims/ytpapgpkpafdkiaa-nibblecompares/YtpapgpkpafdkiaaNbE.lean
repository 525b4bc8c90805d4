import Derived.Test.YtpapgpkpafdkiaaNbC
import Derived.Test.YtpapgpkpafdkiaaNbD
/- Layer 11: Compare of both, NibbleCompares. -/
namespace Go.Proofs.Ytpapgpkpafdkiaa
open Go.RowKit Go.Sort

theorem below_eq {w w' : World} (h : w' = w) : Below w.heap.size w w' := by rw [h]; exact Below.refl _ _
theorem natcast_ne {m n : Nat} (h : m ≠ n) : ¬ ((m : Int) = (n : Int)) := fun e => h (by omega)
set_option maxRecDepth 100000 in
set_option maxHeartbeats 4000000 in
theorem cmp_any {a a' : Option Addr} {b o c b' o' c' : Nat} {X Z : List Int} (hl : X.length < 281474976710656) (hl2 : Z.length < 281474976710656) (ha : Az a b o X) (ha' : Az a' b' o' Z) (w : World) (hz : Bz w b o X) (hz' : Bz w b' o' Z) :
    Calls Try.prog 26 #[.slice a X.length c, .slice a' Z.length c'] w fun e w' => e = .returned (.int .i64 (cmpI X Z)) ∧ Below w.heap.size w w' := by
  have hc := com_any (c := c) (c' := c') hl hl2 ha ha' w hz hz'
  have le := com_le X Z
  have ne := com_ne (X := X) (Z := Z)
  unfold cmpI
  have HH : Hid (Az a b o X ∧ Az a' b' o' Z) := ⟨ha, ha'⟩
  have KL : Hid (∀ W, Below w.heap.size w W → Bz W b o X ∧ Bz W b' o' Z) := fun W B => ⟨hz.keep B, hz'.keep B⟩
  clear hz hz' ha ha'
  generalize comN X Z = m at *
  have n1 : (X.length : Int) < 281474976710656 := by omega
  have n2 : (Z.length : Int) < 281474976710656 := by omega
  by_cases e1 : m = X.length
  · rw [if_pos (.inl e1)]
    subst e1
    have hi := cmp_int (X.length : Int) (Z.length : Int)
    clear ne le
    go_enter Try.func26, Try.ntmps26
    go_wp2_with (first | ((with_reducible refine hc.mono ?_); rintro e1 w1 ⟨rfl, B⟩) | ((with_reducible refine (hi _).mono ?_); rintro e1 w9 ⟨rfl, hw9⟩; (rw [hw9]); (clear hw9 w9)))
    simp [bodyPost, results, Try.results26, go_sem]
    exact B
  · by_cases e2 : m = Z.length
    · rw [if_pos (.inr e2)]
      subst e2
      have e1' : ¬ ((Z.length : Int) = (X.length : Int)) := natcast_ne e1
      have hi := cmp_int (X.length : Int) (Z.length : Int)
      clear ne le
      go_enter Try.func26, Try.ntmps26
      go_wp2_with (first | ((with_reducible refine hc.mono ?_); rintro e1 w1 ⟨rfl, B⟩) | ((with_reducible refine (hi _).mono ?_); rintro e1 w9 ⟨rfl, hw9⟩; (rw [hw9]); (clear hw9 w9)))
      simp [bodyPost, results, Try.results26, go_sem]
      exact B
    · rw [if_neg (by omega)]
      have k1 : m < X.length := by omega
      have k2 : m < Z.length := by omega
      have KK : Hid (m < X.length ∧ m < Z.length) := ⟨k1, k2⟩
      have e1' : ((m : Int) == (X.length : Int)) = false := beq_eq_false_iff_ne.2 (natcast_ne e1)
      have e2' : ((m : Int) == (Z.length : Int)) = false := beq_eq_false_iff_ne.2 (natcast_ne e2)
      have hi0 := cmp_byte (X.getD m 0) (Z.getD m 0)
      have hi : ∀ w, Calls Try.prog 34 #[.int .u8 (X.getD m 0), .int .u8 (Z.getD m 0)] w fun e w' => e = .returned (.int .i64 (sgn (X.getD m 0) (Z.getD m 0))) ∧ Below w.heap.size w w' := fun w => (hi0 w).mono fun e w' ⟨h1, h2⟩ => ⟨h1, below_eq h2⟩
      obtain rfl := HH.out.1.cons (by omega)
      obtain rfl := HH.out.2.cons (by omega)
      clear ne le hi0 k1 k2 e1 e2
      obtain ⟨x, ex⟩ : ∃ x, x = X.getD m 0 := ⟨_, rfl⟩
      obtain ⟨z, ez⟩ : ∃ z, z = Z.getD m 0 := ⟨_, rfl⟩
      rw [← ex, ← ez] at hi ⊢
      have HX : Hid (X.getD m 0 = x ∧ Z.getD m 0 = z) := ⟨ex.symm, ez.symm⟩
      clear ex ez
      go_enter Try.func26, Try.ntmps26
      go_wp2_with ((with_reducible refine hc.mono ?_); rintro e1 w1 ⟨rfl, B⟩)
      obtain ⟨g1, g2⟩ := KL.out w1 B
      have c1 := g1 m KK.out.1
      have c2 := g2 m KK.out.2
      clear g1 g2 e1' e2'
      have k1' : (m : Int) < (X.length : Int) := by have := KK.out.1; omega
      have k2' : (m : Int) < (Z.length : Int) := by have := KK.out.2; omega
      rw [HX.out.1] at c1
      rw [HX.out.2] at c2
      have gG := fun d os => cell_regrown c1 d os
      have gX := fun d os => cell_regrown c2 d os
      refine wp_region_quiet_below (by kernel_rfl) (by kernel_rfl) ?_
      repeat
        first
          | go_big_quiet_skip
          | (go_big_quiet_want; go_big_quiet_op; go_big_quiet_on)
          | (go_big_quiet_want
             go_big_quiet_op
             apply Exists.intro
             refine ⟨fun p => ?_, ?_⟩
             · (go_at_call 34; with_reducible exact Calls.regrown_of (hi _))
             go_big_quiet_on)
      refine wpQuiet_nil ?_
      rintro w2 ⟨p, rfl⟩
      have hb := below_regrown w1 p.d p.os
      generalize grow (redrawn w1 p.d) p.os = w2 at *
      have H1 : Hid (Below w.heap.size w w2) := B.trans (hb.mono B.size)
      clear hb B c1 c2 gG gX
      go_wp2
      simp [bodyPost, results, Try.results26, go_sem]
      exact H1.out
theorem Common_any {a a' : Option Addr} {b o c b' o' c' : Nat} {X Z : List Int} (hl : X.length < 281474976710656) (hl2 : Z.length < 281474976710656) (ha : Az a b o X) (ha' : Az a' b' o' Z) (w : World) (hz : Bz w b o X) (hz' : Bz w b' o' Z) :
    Calls Try.prog 11 #[.slice a X.length c, .slice a' Z.length c'] w fun e w' => e = .returned (.int .i64 (comN X Z : Int)) ∧ Below w.heap.size w w' := by
  have hc := com_any (c := c) (c' := c') hl hl2 ha ha' w hz hz'
  go_enter Try.func11, Try.ntmps11
  go_wp2_with ((with_reducible refine hc.mono ?_); rintro e1 w1 ⟨rfl, B⟩)
  simp [bodyPost, results, Try.results11, go_sem]
  exact B
theorem Compare_any {a a' : Option Addr} {b o c b' o' c' : Nat} {X Z : List Int} (hl : X.length < 281474976710656) (hl2 : Z.length < 281474976710656) (ha : Az a b o X) (ha' : Az a' b' o' Z) (w : World) (hz : Bz w b o X) (hz' : Bz w b' o' Z) :
    Calls Try.prog 9 #[.slice a X.length c, .slice a' Z.length c'] w fun e w' => e = .returned (.int .i64 (cmpI X Z)) ∧ Below w.heap.size w w' := by
  have hc := cmp_any (c := c) (c' := c') hl hl2 ha ha' w hz hz'
  go_enter Try.func9, Try.ntmps9
  go_wp2_with ((with_reducible refine hc.mono ?_); rintro e1 w1 ⟨rfl, B⟩)
  simp [bodyPost, results, Try.results9, go_sem]
  exact B
theorem sgn_lt {x y : Int} (h : x < y) : sgn x y = -1 := by simp [sgn, h]
theorem sgn_gt {x y : Int} (h : y < x) : sgn x y = 1 := by simp [sgn, h, show ¬ x < y by omega]
theorem sgn_eq (x : Int) : sgn x x = 0 := by simp [sgn]
set_option maxRecDepth 100000 in
set_option maxHeartbeats 4000000 in
theorem rcmp_any {a a' : Option Addr} {b o c b' o' c' : Nat} {X Z : List Int} (hl : X.length < 281474976710656) (hl2 : Z.length < 281474976710656) (ha : Az a b o X) (ha' : Az a' b' o' Z) (w : World) (hz : Bz w b o X) (hz' : Bz w b' o' Z) :
    Calls Try.prog 23 #[.slice a X.length c, .slice a' Z.length c'] w fun e w' => e = .returned (.int .i64 (cmpI X Z)) ∧ Below w.heap.size w w' := by
  have hc := rcom_any (c := c) (c' := c') hl hl2 ha ha' w hz hz'
  have le := com_le X Z
  have ne := com_ne (X := X) (Z := Z)
  unfold cmpI
  have HH : Hid (Az a b o X ∧ Az a' b' o' Z) := ⟨ha, ha'⟩
  have KL : Hid (∀ W, Below w.heap.size w W → Bz W b o X ∧ Bz W b' o' Z) := fun W B => ⟨hz.keep B, hz'.keep B⟩
  clear hz hz' ha ha'
  generalize comN X Z = m at *
  have n1 : (X.length : Int) < 281474976710656 := by omega
  have n2 : (Z.length : Int) < 281474976710656 := by omega
  by_cases e1 : m = X.length
  · rw [if_pos (.inl e1)]
    by_cases e2 : m = Z.length
    · rw [← e1, ← e2, sgn_eq]
      clear ne le KL HH n1 n2
      go_enter Try.func23, Try.ntmps23
      rw [← e1, ← e2] at hc
      clear hl hl2 e1 e2
      go_wp2_with ((with_reducible refine hc.mono ?_); rintro e1 w1 ⟨rfl, B⟩)
      simp [bodyPost, results, Try.results23, go_sem]
      exact B
    · subst e1
      rw [sgn_lt (by omega)]
      have e2' : ((X.length : Int) == (Z.length : Int)) = false := beq_eq_false_iff_ne.2 (natcast_ne e2)
      clear ne le e2 KL HH
      go_enter Try.func23, Try.ntmps23
      go_wp2_with ((with_reducible refine hc.mono ?_); rintro e1 w1 ⟨rfl, B⟩)
      clear hc hl hl2
      refine wp_region_quiet_below (by kernel_rfl) (by kernel_rfl) ?_
      repeat (first | go_big_quiet_skip | (go_big_quiet_want; go_big_quiet_op; go_big_quiet_on))
      refine wpQuiet_nil ?_
      rintro w2 ⟨p, rfl⟩
      have hb := below_regrown w1 p.d p.os
      generalize grow (redrawn w1 p.d) p.os = w2 at *
      have H1 : Hid (Below w.heap.size w w2) := B.trans (hb.mono B.size)
      clear hb B
      go_wp2
      simp [bodyPost, results, Try.results23, go_sem]
      exact H1.out
  · have e1' : ((m : Int) == (X.length : Int)) = false := beq_eq_false_iff_ne.2 (natcast_ne e1)
    by_cases e2 : m = Z.length
    · rw [if_pos (.inr e2)]
      subst e2
      rw [sgn_gt (by omega)]
      clear ne le KL HH e1
      go_enter Try.func23, Try.ntmps23
      go_wp2_with ((with_reducible refine hc.mono ?_); rintro e1 w1 ⟨rfl, B⟩)
      clear hc hl hl2
      refine wp_region_quiet_below (by kernel_rfl) (by kernel_rfl) ?_
      repeat (first | go_big_quiet_skip | (go_big_quiet_want; go_big_quiet_op; go_big_quiet_on))
      refine wpQuiet_nil ?_
      rintro w2 ⟨p, rfl⟩
      have hb := below_regrown w1 p.d p.os
      generalize grow (redrawn w1 p.d) p.os = w2 at *
      have H1 : Hid (Below w.heap.size w w2) := B.trans (hb.mono B.size)
      clear hb B
      go_wp2
      simp [bodyPost, results, Try.results23, go_sem]
      exact H1.out
    · rw [if_neg (by omega)]
      have k1 : m < X.length := by omega
      have k2 : m < Z.length := by omega
      have nn := ne k1 k2
      have KK : Hid (m < X.length ∧ m < Z.length) := ⟨k1, k2⟩
      obtain rfl := HH.out.1.cons (by omega)
      obtain rfl := HH.out.2.cons (by omega)
      obtain ⟨x, ex⟩ : ∃ x, x = X.getD m 0 := ⟨_, rfl⟩
      obtain ⟨z, ez⟩ : ∃ z, z = Z.getD m 0 := ⟨_, rfl⟩
      rw [← ex, ← ez] at nn ⊢
      have HX : Hid (X.getD m 0 = x ∧ Z.getD m 0 = z) := ⟨ex.symm, ez.symm⟩
      clear ex ez ne le k1 k2 e1 e2
      have two : (x < z ∧ decide (x < z) = true ∧ sgn x z = -1) ∨ (z < x ∧ decide (x < z) = false ∧ sgn x z = 1) := by
        by_cases h : x < z
        · exact .inl ⟨h, decide_eq_true h, sgn_lt h⟩
        · exact .inr ⟨by omega, decide_eq_false h, sgn_gt (by omega)⟩
      clear nn
      rcases two with ⟨_, HD, hs⟩ | ⟨_, HD, hs⟩
      all_goals rw [hs]
      all_goals (
        have HD' : Hid (decide (x < z) = _) := HD
        clear HD hs
        go_enter Try.func23, Try.ntmps23
        go_wp2_with ((with_reducible refine hc.mono ?_); rintro e1 w1 ⟨rfl, B⟩)
        obtain ⟨g1, g2⟩ := KL.out w1 B
        have c1 := g1 m KK.out.1
        have c2 := g2 m KK.out.2
        clear g1 g2
        rw [HX.out.1] at c1
        rw [HX.out.2] at c2
        have gG := fun d os => cell_regrown c1 d os
        have gX := fun d os => cell_regrown c2 d os
        have k1' : (m : Int) < (X.length : Int) := by have := KK.out.1; omega
        have k2' : (m : Int) < (Z.length : Int) := by have := KK.out.2; omega
        refine wp_region_quiet_below (by kernel_rfl) (by kernel_rfl) ?_
        repeat (first | go_big_quiet_skip | (go_big_quiet_want; go_big_quiet_op; go_big_quiet_on))
        refine wpQuiet_nil ?_
        rintro w2 ⟨p, rfl⟩
        have hb := below_regrown w1 p.d p.os
        generalize grow (redrawn w1 p.d) p.os = w2 at *
        have H1 : Hid (Below w.heap.size w w2) := B.trans (hb.mono B.size)
        clear hb B gG gX c1 c2
        (try rw [HD'.out])
        go_wp2
        simp [bodyPost, results, Try.results23, go_sem]
        exact H1.out)
set_option maxRecDepth 100000 in
set_option maxHeartbeats 4000000 in
theorem compares_any {a a' : Option Addr} {b o c b' o' c' : Nat} {X Z : List Int} (hl : X.length ≤ 140737488351232) (hl2 : Z.length ≤ 140737488351232) (ha : Az a b o X) (ha' : Az a' b' o' Z) (w : World) (hz : Bz w b o X) (hz' : Bz w b' o' Z) :
    Calls Try.prog 7 #[.slice a X.length c, .slice a' Z.length c'] w fun e w' => e = .returned (.bool true) ∧ Below w.heap.size w w' := by
  have HA : Hid (X.length ≤ 140737488351232 ∧ Z.length ≤ 140737488351232 ∧ Az a b o X ∧ Az a' b' o' Z) := ⟨hl, hl2, ha, ha'⟩
  have h1 := lent_any (cd := c) (by omega) ha w hz
  have KL : Hid (∀ W, Below w.heap.size w W → Bz W b o X ∧ Bz W b' o' Z) := fun W B => ⟨hz.keep B, hz'.keep B⟩
  clear hl hl2 ha ha' hz hz'
  go_enter Try.func7, Try.ntmps7
  go_wp2_with fail
  with_reducible refine h1.mono ?_
  rintro e w1 ⟨rfl, r1, B1⟩
  have h2 := lent_any (cd := c') (by have := HA.out.2.1; omega) HA.out.2.2.2 w1 (KL.out w1 B1).2
  clear h1
  go_wp2_with fail
  with_reducible refine h2.mono ?_
  rintro e w2 ⟨rfl, r2, B2⟩
  replace r1 := r1.keep B2
  have BB : Below w.heap.size w w2 := B1.trans (B2.mono B1.size)
  have h3 := Common_any (c := X.length + 70) (c' := Z.length + 70) (by have := HA.out.1; omega) (by have := HA.out.2.1; omega) (.inr rfl) (.inr rfl) w2 (lentL_bz r1) (lentL_bz r2)
  clear h2
  go_wp2_with fail
  with_reducible refine h3.mono ?_
  rintro e w3 ⟨rfl, B3⟩
  replace r1 := r1.keep B3
  replace r2 := r2.keep B3
  replace BB := BB.trans (B3.mono BB.size)
  have h4 := Compare_any (c := X.length + 70) (c' := Z.length + 70) (by have := HA.out.1; omega) (by have := HA.out.2.1; omega) (.inr rfl) (.inr rfl) w3 (lentL_bz r1) (lentL_bz r2)
  clear h3 B3
  go_wp2_with fail
  with_reducible refine h4.mono ?_
  rintro e w4 ⟨rfl, B4⟩
  replace r1 := r1.keep B4
  replace r2 := r2.keep B4
  replace BB := BB.trans (B4.mono BB.size)
  have h5 := rcom_any (c := c) (c' := c') (by have := HA.out.1; omega) (by have := HA.out.2.1; omega) HA.out.2.2.1 HA.out.2.2.2 w4 (KL.out w4 BB).1 (KL.out w4 BB).2
  clear h4 B4
  generalize comN X Z = m at *
  go_wp2_with fail
  with_reducible refine h5.mono ?_
  rintro e w5 ⟨rfl, B5⟩
  replace r1 := r1.keep B5
  replace r2 := r2.keep B5
  replace BB := BB.trans (B5.mono BB.size)
  have h6 := rcmp_any (c := c) (c' := c') (by have := HA.out.1; omega) (by have := HA.out.2.1; omega) HA.out.2.2.1 HA.out.2.2.2 w5 (KL.out w5 BB).1 (KL.out w5 BB).2
  clear h5 B5
  generalize cmpI X Z = q at *
  go_wp2_with fail
  with_reducible refine h6.mono ?_
  rintro e w6 ⟨rfl, B6⟩
  replace r1 := r1.keep B6
  replace r2 := r2.keep B6
  replace BB := BB.trans (B6.mono BB.size)
  have h7 := still_any (cd := c) (by have := HA.out.1; omega) HA.out.2.2.1 w6 r1 (KL.out w6 BB).1
  clear h6 B6
  go_wp2_with fail
  with_reducible refine h7.mono ?_
  rintro e w7 ⟨rfl, B7⟩
  replace r2 := r2.keep B7
  replace BB := BB.trans (B7.mono BB.size)
  have h8 := still_any (cd := c') (by have := HA.out.2.1; omega) HA.out.2.2.2 w7 r2 (KL.out w7 BB).2
  clear h7 B7
  go_wp2_with fail
  with_reducible refine h8.mono ?_
  rintro e w8 ⟨rfl, B8⟩
  replace BB := BB.trans (B8.mono BB.size)
  clear h8 B8
  go_wp2
  simp [bodyPost, results, Try.results7, go_sem]
  exact BB
end Go.Proofs.Ytpapgpkpafdkiaa
