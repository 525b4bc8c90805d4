import Derived.Test.YtkmdhencmppemaaNbC
import Derived.Test.YtkmdhencmppemaaNbD
/- Layer 11: Compare of both, NibbleCompares. -/
namespace Go.Proofs.Ytkmdhencmppemaa
open Go.RowKit Go.Sort

theorem below_eq {w w' : World} (h : w' = w) : Below w.heap.size w w' := by rw [h]; exact Below.refl _ _
theorem natcast_ne {m n : Nat} (h : m ≠ n) : ¬ ((m : Int) = (n : Int)) := fun e => h (by omega)
set_option maxRecDepth 100000 in
set_option maxHeartbeats 4000000 in
theorem cmp_any {a a' : Option Addr} {b o c b' o' c' : Nat} {X Z : List Int} (hl : X.length < 281474976710656) (hl2 : Z.length < 281474976710656) (ha : Az a b o X) (ha' : Az a' b' o' Z) (w : World) (hz : Bz w b o X) (hz' : Bz w b' o' Z) :
    Calls Try.prog 8 #[.slice a X.length c, .slice a' Z.length c'] w fun e w' => e = .returned (.int .i64 (cmpI X Z)) ∧ Below w.heap.size w w' := by
  have hc := com_any (c := c) (c' := c') hl hl2 ha ha' w hz hz'
  have le := com_le X Z
  have ne := com_ne (X := X) (Z := Z)
  unfold cmpI
  have HH : Hid (Az a b o X ∧ Az a' b' o' Z) := ⟨ha, ha'⟩
  have KL : Hid (∀ W, Below w.heap.size w W → Bz W b o X ∧ Bz W b' o' Z) := fun W B => ⟨hz.keep B, hz'.keep B⟩
  clear hz hz' ha ha'
  generalize comN X Z = m at *
  have n1 : (X.length : Int) < 281474976710656 := by omega
  have n2 : (Z.length : Int) < 281474976710656 := by omega
  by_cases e1 : m = X.length
  · rw [if_pos (.inl e1)]
    subst e1
    have hi := cmp_int (X.length : Int) (Z.length : Int)
    clear ne le
    go_enter Try.func8, Try.ntmps8
    go_wp2_with (first | ((with_reducible refine hc.mono ?_); rintro e1 w1 ⟨rfl, B⟩) | ((with_reducible refine (hi _).mono ?_); rintro e1 w9 ⟨rfl, hw9⟩; (rw [hw9]); (clear hw9 w9)))
    simp [bodyPost, results, Try.results8, go_sem]
    exact B
  · by_cases e2 : m = Z.length
    · rw [if_pos (.inr e2)]
      subst e2
      have e1' : ¬ ((Z.length : Int) = (X.length : Int)) := natcast_ne e1
      have hi := cmp_int (X.length : Int) (Z.length : Int)
      clear ne le
      go_enter Try.func8, Try.ntmps8
      go_wp2_with (first | ((with_reducible refine hc.mono ?_); rintro e1 w1 ⟨rfl, B⟩) | ((with_reducible refine (hi _).mono ?_); rintro e1 w9 ⟨rfl, hw9⟩; (rw [hw9]); (clear hw9 w9)))
      simp [bodyPost, results, Try.results8, go_sem]
      exact B
    · rw [if_neg (by omega)]
      have k1 : m < X.length := by omega
      have k2 : m < Z.length := by omega
      have KK : Hid (m < X.length ∧ m < Z.length) := ⟨k1, k2⟩
      have e1' : ((m : Int) == (X.length : Int)) = false := beq_eq_false_iff_ne.2 (natcast_ne e1)
      have e2' : ((m : Int) == (Z.length : Int)) = false := beq_eq_false_iff_ne.2 (natcast_ne e2)
      have hi0 := cmp_byte (X.getD m 0) (Z.getD m 0)
      have hi : ∀ w, Calls Try.prog 12 #[.int .u8 (X.getD m 0), .int .u8 (Z.getD m 0)] w fun e w' => e = .returned (.int .i64 (sgn (X.getD m 0) (Z.getD m 0))) ∧ Below w.heap.size w w' := fun w => (hi0 w).mono fun e w' ⟨h1, h2⟩ => ⟨h1, below_eq h2⟩
      obtain rfl := HH.out.1.cons (by omega)
      obtain rfl := HH.out.2.cons (by omega)
      clear ne le hi0 k1 k2 e1 e2
      obtain ⟨x, ex⟩ : ∃ x, x = X.getD m 0 := ⟨_, rfl⟩
      obtain ⟨z, ez⟩ : ∃ z, z = Z.getD m 0 := ⟨_, rfl⟩
      rw [← ex, ← ez] at hi ⊢
      have HX : Hid (X.getD m 0 = x ∧ Z.getD m 0 = z) := ⟨ex.symm, ez.symm⟩
      clear ex ez
      go_enter Try.func8, Try.ntmps8
      go_wp2_with ((with_reducible refine hc.mono ?_); rintro e1 w1 ⟨rfl, B⟩)
      obtain ⟨g1, g2⟩ := KL.out w1 B
      have c1 := g1 m KK.out.1
      have c2 := g2 m KK.out.2
      clear g1 g2 e1' e2'
      have k1' : (m : Int) < (X.length : Int) := by have := KK.out.1; omega
      have k2' : (m : Int) < (Z.length : Int) := by have := KK.out.2; omega
      rw [HX.out.1] at c1
      rw [HX.out.2] at c2
      have gG := fun d os => cell_regrown c1 d os
      have gX := fun d os => cell_regrown c2 d os
      refine wp_region_quiet_below (by kernel_rfl) (by kernel_rfl) ?_
      repeat
        first
          | go_big_quiet_skip
          | (go_big_quiet_want; go_big_quiet_op; go_big_quiet_on)
          | (go_big_quiet_want
             go_big_quiet_op
             apply Exists.intro
             refine ⟨fun p => ?_, ?_⟩
             · (go_at_call 12; with_reducible exact Calls.regrown_of (hi _))
             go_big_quiet_on)
      refine wpQuiet_nil ?_
      rintro w2 ⟨p, rfl⟩
      have hb := below_regrown w1 p.d p.os
      generalize grow (redrawn w1 p.d) p.os = w2 at *
      have H1 : Hid (Below w.heap.size w w2) := B.trans (hb.mono B.size)
      clear hb B c1 c2 gG gX
      go_wp2
      simp [bodyPost, results, Try.results8, go_sem]
      exact H1.out
theorem Common_any {a a' : Option Addr} {b o c b' o' c' : Nat} {X Z : List Int} (hl : X.length < 281474976710656) (hl2 : Z.length < 281474976710656) (ha : Az a b o X) (ha' : Az a' b' o' Z) (w : World) (hz : Bz w b o X) (hz' : Bz w b' o' Z) :
    Calls Try.prog 6 #[.slice a X.length c, .slice a' Z.length c'] w fun e w' => e = .returned (.int .i64 (comN X Z : Int)) ∧ Below w.heap.size w w' := by
  have hc := com_any (c := c) (c' := c') hl hl2 ha ha' w hz hz'
  go_enter Try.func6, Try.ntmps6
  go_wp2_with ((with_reducible refine hc.mono ?_); rintro e1 w1 ⟨rfl, B⟩)
  simp [bodyPost, results, Try.results6, go_sem]
  exact B
theorem Compare_any {a a' : Option Addr} {b o c b' o' c' : Nat} {X Z : List Int} (hl : X.length < 281474976710656) (hl2 : Z.length < 281474976710656) (ha : Az a b o X) (ha' : Az a' b' o' Z) (w : World) (hz : Bz w b o X) (hz' : Bz w b' o' Z) :
    Calls Try.prog 4 #[.slice a X.length c, .slice a' Z.length c'] w fun e w' => e = .returned (.int .i64 (cmpI X Z)) ∧ Below w.heap.size w w' := by
  have hc := cmp_any (c := c) (c' := c') hl hl2 ha ha' w hz hz'
  go_enter Try.func4, Try.ntmps4
  go_wp2_with ((with_reducible refine hc.mono ?_); rintro e1 w1 ⟨rfl, B⟩)
  simp [bodyPost, results, Try.results4, go_sem]
  exact B
theorem sgn_lt {x y : Int} (h : x < y) : sgn x y = -1 := by simp [sgn, h]
theorem sgn_gt {x y : Int} (h : y < x) : sgn x y = 1 := by simp [sgn, h, show ¬ x < y by omega]
theorem sgn_eq (x : Int) : sgn x x = 0 := by simp [sgn]
end Go.Proofs.Ytkmdhencmppemaa
