import Derived.Test.YtkmdhencmppemaaNbB
/- Layer 11: Common, Compare of both. -/
namespace Go.Proofs.Ytkmdhencmppemaa
open Go.RowKit Go.Sort

/-- With how many equal elements two lists begin. -/
def comN : List Int → List Int → Nat
  | x :: X, z :: Z => if x = z then comN X Z + 1 else 0
  | _, _ => 0
theorem com_le : ∀ X Z : List Int, comN X Z ≤ X.length ∧ comN X Z ≤ Z.length
  | [], _ => by simp [comN]
  | _ :: _, [] => by simp [comN]
  | x :: X, z :: Z => by
    have := com_le X Z
    simp only [comN, List.length_cons]
    split <;> omega
theorem com_eq : ∀ {X Z : List Int} {i : Nat}, i < comN X Z → X.getD i 0 = Z.getD i 0
  | [], _, _, h => by simp [comN] at h
  | _ :: _, [], _, h => by simp [comN] at h
  | x :: X, z :: Z, i, h => by
    simp only [comN] at h
    split at h
    · rename_i e
      cases i with
      | zero => simpa using e
      | succ i => simpa using com_eq (show i < comN X Z by omega)
    · omega
theorem com_ne : ∀ {X Z : List Int}, comN X Z < X.length → comN X Z < Z.length → X.getD (comN X Z) 0 ≠ Z.getD (comN X Z) 0
  | [], _, h, _ => by simp at h
  | _ :: _, [], _, h => by simp at h
  | x :: X, z :: Z, h1, h2 => by
    by_cases e : x = z
    · have hc : comN (x :: X) (z :: Z) = comN X Z + 1 := by simp [comN, e]
      rw [hc] at h1 h2 ⊢
      simp only [List.length_cons] at h1 h2
      simpa using com_ne (X := X) (Z := Z) (by omega) (by omega)
    · have hc : comN (x :: X) (z :: Z) = 0 := by simp [comN, e]
      rw [hc]
      simpa using e
theorem com_self : ∀ X : List Int, comN X X = X.length
  | [] => rfl
  | x :: X => by simp [comN, com_self X]
/-- Of two numbers: which is the smaller one. -/
def sgn (x y : Int) : Int := if x < y then -1 else if y < x then 1 else 0
theorem sgn_three (x y : Int) : (x < y ∧ sgn x y = -1) ∨ (¬ x < y ∧ y < x ∧ sgn x y = 1) ∨ (¬ x < y ∧ ¬ y < x ∧ sgn x y = 0) := by
  by_cases h : x < y
  · exact .inl ⟨h, by simp [sgn, h]⟩
  · by_cases k : y < x
    · exact .inr (.inl ⟨h, k, by simp [sgn, h, k]⟩)
    · exact .inr (.inr ⟨h, k, by simp [sgn, h, k]⟩)
/-- Of two lists: which comes first. -/
def cmpI (X Z : List Int) : Int := if comN X Z = X.length ∨ comN X Z = Z.length then sgn X.length Z.length else sgn (X.getD (comN X Z) 0) (Z.getD (comN X Z) 0)

set_option maxRecDepth 100000 in
set_option maxHeartbeats 4000000 in
theorem com_any {a a' : Option Addr} {b o c b' o' c' : Nat} {X Z : List Int} (hl : X.length < 281474976710656) (hl2 : Z.length < 281474976710656) (ha : Az a b o X) (ha' : Az a' b' o' Z) (w : World) (hz : Bz w b o X) (hz' : Bz w b' o' Z) :
    Calls Try.prog 9 #[.slice a X.length c, .slice a' Z.length c'] w fun e w' => e = .returned (.int .i64 (comN X Z : Int)) ∧ Below w.heap.size w w' := by
  have HH : Hid (Az a b o X ∧ Az a' b' o' Z) := ⟨ha, ha'⟩
  have KL : Hid (∀ W, Below w.heap.size w W → Bz W b o X ∧ Bz W b' o' Z) := fun W B => ⟨hz.keep B, hz'.keep B⟩
  have n1 : (X.length : Int) < 281474976710656 := by omega
  have n2 : (Z.length : Int) < 281474976710656 := by omega
  obtain ⟨m, em⟩ : ∃ m, m = comN X Z := ⟨_, rfl⟩
  rw [← em]
  have HM : Hid (comN X Z = m) := em.symm
  clear em hl hl2 ha ha' hz hz'
  go_enter Try.func9, Try.ntmps9
  go_wp2_with fail
  go_loopg [5] m (fun k iv wr => ∃ i : Nat, k = m - i ∧ i ≤ m ∧ iv = .int .i64 i ∧ Below w.heap.size w wr)
  case atStart => exact ⟨0, rfl, Nat.zero_le _, rfl, Below.refl _ _⟩
  case round =>
    obtain ⟨i, hk, hi, rfl, B⟩ := hrel
    have HK : Hid (gk = m - i ∧ i ≤ m) := ⟨hk, hi⟩
    clear hk hi
    by_cases h8 : i < m
    · have le := com_le X Z
      rw [HM.out] at le
      have hlt : i < X.length := by omega
      have hlt2 : i < Z.length := by omega
      have h1' : (i : Int) < (X.length : Int) := by omega
      have h2' : (i : Int) < (Z.length : Int) := by omega
      have ee : X.getD i 0 = Z.getD i 0 := com_eq (by rw [HM.out]; exact h8)
      obtain ⟨g1, g2⟩ := KL.out wr B
      have c1 := g1 i hlt
      have c2 := g2 i hlt2
      obtain rfl := HH.out.1.cons (by omega)
      obtain rfl := HH.out.2.cons (by omega)
      rw [← ee] at c2
      have HB : Hid (i < m) := h8
      clear g1 g2 ee le h8 hlt hlt2
      generalize X.getD i 0 = x at *
      have c1' : ∀ n, (wr.drewN n).cell? ⟨b, o + i, none⟩ = some (.int .u8 x) := fun _ => c1
      have c2' : ∀ n, (wr.drewN n).cell? ⟨b', o' + i, none⟩ = some (.int .u8 x) := fun _ => c2
      go_wp2_with fail
      refine wp_region_quiet_lit (by kernel_rfl) (by kernel_rfl) ?_
      repeat (first | go_big_quiet_skip | (go_big_quiet_want; go_big_quiet_op; go_big_quiet_on))
      refine wpQuiet_nil ?_
      rintro w' ⟨n, rfl⟩
      have BN : Hid (Below w.heap.size w (wr.drewN n)) := ⟨B.os, B.tape, B.output, B.size, B.block⟩
      clear B
      (try clear c1')
      (try clear c2')
      generalize wr.drewN n = w2 at *
      go_wp2
      go_roundg (m - (i + 1))
      case measure => have := HK.out; have := HB.out; omega
      case rel => exact ⟨i + 1, rfl, by have := HB.out; omega, by go_num, BN.out⟩
    have HN : Hid (i = m) := by show i = m; have := HK.out; omega
    clear h8
    by_cases h9 : i < X.length
    · by_cases h10 : i < Z.length
      · have h1' : (i : Int) < (X.length : Int) := by omega
        have h2' : (i : Int) < (Z.length : Int) := by omega
        have ne : X.getD i 0 ≠ Z.getD i 0 := by
          have := com_ne (X := X) (Z := Z)
          rw [HM.out, ← HN.out] at this
          exact this h9 h10
        obtain ⟨g1, g2⟩ := KL.out wr B
        have c1 := g1 i h9
        have c2 := g2 i h10
        obtain rfl := HH.out.1.cons (by omega)
        obtain rfl := HH.out.2.cons (by omega)
        have HB : Hid ((X.getD i 0 == Z.getD i 0) = false) := beq_eq_false_iff_ne.2 ne
        clear g1 g2 ne h9 h10
        generalize X.getD i 0 = x at *
        generalize Z.getD i 0 = z at *
        have c1' : ∀ n, (wr.drewN n).cell? ⟨b, o + i, none⟩ = some (.int .u8 x) := fun _ => c1
        have c2' : ∀ n, (wr.drewN n).cell? ⟨b', o' + i, none⟩ = some (.int .u8 z) := fun _ => c2
        go_wp2_with fail
        refine wp_region_quiet_lit (by kernel_rfl) (by kernel_rfl) ?_
        repeat (first | go_big_quiet_skip | (go_big_quiet_want; go_big_quiet_op; go_big_quiet_on))
        refine wpQuiet_nil ?_
        rintro w' ⟨n, rfl⟩
        have BN : Hid (Below w.heap.size w (wr.drewN n)) := ⟨B.os, B.tape, B.output, B.size, B.block⟩
        clear B
        (try clear c1')
        (try clear c2')
        generalize wr.drewN n = w2 at *
        rw [HB.out]
        go_wp2
        simp [bodyPost, results, Try.results9, go_sem]
        exact ⟨by rw [HN.out], BN.out⟩
      · have h1' : (i : Int) < (X.length : Int) := by omega
        have h2' : (Z.length : Int) ≤ (i : Int) := by omega
        have d2' : decide (i < Z.length) = false := decide_eq_false (by omega)
        clear h9
        go_wp2_with fail
        refine wp_region_quiet_lit (by kernel_rfl) (by kernel_rfl) ?_
        repeat (first | go_big_quiet_skip | (go_big_quiet_want; go_big_quiet_op; go_big_quiet_on))
        refine wpQuiet_nil ?_
        rintro w' ⟨n, rfl⟩
        have BN : Hid (Below w.heap.size w (wr.drewN n)) := ⟨B.os, B.tape, B.output, B.size, B.block⟩
        clear B
        (try clear c1')
        (try clear c2')
        generalize wr.drewN n = w2 at *
        go_wp2
        simp [bodyPost, results, Try.results9, go_sem]
        exact ⟨by rw [HN.out], BN.out⟩
    · have h1' : (X.length : Int) ≤ (i : Int) := by omega
      have d1' : decide (i < X.length) = false := decide_eq_false (by omega)
      go_wp2_with fail
      refine wp_region_quiet_lit (by kernel_rfl) (by kernel_rfl) ?_
      repeat (first | go_big_quiet_skip | (go_big_quiet_want; go_big_quiet_op; go_big_quiet_on))
      refine wpQuiet_nil ?_
      rintro w' ⟨n, rfl⟩
      have BN : Hid (Below w.heap.size w (wr.drewN n)) := ⟨B.os, B.tape, B.output, B.size, B.block⟩
      clear B
      (try clear c1')
      (try clear c2')
      generalize wr.drewN n = w2 at *
      go_wp2
      simp [bodyPost, results, Try.results9, go_sem]
      exact ⟨by rw [HN.out], BN.out⟩

theorem nan_int (x : Int) (w : World) : Calls Try.prog 13 #[.int .i64 x] w fun e w' => e = .returned (.bool false) ∧ w' = w := by
  go_enter Try.func13, Try.ntmps13
  go_wp2
  go_ret
  exact ⟨by simp, rfl⟩
theorem nan_byte (x : Int) (w : World) : Calls Try.prog 14 #[.int .u8 x] w fun e w' => e = .returned (.bool false) ∧ w' = w := by
  go_enter Try.func14, Try.ntmps14
  go_wp2
  go_ret
  exact ⟨by simp, rfl⟩

set_option maxRecDepth 100000 in
theorem cmp_int (x y : Int) (w : World) : Calls Try.prog 11 #[.int .i64 x, .int .i64 y] w fun e w' => e = .returned (.int .i64 (sgn x y)) ∧ w' = w := by
  have hx := nan_int x
  have hy := nan_int y
  have three := sgn_three x y
  rcases three with ⟨c1, c2⟩ | ⟨c1, c3, c2⟩ | ⟨c1, c3, c2⟩
  all_goals rw [c2]
  all_goals clear c2
  all_goals (
   go_enter Try.func11, Try.ntmps11
   go_wp2_with (first | ((with_reducible refine (hx _).mono ?_); rintro e1 w9 ⟨rfl, hw9⟩; (rw [hw9]); (clear hw9 w9)) | ((with_reducible refine (hy _).mono ?_); rintro e1 w9 ⟨rfl, hw9⟩; (rw [hw9]); (clear hw9 w9)))
   simp [bodyPost, results, Try.results11, go_sem])

set_option maxRecDepth 100000 in
theorem cmp_byte (x y : Int) (w : World) : Calls Try.prog 12 #[.int .u8 x, .int .u8 y] w fun e w' => e = .returned (.int .i64 (sgn x y)) ∧ w' = w := by
  have hx := nan_byte x
  have hy := nan_byte y
  have three := sgn_three x y
  rcases three with ⟨c1, c2⟩ | ⟨c1, c3, c2⟩ | ⟨c1, c3, c2⟩
  all_goals rw [c2]
  all_goals clear c2
  all_goals (
   go_enter Try.func12, Try.ntmps12
   go_wp2_with (first | ((with_reducible refine (hx _).mono ?_); rintro e1 w9 ⟨rfl, hw9⟩; (rw [hw9]); (clear hw9 w9)) | ((with_reducible refine (hy _).mono ?_); rintro e1 w9 ⟨rfl, hw9⟩; (rw [hw9]); (clear hw9 w9)))
   simp [bodyPost, results, Try.results12, go_sem])
end Go.Proofs.Ytkmdhencmppemaa
