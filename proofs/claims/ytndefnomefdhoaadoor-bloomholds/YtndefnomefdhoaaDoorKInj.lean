import Derived.Test.YtndefnomefdhoaaDoorKRefNum
/- The permutation is one to one. -/
namespace Go.Proofs.YtndefnomefdhoaaDoor.K

theorem rotl_xor (x y : BitVec 64) (r : Nat) : (x ^^^ y).rotateLeft r = x.rotateLeft r ^^^ y.rotateLeft r := by
  apply BitVec.eq_of_getLsbD_eq
  intro i hi
  simp only [BitVec.getLsbD_rotateLeft, BitVec.getLsbD_xor]
  by_cases h : i < r % 64 <;> simp [h, hi]
theorem rotl_rotl (x : BitVec 64) (a b : Nat) : (x.rotateLeft a).rotateLeft b = x.rotateLeft (a + b) := by
  apply BitVec.eq_of_getLsbD_eq
  intro i hi
  simp only [BitVec.getLsbD_rotateLeft]
  have e : (a + b) % 64 = (a % 64 + b % 64) % 64 := Nat.add_mod a b 64
  have ha : a % 64 < 64 := Nat.mod_lt _ (by decide)
  have hb : b % 64 < 64 := Nat.mod_lt _ (by decide)
  rw [e]
  generalize a % 64 = a at *
  generalize b % 64 = b at *
  by_cases h1 : i < b
  · by_cases h2 : 64 - b + i < a
    · have h3 : i < (a + b) % 64 := by omega
      simp [h1, h2, h3]
      congr 1
      omega
    · have h4 : 64 - b + i < 64 := by omega
      by_cases h5 : a + b < 64
      · have h3 : i < (a + b) % 64 := by omega
        simp [h1, h2, h3, h4]
        congr 1
        omega
      · have h3 : ¬ (i < (a + b) % 64) := by omega
        simp [h1, h2, h3, h4, hi]
        congr 1
        omega
  · have h6 : i - b < 64 := by omega
    by_cases h2 : i - b < a
    · by_cases h5 : a + b < 64
      · have h3 : i < (a + b) % 64 := by omega
        simp [h1, h2, h3, hi]
        congr 1
        omega
      · have h3 : ¬ (i < (a + b) % 64) := by omega
        simp [h1, h2, h3, hi]
        congr 1
        omega
    · have h3 : ¬ (i < (a + b) % 64) := by omega
      simp [h1, h2, h3, hi, h6]
      congr 1
      omega
theorem rotl64 (x : BitVec 64) (r : Nat) (h : r % 64 = 0) : x.rotateLeft r = x := by
  apply BitVec.eq_of_getLsbD_eq
  intro i hi
  rw [BitVec.getLsbD_rotateLeft]
  simp [h, hi]
theorem rotl_inj {x y : BitVec 64} {r : Nat} (h : x.rotateLeft r = y.rotateLeft r) : x = y := by
  have := congrArg (fun z => z.rotateLeft (64 - r % 64)) h
  simp only [rotl_rotl] at this
  rwa [rotl64 _ _ (by omega), rotl64 _ _ (by omega)] at this

theorem bool5 : ∀ a b c d e a' b' c' d' e' : Bool,
    (a ^^ (!b && c)) = (a' ^^ (!b' && c')) → (b ^^ (!c && d)) = (b' ^^ (!c' && d')) → (c ^^ (!d && e)) = (c' ^^ (!d' && e')) → (d ^^ (!e && a)) = (d' ^^ (!e' && a')) → (e ^^ (!a && b)) = (e' ^^ (!a' && b')) → a = a' ∧ b = b' ∧ c = c' ∧ d = d' ∧ e = e' := by
  decide
/-- Step 4 on a row of five. -/
theorem row5 {a b c d e a' b' c' d' e' : BitVec 64} (h0 : a ^^^ (~~~b &&& c) = a' ^^^ (~~~b' &&& c')) (h1 : b ^^^ (~~~c &&& d) = b' ^^^ (~~~c' &&& d')) (h2 : c ^^^ (~~~d &&& e) = c' ^^^ (~~~d' &&& e')) (h3 : d ^^^ (~~~e &&& a) = d' ^^^ (~~~e' &&& a')) (h4 : e ^^^ (~~~a &&& b) = e' ^^^ (~~~a' &&& b')) :
    a = a' ∧ b = b' ∧ c = c' ∧ d = d' ∧ e = e' := by
  have key : ∀ i, i < 64 → a.getLsbD i = a'.getLsbD i ∧ b.getLsbD i = b'.getLsbD i ∧ c.getLsbD i = c'.getLsbD i ∧ d.getLsbD i = d'.getLsbD i ∧ e.getLsbD i = e'.getLsbD i := by
    intro i hi
    have g0 := congrArg (fun z => z.getLsbD i) h0
    have g1 := congrArg (fun z => z.getLsbD i) h1
    have g2 := congrArg (fun z => z.getLsbD i) h2
    have g3 := congrArg (fun z => z.getLsbD i) h3
    have g4 := congrArg (fun z => z.getLsbD i) h4
    simp only [BitVec.getLsbD_xor, BitVec.getLsbD_and, BitVec.getLsbD_not, hi, decide_true, Bool.true_and] at g0 g1 g2 g3 g4
    exact bool5 _ _ _ _ _ _ _ _ _ _ g0 g1 g2 g3 g4
  exact ⟨BitVec.eq_of_getLsbD_eq fun i hi => (key i hi).1, BitVec.eq_of_getLsbD_eq fun i hi => (key i hi).2.1, BitVec.eq_of_getLsbD_eq fun i hi => (key i hi).2.2.1, BitVec.eq_of_getLsbD_eq fun i hi => (key i hi).2.2.2.1, BitVec.eq_of_getLsbD_eq fun i hi => (key i hi).2.2.2.2⟩

/-- Step 1 on the columns' sums: 1 + x + z / x. -/
def stp (s : Fin 5) (r : Nat) (c : Fin 5 → BitVec 64) (x : Fin 5) : BitVec 64 := c x ^^^ c (x - s) ^^^ (c (x + s)).rotateLeft r
theorem fin_a : ∀ x s : Fin 5, x - s + s = x ∧ x + s - s = x ∧ x - s - s = x - (s + s) ∧ x + s + s = x + (s + s) := by decide
theorem stp_twice (s : Fin 5) (r : Nat) (c : Fin 5 → BitVec 64) : stp s r (stp s r c) = stp (s + s) (r + r) c := by
  funext x
  obtain ⟨e1, e2, e3, e4⟩ := fin_a x s
  unfold stp
  rw [e1, e2, e3, e4, rotl_xor, rotl_xor, rotl_rotl]
  generalize c x = p
  generalize c (x - s) = q
  generalize c (x + s) = t
  generalize c (x - (s + s)) = u
  generalize (c (x + (s + s))).rotateLeft (r + r) = v
  generalize p.rotateLeft r = p'
  generalize t.rotateLeft r = t'
  apply BitVec.eq_of_getLsbD_eq
  intro i _
  simp only [BitVec.getLsbD_xor]
  cases p.getLsbD i <;> cases q.getLsbD i <;> cases u.getLsbD i <;> cases v.getLsbD i <;> cases p'.getLsbD i <;> cases t'.getLsbD i <;> rfl
/-- The 64th power has no turn; its cube is nothing. -/
theorem stp_cube (c : Fin 5 → BitVec 64) : stp 4 0 (stp 4 0 (stp 4 0 c)) = c := by
  rw [stp_twice]
  funext x
  unfold stp
  have f : ∀ x : Fin 5, x - (4 + 4) = x + 2 ∧ x + (4 + 4) = x + 3 ∧ x - 4 = x + 1 := by decide
  have f2 : ∀ x : Fin 5, x + 1 + 2 = x + 3 ∧ x + 1 + 3 = x + 4 ∧ x + 4 + 2 = x + 1 ∧ x + 4 + 3 = x + 2 ∧ x + 2 + 1 = x + 3 ∧ x + 3 + 1 = x + 4 ∧ x + 2 + 4 = x + 1 ∧ x + 3 + 4 = x + 2 := by decide
  obtain ⟨e1, e2, e3⟩ := f x
  obtain ⟨k1, k2, k3, k4, k5, k6, k7, k8⟩ := f2 x
  rw [e1, e2]
  simp only [(f (x + 2)).2.2, (f (x + 3)).2.2, e3, k5, k6, k7, k8]
  rw [rotl64 _ 0 rfl, rotl64 _ (0 + 0) rfl, rotl64 _ 0 rfl, rotl64 _ 0 rfl]
  apply BitVec.eq_of_getLsbD_eq
  intro i _
  simp only [BitVec.getLsbD_xor]
  cases (c x).getLsbD i <;> cases (c (x + 1)).getLsbD i <;> cases (c (x + 2)).getLsbD i <;> cases (c (x + 3)).getLsbD i <;> cases (c (x + 4)).getLsbD i <;> rfl
theorem stp_next {s : Fin 5} {r : Nat} {c c' : Fin 5 → BitVec 64} (h : stp s r c = stp s r c') : stp (s + s) (r + r) c = stp (s + s) (r + r) c' := by
  rw [← stp_twice, ← stp_twice, h]
theorem stp_64 (c : Fin 5 → BitVec 64) : stp 4 64 c = stp 4 0 c := by
  funext x
  unfold stp
  rw [rotl64 _ 64 rfl, rotl64 _ 0 rfl]
theorem stp_inj {c c' : Fin 5 → BitVec 64} (h : stp 1 1 c = stp 1 1 c') : c = c' := by
  have n : ∀ (s s' : Fin 5) (r r' : Nat), s + s = s' → r + r = r' → stp s r c = stp s r c' → stp s' r' c = stp s' r' c' := by
    rintro s _ r _ rfl rfl h
    exact stp_next h
  have h1 := n 1 2 1 2 (by decide) rfl h
  have h2 := n 2 4 2 4 (by decide) rfl h1
  have h3 := n 4 3 4 8 (by decide) rfl h2
  have h4 := n 3 1 8 16 (by decide) rfl h3
  have h5 := n 1 2 16 32 (by decide) rfl h4
  have h6 := n 2 4 32 64 (by decide) rfl h5
  rw [stp_64, stp_64] at h6
  rw [← stp_cube c, ← stp_cube c', h6]

theorem colX_stp {A : List (BitVec 64)} : ∀ x : Fin 5, colX (mapL (colF A)) x.val = stp 1 1 (fun y => colX A y.val) x := by
  intro x
  have e : ∀ x : Fin 5, (x.val + 4) % 5 = (x - 1).val ∧ (x.val + 1) % 5 = (x + 1).val := by decide
  have hx := x.isLt
  rw [colX, mapL_getD _ (by omega), mapL_getD _ (by omega), mapL_getD _ (by omega), mapL_getD _ (by omega), mapL_getD _ (by omega)]
  unfold colF
  rw [show (x.val + 5) % 5 = x.val by omega, show (x.val + 10) % 5 = x.val by omega, show (x.val + 15) % 5 = x.val by omega, show (x.val + 20) % 5 = x.val by omega, show x.val % 5 = x.val by omega]
  have ea : addX A x.val = colX A (x - 1).val ^^^ (colX A (x + 1).val).rotateLeft 1 := by rw [addX, (e x).1, (e x).2]
  unfold stp
  dsimp only
  rw [show colX A x.val = A.getD x.val 0 ^^^ A.getD (x.val + 5) 0 ^^^ A.getD (x.val + 10) 0 ^^^ A.getD (x.val + 15) 0 ^^^ A.getD (x.val + 20) 0 from rfl, BitVec.xor_assoc _ (colX A (x - 1).val), ← ea]
  generalize addX A x.val = d
  generalize A.getD x.val 0 = a0
  generalize A.getD (x.val + 5) 0 = a1
  generalize A.getD (x.val + 10) 0 = a2
  generalize A.getD (x.val + 15) 0 = a3
  generalize A.getD (x.val + 20) 0 = a4
  apply BitVec.eq_of_getLsbD_eq
  intro i _
  simp only [BitVec.getLsbD_xor]
  cases a0.getLsbD i <;> cases a1.getLsbD i <;> cases a2.getLsbD i <;> cases a3.getLsbD i <;> cases a4.getLsbD i <;> cases d.getLsbD i <;> rfl
theorem list_eq {A B : List (BitVec 64)} (ha : A.length = 25) (hb : B.length = 25) (h : ∀ p, p < 25 → A.getD p 0 = B.getD p 0) : A = B := by
  have e1 := mapL_ext ha (F := fun p => B.getD p 0) h
  have e2 := mapL_ext hb (F := fun p => B.getD p 0) fun _ _ => rfl
  exact e1.trans e2.symm
theorem mapL_at {F G : Nat → BitVec 64} (h : mapL F = mapL G) {p : Nat} (hp : p < 25) : F p = G p := by rw [← mapL_getD F hp, h, mapL_getD G hp]
theorem col_inj {A B : List (BitVec 64)} (ha : A.length = 25) (hb : B.length = 25) (h : mapL (colF A) = mapL (colF B)) : A = B := by
  have hs : (fun y : Fin 5 => colX A y.val) = fun y : Fin 5 => colX B y.val := by
    apply stp_inj
    funext x
    rw [← colX_stp, ← colX_stp, h]
  have hc : ∀ x, x < 5 → colX A x = colX B x := fun x hx => congrFun hs ⟨x, hx⟩
  apply list_eq ha hb
  intro p hp
  have e := mapL_at h hp
  unfold colF addX at e
  rw [hc _ (by omega), hc _ (by omega)] at e
  generalize (colX B ((p % 5 + 4) % 5) ^^^ (colX B ((p % 5 + 1) % 5)).rotateLeft 1) = d at e
  have := congrArg (fun z => z ^^^ d) e
  simpa [BitVec.xor_assoc] using this
theorem src_all : ∀ q, q < 25 → ∃ p, p < 25 ∧ srcN.getD p 0 = q := by decide
theorem mov_inj {A B : List (BitVec 64)} (ha : A.length = 25) (hb : B.length = 25) (h : mapL (movF A) = mapL (movF B)) : A = B := by
  apply list_eq ha hb
  intro q hq
  obtain ⟨p, hp, rfl⟩ := src_all q hq
  have e := mapL_at h hp
  unfold movF at e
  exact rotl_inj e
theorem mix_inj {A B : List (BitVec 64)} (ha : A.length = 25) (hb : B.length = 25) (h : mapL (mixF A) = mapL (mixF B)) : A = B := by
  apply list_eq ha hb
  have row : ∀ y, y < 5 → ∀ x, x < 5 → A.getD (x + 5 * y) 0 = B.getD (x + 5 * y) 0 := by
    intro y hy
    have m : ∀ x, x < 5 → A.getD (x + 5 * y) 0 ^^^ (~~~ A.getD ((x + 1) % 5 + 5 * y) 0 &&& A.getD ((x + 2) % 5 + 5 * y) 0) = B.getD (x + 5 * y) 0 ^^^ (~~~ B.getD ((x + 1) % 5 + 5 * y) 0 &&& B.getD ((x + 2) % 5 + 5 * y) 0) := by
      intro x hx
      have e := mapL_at h (p := x + 5 * y) (by omega)
      unfold mixF mixX at e
      dsimp only at e
      rwa [show (x + 5 * y) % 5 = x by omega, show (x + 5 * y) / 5 = y by omega] at e
    obtain ⟨r0, r1, r2, r3, r4⟩ := row5 (m 0 (by decide)) (m 1 (by decide)) (m 2 (by decide)) (m 3 (by decide)) (m 4 (by decide))
    intro x hx
    match x, hx with
    | 0, _ => exact r0
    | 1, _ => exact r1
    | 2, _ => exact r2
    | 3, _ => exact r3
    | 4, _ => exact r4
  intro p hp
  have := row (p / 5) (by omega) (p % 5) (by omega)
  rwa [show p % 5 + 5 * (p / 5) = p by omega] at this
theorem set0_inj {X Y : List (BitVec 64)} {m : BitVec 64} (hx : X.length = 25) (hy : Y.length = 25) (h : X.set 0 (X.getD 0 0 ^^^ m) = Y.set 0 (Y.getD 0 0 ^^^ m)) : X = Y := by
  apply list_eq hx hy
  intro p hp
  have e := congrArg (fun L => L.getD p 0) h
  by_cases h0 : p = 0
  · subst h0
    have g : ∀ Z : List (BitVec 64), Z.length = 25 → (Z.set 0 (Z.getD 0 0 ^^^ m)).getD 0 0 = Z.getD 0 0 ^^^ m := fun Z hz => by simp [List.getD, hz]
    rw [g X hx, g Y hy] at e
    have := congrArg (fun z => z ^^^ m) e
    simpa [BitVec.xor_assoc] using this
  · have g : ∀ (Z : List (BitVec 64)) v, (Z.set 0 v).getD p 0 = Z.getD p 0 := fun Z v => by simp [List.getD, List.getElem?_set_ne (Ne.symm h0)]
    rwa [g, g] at e
theorem rnd_inj {A B : List (BitVec 64)} {m : BitVec 64} (ha : A.length = 25) (hb : B.length = 25) (h : rnd A m = rnd B m) : A = B := by
  rw [← rnd_ref A m, ← rnd_ref B m] at h
  have h1 := set0_inj (mapL_len _) (mapL_len _) h
  have h2 := mix_inj (mapL_len _) (mapL_len _) h1
  have h3 := mov_inj (mapL_len _) (mapL_len _) h2
  exact col_inj ha hb h3
theorem rnds_inj {A B : List (BitVec 64)} (ha : A.length = 25) (hb : B.length = 25) : ∀ n, rnds A n = rnds B n → A = B
  | 0, h => h
  | n + 1, h => rnds_inj ha hb n (rnd_inj (rnds_len ha n) (rnds_len hb n) h)
theorem perm_inj {A B : List (BitVec 64)} (ha : A.length = 25) (hb : B.length = 25) (h : perm A = perm B) : A = B := rnds_inj ha hb 24 h

end Go.Proofs.YtndefnomefdhoaaDoor.K
