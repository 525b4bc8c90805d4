import Derived.Test.YtahekhamhdfkdaaRsL
import Derived.Test.YtahekhamhdfkdaaRxA
/- Layer 7: what Decode answers, as a function of the bytes; the heads that are written are those that are read. -/
namespace Go.Proofs.Ytahekhamhdfkdaa
/-- What an item holds. -/
def innP (A : List Int) : List Int := (A.drop (hdP A).2.1).take (hdP A).2.2.1
def listR (x : Int × List Tr) : Int × Tr := if x.1 = 0 then (0, .mk true [] x.2) else (x.1, zT)
def consR (x : Int × Tr) (y : Int × List Tr) : Int × List Tr := if x.1 = 0 then (if y.1 = 0 then (0, x.2 :: y.2) else (y.1, [])) else (x.1, [])
mutual
/-- The item at the front of a room, within so many lists: the error, the tree. -/
def decT : Nat → Nat → List Int → Int × Tr
  | 0, _, _ => (1, zT)
  | f + 1, k, A => if (hdP A).2.2.2 ≠ 0 then ((hdP A).2.2.2, zT) else if (hdP A).1 = false then (0, .mk false (innP A) []) else if 1024 ≤ k then (74, zT) else listR (decS f (k + 1) (innP A))
/-- The items that a room is. -/
def decS : Nat → Nat → List Int → Int × List Tr
  | 0, _, _ => (1, [])
  | f + 1, k, A => if A.length = 0 then (0, []) else if (decT f k A).1 = 0 then consR (decT f k A) (decS f k (A.drop (totP A))) else ((decT f k A).1, [])
end
theorem hdP_size {A : List Int} (e : (hdP A).2.2.2 = 0) (l : (hdP A).1 = true) : 1 ≤ (hdP A).2.1 := by
  unfold hdP at e l ⊢
  by_cases k0 : A.length = 0
  · rw [if_pos k0] at e; simp at e
  rw [if_neg k0] at e l ⊢
  by_cases k1 : A.getD 0 0 < 128
  · rw [if_pos k1] at l; simp at l
  rw [if_neg k1] at e l ⊢
  by_cases k2 : A.getD 0 0 % 64 ≤ 55
  · rw [if_pos k2] at e l ⊢
    rw [(fin7_fits e).1]; exact Nat.le_refl _
  rw [if_neg k2] at e l ⊢
  by_cases k3 : A.length - 1 < (A.getD 0 0 % 64).toNat - 55
  · rw [if_pos k3] at e; simp at e
  rw [if_neg k3] at e l ⊢
  by_cases k4 : (A.drop 1).getD 0 0 = 0 ∨ lenQ (A.drop 1) ((A.getD 0 0 % 64).toNat - 55) ≤ 55
  · rw [if_pos k4] at e; simp at e
  rw [if_neg k4] at e l ⊢
  rw [(fin7_fits e).1]; show 1 ≤ 1 + _; omega
theorem innP_len {A : List Int} (e : (hdP A).2.2.2 = 0) : (innP A).length = (hdP A).2.2.1 := by
  have := (hdP_fits e).2.1
  unfold innP
  rw [List.length_take, List.length_drop]; omega
theorem dec_fuel : ∀ f : Nat, (∀ g k A, 2 * A.length + 1 ≤ f → 2 * A.length + 1 ≤ g → decT f k A = decT g k A) ∧ (∀ g k A, 2 * A.length + 2 ≤ f → 2 * A.length + 2 ≤ g → decS f k A = decS g k A)
  | 0 => ⟨fun _ _ _ h _ => by omega, fun _ _ _ h _ => by omega⟩
  | f + 1 => by
    obtain ⟨ihT, ihS⟩ := dec_fuel f
    refine ⟨fun g k A h1 h2 => ?_, fun g k A h1 h2 => ?_⟩
    · obtain ⟨g, rfl⟩ : ∃ m, g = m + 1 := ⟨g - 1, by omega⟩
      rw [decT, decT]
      by_cases e : (hdP A).2.2.2 ≠ 0
      · rw [if_pos e, if_pos e]
      rw [if_neg e, if_neg e]
      have e' := Decidable.not_not.1 e
      by_cases l : (hdP A).1 = false
      · rw [if_pos l, if_pos l]
      rw [if_neg l, if_neg l]
      by_cases d : 1024 ≤ k
      · rw [if_pos d, if_pos d]
      rw [if_neg d, if_neg d]
      have s := hdP_size e' (by simpa using l)
      have i := innP_len e'
      have t := (hdP_fits e').2.1
      rw [ihS g (k + 1) (innP A) (by omega) (by omega)]
    · obtain ⟨g, rfl⟩ : ∃ m, g = m + 1 := ⟨g - 1, by omega⟩
      rw [decS, decS]
      by_cases z : A.length = 0
      · rw [if_pos z, if_pos z]
      rw [if_neg z, if_neg z, ihT g k A (by omega) (by omega)]
      by_cases c : (decT g k A).1 = 0
      · rw [if_pos c, if_pos c]
        have e : (hdP A).2.2.2 = 0 := by
          obtain ⟨g', rfl⟩ : ∃ m, g = m + 1 := ⟨g - 1, by omega⟩
          rw [decT] at c
          by_cases e : (hdP A).2.2.2 ≠ 0
          · rw [if_pos e] at c; exact c
          · exact Decidable.not_not.1 e
        have t := totP_fits e
        have d : (A.drop (totP A)).length = A.length - totP A := List.length_drop ..
        rw [ihS g k (A.drop (totP A)) (by omega) (by omega)]
      · rw [if_neg c, if_neg c]
def dT (k : Nat) (A : List Int) : Int × Tr := decT (2 * A.length + 1) k A
def dS (k : Nat) (A : List Int) : Int × List Tr := decS (2 * A.length + 2) k A
theorem dT_err (k : Nat) {A : List Int} (e : (hdP A).2.2.2 ≠ 0) : dT k A = ((hdP A).2.2.2, zT) := by unfold dT; rw [decT, if_pos e]
theorem dT_text (k : Nat) {A : List Int} (e : (hdP A).2.2.2 = 0) (l : (hdP A).1 = false) : dT k A = (0, .mk false (innP A) []) := by unfold dT; rw [decT, if_neg (fun x => x e), if_pos l]
theorem dT_list {k : Nat} {A : List Int} (e : (hdP A).2.2.2 = 0) (l : (hdP A).1 = true) (d : ¬ 1024 ≤ k) : dT k A = listR (dS (k + 1) (innP A)) := by
  unfold dT dS
  rw [decT, if_neg (fun x => x e), if_neg (by rw [l]; decide), if_neg d]
  have s := hdP_size e l
  have i := innP_len e
  have t := (hdP_fits e).2.1
  rw [(dec_fuel _).2 (2 * (innP A).length + 2) (k + 1) (innP A) (by omega) (Nat.le_refl _)]
theorem dT_ok {k : Nat} {A : List Int} (h : (dT k A).1 = 0) : (hdP A).2.2.2 = 0 := by
  by_cases e : (hdP A).2.2.2 = 0
  · exact e
  · rw [dT_err k e] at h; exact h
theorem dS_nil (k : Nat) {A : List Int} (h : A.length = 0) : dS k A = (0, []) := by unfold dS; rw [decS, if_pos h]
theorem dS_cons (k : Nat) {A : List Int} (h : A.length ≠ 0) : dS k A = consR (dT k A) (dS k (A.drop (totP A))) := by
  unfold dS
  rw [decS, if_neg h]
  have q : decT (2 * A.length + 1) k A = dT k A := rfl
  rw [q]
  by_cases c : (dT k A).1 = 0
  · rw [if_pos c]
    have t := totP_fits (dT_ok c)
    have d : (A.drop (totP A)).length = A.length - totP A := List.length_drop ..
    rw [(dec_fuel _).2 (2 * (A.drop (totP A)).length + 2) k (A.drop (totP A)) (by omega) (Nat.le_refl _)]
  · rw [if_neg c, consR, if_neg c]
theorem getD_app_lt {X Z : List Int} {i : Nat} (h : i < X.length) : (X ++ Z).getD i 0 = X.getD i 0 := by simp [List.getD, List.getElem?_append_left h]
theorem lenQ_app {X Z : List Int} : ∀ k, k ≤ X.length → lenQ (X ++ Z) k = lenQ X k
  | 0, _ => rfl
  | k + 1, h => by rw [lenQ, lenQ, lenQ_app k (by omega), getD_app_lt (by omega)]
/-- A length's bytes, read. -/
theorem lenQ_be (n : Nat) : lenQ (beN n) (beN n).length = n := by
  unfold beN
  by_cases k1 : n < 256
  · rw [if_pos k1]; simp [lenQ]
  rw [if_neg k1]
  by_cases k2 : n < 65536
  · rw [if_pos k2]; simp [lenQ]; omega
  · rw [if_neg k2]; simp [lenQ]; omega
theorem beN_first {n : Nat} (h : 0 < n) : (beN n).getD 0 0 ≠ 0 := by
  unfold beN
  by_cases k1 : n < 256
  · rw [if_pos k1]; simp; omega
  rw [if_neg k1]
  by_cases k2 : n < 65536
  · rw [if_pos k2]; simp; omega
  · rw [if_neg k2]; simp; omega
/-- A head, read. -/
theorem hd_fwd {c : Int} {n : Nat} {R : List Int} (hc : c = 128 ∨ c = 192) (h : n < 16777216) : hdP (hdR c n ++ R) = fin7 (hdR c n ++ R) (decide (192 ≤ c)) (hdR c n).length n := by
  unfold hdR
  by_cases k : n ≤ 55
  · rw [if_pos k]
    have e0 : ([c + (n : Int)] ++ R).getD 0 0 = c + n := by simp
    have el : ([c + (n : Int)] ++ R).length ≠ 0 := by simp
    unfold hdP
    rw [if_neg el, e0, if_neg (by omega), if_pos (by omega)]
    congr 1
    · rcases hc with rfl | rfl
      · simp; omega
      · simp; omega
    · omega
  · rw [if_neg k]
    have bl := beN_len n
    have e0 : ((c + 55 + ((beN n).length : Int)) :: beN n ++ R).getD 0 0 = c + 55 + ((beN n).length : Int) := by simp
    have el : ((c + 55 + ((beN n).length : Int)) :: beN n ++ R).length ≠ 0 := by simp
    have ed : ((c + 55 + ((beN n).length : Int)) :: beN n ++ R).drop 1 = beN n ++ R := by simp
    have ew : ((c + 55 + ((beN n).length : Int)) % 64).toNat - 55 = (beN n).length := by omega
    unfold hdP
    rw [if_neg el, e0, if_neg (by omega), if_neg (by omega), ew, ed, if_neg (by simp), lenQ_app _ (Nat.le_refl _), lenQ_be n, getD_app_lt (by omega), if_neg (by
      intro x
      rcases x with x | x
      · exact beN_first (by omega) x
      · omega)]
    congr 1
    · rcases hc with rfl | rfl
      · simp; omega
      · simp; omega
    · simp; omega
theorem fin7_list {A : List Int} {s h : Nat} (k : s + h ≤ A.length) : fin7 A true s h = (true, s, h, 0) := by unfold fin7; rw [if_neg (by omega), if_neg (by simp)]
theorem fin7_text {A : List Int} {s h : Nat} (k : s + h ≤ A.length) (b : bareB ((A.drop s).take h) = false) : fin7 A false s h = (false, s, h, 0) := by unfold fin7; rw [if_neg (by omega), if_neg (by rw [b]; simp)]
/-- A list's bytes, its head read. -/
theorem hd_list {X R : List Int} (h : X.length < 16777216) : hdP (hdR 192 X.length ++ X ++ R) = (true, (hdR 192 X.length).length, X.length, 0) := by
  rw [List.append_assoc, hd_fwd (.inr rfl) h]
  rw [show decide ((192 : Int) ≤ 192) = true from rfl, fin7_list (by simp)]
theorem inn_app (H X R : List Int) : ((H ++ X ++ R).drop H.length).take X.length = X := by
  rw [List.append_assoc, List.drop_left, List.take_left]
theorem bare_one {X : List Int} (h : bareB X = true) : ∃ x, X = [x] ∧ x < 128 := by
  unfold bareB at h
  simp at h
  obtain ⟨h1, h2⟩ := h
  match X, h1 with
  | [x], _ => exact ⟨x, rfl, by simpa using h2⟩
theorem hd_text {X R : List Int} (h : X.length < 16777216) : (hdP (encX X ++ R)).2.2.2 = 0 ∧ (hdP (encX X ++ R)).1 = false ∧ totP (encX X ++ R) = (encX X).length ∧ innP (encX X ++ R) = X := by
  unfold encX
  by_cases b : bareB X = true
  · rw [if_pos b]
    obtain ⟨x, rfl, hx⟩ := bare_one b
    have e : hdP ([x] ++ R) = (false, 0, 1, 0) := by
      unfold hdP
      rw [if_neg (by simp), if_pos (by simpa using hx)]
    unfold totP innP
    rw [e]
    exact ⟨rfl, rfl, rfl, by simp⟩
  · rw [if_neg b]
    have b' : bareB X = false := by simpa using b
    have e : hdP (hdR 128 X.length ++ X ++ R) = (false, (hdR 128 X.length).length, X.length, 0) := by
      have i := inn_app (hdR 128 X.length) X R
      rw [List.append_assoc] at i ⊢
      rw [hd_fwd (.inl rfl) h, show decide ((192 : Int) ≤ 128) = false from rfl, fin7_text (by simp) (by rw [i]; exact b')]
    unfold totP innP
    rw [e]
    refine ⟨rfl, rfl, by simp, inn_app _ _ _⟩
theorem tot_list {X R : List Int} (h : X.length < 16777216) : totP (hdR 192 X.length ++ X ++ R) = (hdR 192 X.length ++ X).length ∧ innP (hdR 192 X.length ++ X ++ R) = X := by
  unfold totP innP
  rw [hd_list h]
  exact ⟨by simp, inn_app _ _ _⟩
/-- What is encoded, decoded. -/
theorem dT_enc : ∀ (t : Tr) (k : Nat) (R : List Int), oddT t = false → k + dpT t ≤ 1024 → (encT t).length < 16777216 → dT k (encT t ++ R) = (0, t) ∧ totP (encT t ++ R) = (encT t).length := by
  refine Tr.ind fun l X ts ih k R ho hd hl => ?_
  rw [oddT] at ho
  rw [dpT] at hd
  rw [encT] at hl ⊢
  simp only [Bool.or_eq_false_iff] at ho
  obtain ⟨h1, h2⟩ := ho
  cases l with
  | false =>
    simp only [Bool.false_eq_true, if_false] at hl ⊢
    have et : ts = [] := by
      unfold odd1 at h1
      simp at h1
      exact h1
    subst et
    have hx : X.length < 16777216 := by
      unfold encX at hl
      split at hl
      · exact hl
      · rw [List.length_append] at hl; omega
    obtain ⟨e1, e2, e3, e4⟩ := hd_text (X := X) (R := R) hx
    rw [dT_text k e1 e2, e4]
    exact ⟨rfl, e3⟩
  | true =>
    simp only [if_true] at hl hd ⊢
    have eX : X = [] := by
      unfold odd1 at h1
      simp at h1
      exact h1
    subst eX
    have hx : (encS ts).length < 16777216 := by rw [List.length_append] at hl; omega
    obtain ⟨t1, t2⟩ := tot_list (X := encS ts) (R := R) hx
    refine ⟨?_, t1⟩
    have hh := hd_list (X := encS ts) (R := R) hx
    rw [dT_list (by rw [hh]) (by rw [hh]) (by omega), t2]
    have key : ∀ us : List Tr, (∀ u ∈ us, u ∈ ts) → oddS us = false → k + 1 + dpS us ≤ 1024 → (encS us).length < 16777216 → dS (k + 1) (encS us) = (0, us) := by
      intro us
      induction us with
      | nil => intro _ _ _ _; exact dS_nil _ (by rw [encS]; rfl)
      | cons u us ihu =>
        intro hm ho hd hl
        rw [oddS] at ho
        rw [dpS] at hd
        rw [encS] at hl ⊢
        simp only [Bool.or_eq_false_iff] at ho
        rw [List.length_append] at hl
        obtain ⟨d1, d2⟩ := ih u (hm u List.mem_cons_self) (k + 1) (encS us) ho.1 (by omega) (by omega)
        have d3 := ihu (fun x hx => hm x (List.mem_cons_of_mem _ hx)) ho.2 (by omega) (by omega)
        have hne : (encT u ++ encS us).length ≠ 0 := by
          have := totP_fits (dT_ok (by rw [d1]))
          rw [d2] at this
          rw [List.length_append]; omega
        rw [dS_cons _ hne, d1, d2, List.drop_left, d3]
        rfl
    rw [key ts (fun _ h => h) h2 (by omega) hx]
    rfl
end Go.Proofs.Ytahekhamhdfkdaa
