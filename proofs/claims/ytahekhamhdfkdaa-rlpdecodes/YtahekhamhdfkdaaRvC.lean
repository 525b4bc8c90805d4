import Derived.Test.YtahekhamhdfkdaaRvB
/- Layer 7: the head of any room. -/
namespace Go.Proofs.Ytahekhamhdfkdaa
open Go.RowKit Go.Sort
theorem rv_all {A : List Int} {a : Option Addr} {b o c p M : Nat} (hM : A.length ≤ M) (hA : Byts A) (hl : A.length ≤ 16777216) (hc : A.length ≤ c) (ha : Az a b o A) (hp : p ≤ A.length) (w : World) (h : Bz w b o A) :
    Calls Try.prog 50 #[.slice a M c, .int .i64 (p : Int), .int .i64 (A.length : Int)] w fun e w' => e = .returned (hdV p (hdP (A.drop p))) ∧ Below w.heap.size w w' := by
  have ld : (A.drop p).length = A.length - p := List.length_drop ..
  by_cases k0 : (A.drop p).length = 0
  · have e : hdP (A.drop p) = (false, 0, 0, 70) := by unfold hdP; rw [if_pos k0]
    rw [e, hdV_err (by decide), show p = A.length by omega]
    exact rv_empty w
  obtain rfl := ha.cons (by omega)
  obtain ⟨f, ef⟩ : ∃ f, f = (A.drop p).getD 0 0 := ⟨_, rfl⟩
  have ef2 : f = A.getD p 0 := by rw [ef, getD_dropR, Nat.add_zero]
  have hf := hA p
  rw [← ef2] at hf
  have cell := h p (by omega)
  rw [← ef2] at cell
  by_cases k1 : f < 128
  · have e : hdP (A.drop p) = (false, 0, 1, 0) := by unfold hdP; rw [if_neg k0, ← ef, if_pos k1]
    rw [e, hdV_ok]
    have r := rv_low (m := A.length) (c := c) (p := p) hM (by omega) hl hf.1 k1 w cell
    simpa using r
  obtain ⟨q, eq⟩ : ∃ q : Nat, q = (f % 64).toNat := ⟨_, rfl⟩
  have eq' : f % 64 = (q : Int) := by omega
  by_cases k2 : f % 64 ≤ 55
  · have e : hdP (A.drop p) = fin7 (A.drop p) (decide (192 ≤ f)) 1 q := by unfold hdP; rw [if_neg k0, ← ef, if_neg k1, if_pos k2, ← eq]
    rw [e]
    refine rv_short (l := decide (192 ≤ f)) (q := q) (t := bareB (((A.drop p).drop 1).take 1)) hM (by omega) hl hc (by omega) (by omega) rfl eq' (by omega) w cell (fun _ _ hk => ?_) ?_
    · refine ⟨A.getD (p + 1) 0, h (p + 1) hk, ?_⟩
      have : ((((A.drop p).drop 1).take 1)).length = 1 := by rw [List.length_take, List.length_drop, ld]; omega
      unfold bareB
      rw [decide_eq_true this, Bool.true_and]
      congr 2
      simp [List.getD, List.getElem?_drop]
    · unfold fin7
      by_cases k3 : A.length < p + 1 + q
      · rw [if_pos k3, if_pos (by omega), hdV_err (by decide)]
      rw [if_neg k3, if_neg (by omega)]
      by_cases k4 : decide (192 ≤ f) = false ∧ q = 1 ∧ bareB (((A.drop p).drop 1).take 1) = true
      · have k5 := k4.2.1
        subst k5
        rw [if_pos k4, if_pos ⟨k4.1, k4.2.2⟩, hdV_err (by decide)]
      · rw [if_neg k4, if_neg (fun x => k4 ⟨x.1, by
          have b := x.2
          have : q = 1 := by
            unfold bareB at b
            simp at b
            omega
          subst this
          exact ⟨rfl, x.2⟩⟩), hdV_ok]
        rfl
  obtain ⟨n, en⟩ : ∃ n : Nat, n = q - 55 := ⟨_, rfl⟩
  have t2 : f % 64 = 55 + (n : Int) := by rw [eq']; omega
  by_cases k3 : (A.drop p).length - 1 < n
  · have e : hdP (A.drop p) = (false, 0, 0, 70) := by unfold hdP; rw [if_neg k0, ← ef, if_neg k1, if_neg k2, ← eq, ← en, if_pos k3]
    rw [e, hdV_err (by decide)]
    exact rv_end hM (by omega) hl (by omega) (by omega) t2 (by omega) (by omega) w cell
  obtain ⟨X, eX⟩ : ∃ X, X = (A.drop (p + 1)).take n := ⟨_, rfl⟩
  have lX : X.length = n := by rw [eX, List.length_take, List.length_drop]; omega
  have dd : (A.drop p).drop 1 = A.drop (p + 1) := by rw [List.drop_drop]
  have eL : lenQ (A.drop (p + 1)) n = sufN X X.length := by rw [suf_len, lX, eX, lenQ_take _ _ (Nat.le_refl _)]
  have bX : Byts X := fun i => by
    by_cases hi : i < n
    · have := hA (p + 1 + i)
      rw [eX]
      simpa [List.getD, List.getElem?_take, List.getElem?_drop, hi] using this
    · have : X.getD i 0 = 0 := by simp [List.getD, List.getElem?_eq_none (show X.length ≤ i by omega)]
      rw [this]; omega
  have sb := sufN_bound bX X.length
  have n8 : n ≤ 8 := by omega
  have s8 : sufN X X.length < 18446744073709551616 := Int.lt_of_lt_of_le sb.2 (by
    rw [lX]
    exact pow8 n8)
  obtain ⟨L, hL⟩ : ∃ L, L = sufN X X.length := ⟨_, rfl⟩
  have nL : Num L := ⟨by omega, by omega⟩
  have nD : Num ((A.length : Int) - ((p : Int) + 1 + (n : Int))) := ⟨by omega, by omega⟩
  have r := rv_long (b := b) (o := o) (c := c) (m := A.length) (p := p) (k := n) (f := f) (y := A.getD (p + 1) 0) (L := L) (l := decide (192 ≤ f)) (z1 := (A.getD (p + 1) 0 == 0)) (z2 := decide (cmpN L 56 < 0)) (z3 := decide (0 < cmpN L ((A.length : Int) - ((p : Int) + 1 + (n : Int))))) (r := hdV p (hdP (A.drop p))) hM (by omega) hl hc (by omega) (by omega) rfl t2 (by omega) (by omega) w cell (h (p + 1) (by omega)) rfl
    (fun W B => by
      have g := rget_any (a := some ⟨b, o + (p + 1), none⟩) (bb := b) (ob := o + (p + 1)) (cb := c - (p + 1)) (A := X) (.inr rfl) bX (by omega) W (fun i hi => by
        have := (h.keep B) (p + 1 + i) (by omega)
        rw [show o + (p + 1) + i = o + (p + 1 + i) by omega, this, eX]
        simp [List.getD, List.getElem?_drop, show i < n by omega])
      rw [← hL, lX] at g
      exact g) (fun w => rfrom_any ⟨by decide, by decide⟩ w) (fun w => rcmp_any nL ⟨by decide, by decide⟩ w) (fun w => rfrom_any ⟨by omega, by omega⟩ w) (fun w => rcmp_any nL nD w) rfl rfl rfl
    (fun x => by have := of_decide_eq_false x; unfold cmpN at this; split at this <;> omega) (fun x => by have := of_decide_eq_false x; unfold cmpN at this; split at this <;> omega) ?_
  · exact r
  · have y1 : (A.drop (p + 1)).getD 0 0 = A.getD (p + 1) 0 := by rw [getD_dropR, Nat.add_zero]
    have eL2 : lenQ (A.drop (p + 1)) n = L := by rw [eL, hL]
    have c1 : decide (cmpN L 56 < 0) = decide (L ≤ 55) := by
      unfold cmpN
      by_cases k : L = 56
      · rw [if_pos k, k]; decide
      · rw [if_neg k]
        by_cases k' : L < 56
        · rw [if_pos k', decide_eq_true (show L ≤ 55 by omega)]; decide
        · rw [if_neg k', decide_eq_false (show ¬ L ≤ 55 by omega)]; decide
    have c2 : decide (0 < cmpN L ((A.length : Int) - ((p : Int) + 1 + (n : Int)))) = decide ((A.length : Int) < (p : Int) + 1 + (n : Int) + L) := by
      unfold cmpN
      by_cases k : L = (A.length : Int) - ((p : Int) + 1 + (n : Int))
      · rw [if_pos k, decide_eq_false (show ¬ (A.length : Int) < (p : Int) + 1 + (n : Int) + L by omega)]; decide
      · rw [if_neg k]
        by_cases k' : L < (A.length : Int) - ((p : Int) + 1 + (n : Int))
        · rw [if_pos k', decide_eq_false (show ¬ (A.length : Int) < (p : Int) + 1 + (n : Int) + L by omega)]; decide
        · rw [if_neg k', decide_eq_true (show (A.length : Int) < (p : Int) + 1 + (n : Int) + L by omega)]; decide
    rw [c1, c2]
    by_cases k4 : A.getD (p + 1) 0 = 0 ∨ L ≤ 55
    · have e : hdP (A.drop p) = (false, 0, 0, 72) := by unfold hdP; rw [if_neg k0, ← ef, if_neg k1, if_neg k2, ← eq, ← en, if_neg k3, dd, y1, eL2, if_pos k4]
      rw [e, hdV_err (by decide), if_pos (by rcases k4 with k | k; · { rw [k]; rfl }; · { rw [decide_eq_true k, Bool.or_true] })]
    have e : hdP (A.drop p) = fin7 (A.drop p) (decide (192 ≤ f)) (1 + n) L.toNat := by unfold hdP; rw [if_neg k0, ← ef, if_neg k1, if_neg k2, ← eq, ← en, if_neg k3, dd, y1, eL2, if_neg k4]
    have k5 : ¬ L ≤ 55 := fun x => k4 (.inr x)
    rw [e, if_neg (by
      have : A.getD (p + 1) 0 ≠ 0 := fun x => k4 (.inl x)
      rw [beq_false_of_ne this, decide_eq_false k5]; decide)]
    by_cases k6 : (A.length : Int) < (p : Int) + 1 + (n : Int) + L
    · have e2 : fin7 (A.drop p) (decide (192 ≤ f)) (1 + n) L.toNat = (false, 0, 0, 70) := by unfold fin7; rw [if_pos (by omega)]
      rw [e2, hdV_err (by decide), if_pos (decide_eq_true k6)]
    · have e2 : fin7 (A.drop p) (decide (192 ≤ f)) (1 + n) L.toNat = (decide (192 ≤ f), 1 + n, L.toNat, 0) := by
        unfold fin7
        rw [if_neg (by omega), if_neg (fun x => by
          have := bare_long (X := ((A.drop p).drop (1 + n)).take L.toNat) (by rw [List.length_take, List.length_drop, ld]; omega)
          rw [this] at x
          exact absurd x.2 (by decide))]
      rw [e2, hdV_ok, if_neg (by rw [decide_eq_false k6]; decide)]
      have i1 : (p : Int) + ((1 + n : Nat) : Int) = (p : Int) + 1 + (n : Int) := by omega
      have i2 : ((L.toNat : Nat) : Int) = L := by omega
      rw [i1, i2]
end Go.Proofs.Ytahekhamhdfkdaa
