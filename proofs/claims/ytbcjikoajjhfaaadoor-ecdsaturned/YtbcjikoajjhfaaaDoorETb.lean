import Derived.Test.YtbcjikoajjhfaaaDoorEText
import Derived.Test.YtbcjikoajjhfaaaDoorCFp
import Derived.Test.YtbcjikoajjhfaaaDoorETn
namespace Go.Proofs.YtbcjikoajjhfaaaDoor
open Go.RowKit Go.Sort

theorem es_zero : ∀ w, (Op.equalIn 10000 27 (.agg #[.int .u64 (l0 0), .int .u64 (l1 0), .int .u64 (l2 0), .int .u64 (l3 0), .int .u64 (l0 0), .int .u64 (l1 0), .int .u64 (l2 0), .int .u64 (l3 0), .bool false]) (.agg #[.int .u64 0, .int .u64 0, .int .u64 0, .int .u64 0, .int .u64 0, .int .u64 0, .int .u64 0, .int .u64 0, .bool false])).run Tryd.prog w = .ok true w := fun w => by
  have := eq_sig_any (x := 0) (y := 0) (x' := 0) (y' := 0) (i := false) (j := false) ⟨by decide, by decide⟩ ⟨by decide, by decide⟩ ⟨by decide, by decide⟩ ⟨by decide, by decide⟩ w
  obtain ⟨z0, z1, z2, z3⟩ := zero_limbs
  rw [z0, z1, z2, z3] at this ⊢
  simpa using this
theorem eq2 {n m : Int} (hn : Num n) (hm : Num m) {v : Bool} (e : decide (n = m) = v) : ∀ w, (Op.equalIn 10000 25 (.agg #[.int .u64 (l0 n), .int .u64 (l1 n), .int .u64 (l2 n), .int .u64 (l3 n)]) (.agg #[.int .u64 (l0 m), .int .u64 (l1 m), .int .u64 (l2 m), .int .u64 (l3 m)])).run Tryd.prog w = .ok v w := fun w => by
  rw [eq_num hn hm, e]
theorem n_pos : (0 : Int) < nN := by decide
/-- s times the nonce. -/
theorem sw_back {t non : Int} (hn : 0 ≤ non) (hz : modN nN non ≠ 0) (ht : modN nN t = t) : modN nN (modN nN (t * invN nN non) * non) = t := by
  have e := EC.inv_n hn hz
  unfold modN at *
  have h1 : (t * invN nN non % nN * non) % nN = (t * (non * invN nN non % nN)) % nN := by
    rw [Int.mul_emod, Int.emod_emod_of_dvd _ (Int.dvd_refl _), ← Int.mul_emod, Int.mul_emod t (non * invN nN non % nN), Int.emod_emod_of_dvd _ (Int.dvd_refl _), ← Int.mul_emod]
    congr 1
    rw [Int.mul_assoc, Int.mul_comm (invN nN non) non]
  rw [h1, e, Int.mul_one, ht]
theorem neg_back {s t non : Int} (h : modN nN (s * non) = t) : modN nN (modN nN (0 - s) * non) = modN nN (0 - t) := by
  unfold modN at *
  rw [← h]
  have h1 : ((0 - s) % nN * non) % nN = ((0 - s) * non) % nN := by
    rw [Int.mul_emod, Int.emod_emod_of_dvd _ (Int.dvd_refl _), ← Int.mul_emod]
  have h2 : (0 - s * non % nN) % nN = (0 - s * non) % nN := by
    rw [Int.sub_emod, Int.emod_emod_of_dvd _ (Int.dvd_refl _), ← Int.sub_emod]
  rw [h1, h2]
  congr 1
  rw [Int.zero_sub, Int.zero_sub, Int.neg_mul]
theorem odd_is (Y : Int) (h : Num Y) : oddB Y = ((l0 Y).tmod 2 == 1) := by
  unfold oddB bitN l0
  rw [if_neg (by decide)]
  have h0 := h.1
  have e : (Y % 18446744073709551616).tmod 2 = Y % 2 := by
    rw [Int.tmod_eq_emod_of_nonneg (by omega)]; omega
  rw [e]
  have e2 : Y / 2 ^ (0 : Int).toNat % 2 = Y % 2 := by simp
  rw [e2]
  by_cases h1 : Y % 2 = 1 <;> simp [h1]
theorem half_n : shrN nN 1 = 57896044618658097711785492504343953926418782139537452191302581570759080747168 := by decide +kernel
theorem n_lit : nN = 115792089237316195423570985008687907852837564279074904382605163141518161494337 := rfl
theorem mod_small {x : Int} : 0 ≤ modN nN x ∧ modN nN x < nN := modN_lt fit_n x
theorem neg_small {s : Int} (h0 : 0 < s) (h1 : s < nN) : modN nN (0 - s) = nN - s := by
  unfold modN
  have : (0 - s) % nN = (0 - s + nN) % nN := by rw [Int.add_emod_right]
  rw [this, Int.emod_eq_of_lt (by omega) (by omega)]
  omega
theorem fit_true {x : Int} (h0 : x ≠ 0) (h1 : x < nN) : fitN x = true := by unfold fitN; simp [h0, h1]
theorem prod_nz {s non : Int} (s0 : 0 ≤ s) (s1 : s < nN) (h0 : s ≠ 0) (n0 : 0 ≤ non) (n1 : non < nN) (hn : non ≠ 0) : modN nN (s * non) ≠ 0 := fun e => by
  have hz : modN nN non ≠ 0 := by rw [modN_of_lt n0 n1]; exact hn
  have i := EC.inv_n n0 hz
  have h1 : modN nN (s * non * invN nN non) = s := by
    have e1 : s * non * invN nN non = s * (non * invN nN non) := Int.mul_assoc _ _ _
    rw [e1]
    unfold modN at *
    rw [Int.mul_emod, i, Int.mul_one, Int.emod_emod_of_dvd _ (Int.dvd_refl _), Int.emod_eq_of_lt s0 s1]
  apply h0
  rw [← h1]
  unfold modN at *
  rw [Int.mul_emod, e, Int.zero_mul]
  rfl
set_option maxHeartbeats 4000000 in
theorem etextbook_any {key non : Int} {A : List Int} (hk : Num key) (hn : Num non) (hl : A.length = 32) (hA : Byts A) (w : World) (hm : Mds w) (hc : Cols w) :
    Calls Tryd.prog 7 #[.agg #[.int .u64 (l0 key), .int .u64 (l1 key), .int .u64 (l2 key), .int .u64 (l3 key)], .agg #[.int .u64 (l0 non), .int .u64 (l1 non), .int .u64 (l2 non), .int .u64 (l3 non)], hashV A] w fun e w' => e = .returned (.bool true) ∧ Below w.heap.size w w' := by
  obtain ⟨X, Y, j, hv, ev⟩ := rep_pt (EC.smul_on EC.gJ_on non.toNat)
  have nX := hv.low.1.num; have nY := hv.low.2.num
  have S0 := esw_any hk hn hA hl hv ev
  have F1 := lfit_any hk; have F2 := lfit_any hn; have F3 := lfit_any nX
  cases h1 : fitN key with
  | false =>
    rw [h1] at F1
    have e : swR key non A X Y = ⟨0, 0, false, 60⟩ := by unfold swR; rw [h1, Bool.false_and, if_pos rfl]
    rw [e] at S0
    exact etb_a0 hl S0 F1 es_zero w hm hc
  | true =>
    rw [h1] at F1
    cases h2 : fitN non with
    | false =>
      rw [h2] at F2
      have e : swR key non A X Y = ⟨0, 0, false, 60⟩ := by unfold swR; rw [h1, h2, Bool.and_false, if_pos rfl]
      rw [e] at S0
      exact etb_a1 hl S0 F1 F2 es_zero w hm hc
    | true =>
      rw [h2] at F2
      have b0 : swR key non A X Y = if ¬ X < nN then ⟨0, 0, false, 64⟩ else if X = 0 ∨ swS key non (dgN A) X = 0 then ⟨0, 0, false, 65⟩ else if lowN (swS key non (dgN A) X) then ⟨X, swS key non (dgN A) X, oddB Y, 0⟩ else ⟨X, modN nN (0 - swS key non (dgN A) X), !oddB Y, 0⟩ := by
        unfold swR; rw [h1, h2, Bool.and_self, if_neg (by decide)]
      have MG : Hid (∀ w, Mds w → Cols w → Calls Tryd.prog 25 #[.agg #[.int .u64 (l0 non), .int .u64 (l1 non), .int .u64 (l2 non), .int .u64 (l3 non)]] w fun e w' => e = .returned (.agg #[.int .u64 (l0 X), .int .u64 (l1 X), .int .u64 (l2 X), .int .u64 (l3 X), .int .u64 (l0 Y), .int .u64 (l1 Y), .int .u64 (l2 Y), .int .u64 (l3 Y), .bool j]) ∧ Below w.heap.size w w') := fun w hm hc => cmulg_any hn hv ev w hm hc
      have NU : Hid (∀ w, Mds w → Calls Tryd.prog 27 #[.agg ((A.map fun z => Value.int .u8 z).toArray)] w fun e w' => e = .returned (.agg #[.int .u64 (l0 (dgN A)), .int .u64 (l1 (dgN A)), .int .u64 (l2 (dgN A)), .int .u64 (l3 (dgN A))]) ∧ Below w.heap.size w w') := fun w hm => lnumber_any hA hl w hm
      have nd : Num (dgN A) := modN_Num fit_n _
      have TI : Hid (∀ w, Mds w → Calls Tryd.prog 28 #[.agg #[.int .u64 (l0 X), .int .u64 (l1 X), .int .u64 (l2 X), .int .u64 (l3 X)], .agg #[.int .u64 (l0 key), .int .u64 (l1 key), .int .u64 (l2 key), .int .u64 (l3 key)]] w fun e w' => e = .returned (.agg #[.int .u64 (l0 (modN nN (X * key))), .int .u64 (l1 (modN nN (X * key))), .int .u64 (l2 (modN nN (X * key))), .int .u64 (l3 (modN nN (X * key)))]) ∧ Below w.heap.size w w') := ltimes_any nX hk
      have PL : Hid (∀ w, Mds w → Calls Tryd.prog 26 #[.agg #[.int .u64 (l0 (dgN A)), .int .u64 (l1 (dgN A)), .int .u64 (l2 (dgN A)), .int .u64 (l3 (dgN A))], .agg #[.int .u64 (l0 (modN nN (X * key))), .int .u64 (l1 (modN nN (X * key))), .int .u64 (l2 (modN nN (X * key))), .int .u64 (l3 (modN nN (X * key)))]] w fun e w' => e = .returned (.agg #[.int .u64 (l0 (modN nN (dgN A + modN nN (X * key)))), .int .u64 (l1 (modN nN (dgN A + modN nN (X * key)))), .int .u64 (l2 (modN nN (dgN A + modN nN (X * key)))), .int .u64 (l3 (modN nN (dgN A + modN nN (X * key))))]) ∧ Below w.heap.size w w') := lplus6_any nd (modN_Num fit_n _)
      have es : swS key non (dgN A) X = modN nN (modN nN (dgN A + modN nN (X * key)) * invN nN non) := rfl
      have nt : Num (modN nN (dgN A + modN nN (X * key))) := modN_Num fit_n _
      have mt : modN nN (modN nN (dgN A + modN nN (X * key))) = modN nN (dgN A + modN nN (X * key)) := modN_of_lt mod_small.1 mod_small.2
      generalize modN nN (dgN A + modN nN (X * key)) = t at *
      generalize modN nN (X * key) = a at *
      obtain ⟨k1, k2⟩ := fitN_fit h2
      have hz : modN nN non ≠ 0 := by rw [modN_of_lt hn.1 k2]; exact k1
      have back := sw_back hn.1 hz mt
      rw [← es] at back
      have sl : 0 ≤ swS key non (dgN A) X ∧ swS key non (dgN A) X < nN := mod_small
      have ns : Num (swS key non (dgN A) X) := modN_Num fit_n _
      generalize swS key non (dgN A) X = s at *
      clear es
      cases h3 : fitN X with
      | false =>
        rw [h3] at F3
        by_cases c1 : X < nN
        · have c2 : X = 0 := by
            unfold fitN at h3
            rw [decide_eq_true c1, Bool.and_true] at h3
            simpa using h3
          rw [if_neg (not_not_intro c1), if_pos (.inl c2)] at b0
          rw [b0] at S0
          exact etb_b65 hl S0 F1 F2 MG NU TI PL F3 es_zero w hm hc
        · rw [if_pos c1] at b0
          rw [b0] at S0
          exact etb_b64 hl S0 F1 F2 MG NU TI PL F3 es_zero w hm hc
      | true =>
        rw [h3] at F3
        obtain ⟨x1, x2⟩ := fitN_fit h3
        rw [if_neg (not_not_intro x2)] at b0
        by_cases c3 : t = 0
        · have c4 : s = 0 := by
            have : modN nN (s * non) = 0 := by rw [back, c3]
            by_cases h0 : s = 0
            · exact h0
            · exact absurd this (prod_nz sl.1 sl.2 h0 hn.1 k2 k1)
          rw [if_pos (.inr c4)] at b0
          rw [b0] at S0
          exact etb_c hl S0 F1 F2 MG NU TI PL F3 es_zero (eqz6 nt (decide_eq_true c3)) w hm hc
        · have c4 : s ≠ 0 := fun h => c3 (by rw [← back, h, Int.zero_mul]; rfl)
          rw [if_neg (fun h => h.elim x1 c4)] at b0
          have E2 := eqz6 nt (decide_eq_false c3)
          have E3 := eq2 nX nX (v := true) (by simp)
          have OD := odd_is Y nY
          cases h5 : lowN s with
          | true =>
            rw [h5, if_pos rfl] at b0
            rw [b0] at S0
            have CK := echeck_any (o := oddB Y) nX ns
            rw [show chkN X s = 0 by unfold chkN; rw [h3, fit_true c4 sl.2, h5]; simp] at CK
            have T2 := ltimes_any ns hn
            rw [back] at T2
            exact etb_d1 hl S0 F1 F2 MG NU TI PL F3 E2 E3 CK T2 (eq2 nt nt (by simp)) OD w hm hc
          | false =>
            rw [h5, if_neg (by decide)] at b0
            rw [b0] at S0
            have es2 := neg_small (s := s) (by omega) sl.2
            have ns2 : Num (modN nN (0 - s)) := modN_Num fit_n _
            have low2 : lowN (modN nN (0 - s)) = true := by
              unfold lowN at h5 ⊢
              rw [es2, half_n]
              rw [half_n] at h5
              have h6 : ¬ s ≤ 57896044618658097711785492504343953926418782139537452191302581570759080747168 := by simpa using h5
              rw [n_lit]
              exact decide_eq_true (by omega)
            have CK := echeck_any (o := !oddB Y) nX ns2
            rw [show chkN X (modN nN (0 - s)) = 0 by
              unfold chkN
              rw [h3, fit_true (by rw [es2]; have := sl.2; omega) (by rw [es2]; omega), low2]; simp] at CK
            have T2 := ltimes_any ns2 hn
            rw [neg_back back] at T2
            have nq : Num (modN nN (0 - t)) := modN_Num fit_n _
            have tl : 0 ≤ t ∧ t < nN := by rw [← mt]; exact mod_small
            have ne : modN nN (0 - t) ≠ t := by
              rw [neg_small (by omega) tl.2, n_lit]; omega
            exact etb_d2 hl S0 F1 F2 MG NU TI PL F3 E2 E3 CK T2 (eq2 nq nt (decide_eq_false ne)) (lneg_any nt) (eq2 nq nq (by simp)) (by rw [OD]; exact rfl) w hm hc
end Go.Proofs.YtbcjikoajjhfaaaDoor

namespace Go.Proofs.YtbcjikoajjhfaaaDoor
open Go.RowKit Go.Sort

/-- The opposite's value. -/
theorem neg_val {X Y : Int} {j : Bool} (h : Vd X Y j) : Vd X (modN pN (0 - Y)) j ∧ ptOf X (modN pN (0 - Y)) j = (ptOf X Y j).neg := by
  cases j with
  | true => obtain ⟨rfl, rfl⟩ := h; exact ⟨⟨rfl, rfl⟩, rfl⟩
  | false =>
    have en : EC.fp (modN pN (0 - Y)) = -EC.fp Y := by
      rw [EC.fp_mod, EC.fp_sub, EC.fp_zero]
      generalize EC.fp Y = y
      grind -lia -linarith
    have e : ptOf X (modN pN (0 - Y)) false = (ptOf X Y false).neg := by
      show EC.Pt.a _ _ = EC.Pt.a _ _
      rw [en]
    refine ⟨⟨h.1, EC.low_mod _, ?_⟩, e⟩
    rw [e]
    have h0 : EC.fp Y * EC.fp Y = EC.fp X * EC.fp X * EC.fp X + 7 := h.2.2
    show -EC.fp Y * -EC.fp Y = EC.fp X * EC.fp X * EC.fp X + 7
    generalize EC.fp Y = y at *; generalize EC.fp X = x at *
    grind -lia -linarith
/-- The number that a nonce makes t with is one alone. -/
theorem sw_one {x t non : Int} (x0 : 0 ≤ x) (x1 : x < nN) (hn : 0 ≤ non) (hz : modN nN non ≠ 0) (h : modN nN (x * non) = t) : modN nN (t * invN nN non) = x := by
  have i := EC.inv_n hn hz
  rw [← h]
  unfold modN at *
  have h1 : (x * non % nN * invN nN non) % nN = (x * (non * invN nN non % nN)) % nN := by
    rw [Int.mul_emod, Int.emod_emod_of_dvd _ (Int.dvd_refl _), ← Int.mul_emod, Int.mul_emod x (non * invN nN non % nN), Int.emod_emod_of_dvd _ (Int.dvd_refl _), ← Int.mul_emod]
    congr 1
    rw [Int.mul_assoc]
  rw [h1, i, Int.mul_one, Int.emod_eq_of_lt x0 x1]
theorem neg_neg_mul {s non : Int} : modN nN (modN nN (0 - s) * modN nN (0 - non)) = modN nN (s * non) := by
  unfold modN
  rw [← Int.mul_emod]
  congr 1
  rw [Int.zero_sub, Int.zero_sub, Int.neg_mul_neg]
theorem sw_turned {key non dg X : Int} (h0 : 0 < non) (h1 : non < nN) : swS key (modN nN (0 - non)) dg X = modN nN (0 - swS key non dg X) := by
  have hz : modN nN non ≠ 0 := by rw [modN_of_lt (by omega) h1]; omega
  have e' := neg_small h0 h1
  have hz' : modN nN (modN nN (0 - non)) ≠ 0 := by
    rw [modN_of_lt mod_small.1 mod_small.2, e']; omega
  have mt : modN nN (modN nN (dg + modN nN (X * key))) = modN nN (dg + modN nN (X * key)) := modN_of_lt mod_small.1 mod_small.2
  have back := sw_back (t := modN nN (dg + modN nN (X * key))) (by omega) hz mt
  refine sw_one (t := modN nN (dg + modN nN (X * key))) (x := modN nN (0 - swS key non dg X)) mod_small.1 mod_small.2 mod_small.1 hz' ?_
  rw [neg_neg_mul]
  exact back
theorem low_turned {s : Int} (h0 : 0 < s) (h1 : s < nN) : lowN (modN nN (0 - s)) = !lowN s := by
  unfold lowN
  rw [neg_small h0 h1, half_n, n_lit]
  by_cases h : s ≤ 57896044618658097711785492504343953926418782139537452191302581570759080747168
  · rw [decide_eq_true h, decide_eq_false (by omega)]; rfl
  · rw [decide_eq_false h, decide_eq_true (by rw [n_lit] at h1; omega)]; rfl
theorem odd_turned {X Y : Int} (h : Vd X Y false) : oddB (modN pN (0 - Y)) = !oddB Y := by
  have hy : Y ≠ 0 := fun e => by
    subst e
    have h0 : EC.fp 0 * EC.fp 0 = EC.fp X * EC.fp X * EC.fp X + 7 := h.2.2
    rw [EC.fp_zero] at h0
    refine EC.no_two_p (EC.fp X) ?_
    rw [← h0]
    decide +kernel
  obtain ⟨a, b⟩ := h.2.1
  have e : modN pN (0 - Y) = pN - Y := by
    unfold modN
    have : (0 - Y) % pN = (0 - Y + pN) % pN := by rw [Int.add_emod_right]
    rw [this, Int.emod_eq_of_lt (by omega) (by omega)]
    omega
  rw [EC.pN_is] at b
  rw [e, EC.pN_is]
  unfold oddB bitN
  rw [if_neg (by decide), if_neg (by decide)]
  simp only [show (0 : Int).toNat = 0 from rfl, Int.pow_zero, Int.ediv_one]
  by_cases h1 : Y % 2 = 1
  · rw [decide_eq_true h1, decide_eq_false (by omega)]; rfl
  · rw [decide_eq_false h1, decide_eq_true (by omega)]; rfl
theorem turned_pt {non : Int} (h0 : 0 < non) (h1 : non < nN) : EC.smul (modN nN (0 - non)).toNat EC.gJ.pt = (EC.smul non.toNat EC.gJ.pt).neg := by
  rw [neg_small h0 h1]
  have hn : non.toNat ≤ 115792089237316195423570985008687907852837564279074904382605163141518161494337 := by rw [n_lit] at h1; omega
  rw [EC.base_g.neg hn]
  congr 1
  rw [n_lit]; omega
/-- A nonce and its opposite make one signature. -/
theorem swR_turned {key non X Y : Int} {A : List Int} {j : Bool} (h1 : fitN key = true) (h2 : fitN non = true) (n0 : 0 ≤ non) (hv : Vd X Y j) : swR key (modN nN (0 - non)) A X (modN pN (0 - Y)) = swR key non A X Y := by
  obtain ⟨k1, k2⟩ := fitN_fit h2
  have n1 : 0 < non := by omega
  have e' := neg_small n1 k2
  have h3 : fitN (modN nN (0 - non)) = true := fit_true (by rw [e']; omega) (by rw [e']; omega)
  have es := sw_turned (key := key) (dg := dgN A) (X := X) n1 k2
  have sl : 0 ≤ swS key non (dgN A) X ∧ swS key non (dgN A) X < nN := mod_small
  unfold swR
  rw [h1, h2, h3, es]
  generalize swS key non (dgN A) X = s at *
  simp only [Bool.and_self, Bool.true_eq_false, if_false]
  by_cases c1 : X < nN
  · rw [if_neg (not_not_intro c1), if_neg (not_not_intro c1)]
    by_cases cx : X = 0
    · rw [if_pos (.inl cx), if_pos (.inl cx)]
    · by_cases cs : s = 0
      · rw [if_pos (.inr (by rw [cs]; rfl)), if_pos (.inr cs)]
      · have s1 : 0 < s := by omega
        have e2 := neg_small s1 sl.2
        have q1 : ¬ (X = 0 ∨ modN nN (0 - s) = 0) := fun h => h.elim cx (by rw [e2]; omega)
        have q2 : ¬ (X = 0 ∨ s = 0) := fun h => h.elim cx cs
        rw [if_neg q1, if_neg q2, low_turned s1 sl.2]
        have hj : j = false := by
          cases j with
          | false => rfl
          | true => exact absurd hv.1 cx
        subst hj
        rw [odd_turned hv]
        have e3 : modN nN (0 - modN nN (0 - s)) = s := by
          rw [e2, neg_small (by omega) (by omega)]; omega
        cases hl : lowN s with
        | true => rw [e3]; simp
        | false => simp
  · rw [if_pos c1, if_pos c1]
end Go.Proofs.YtbcjikoajjhfaaaDoor

namespace Go.Proofs.YtbcjikoajjhfaaaDoor
open Go.RowKit Go.Sort

theorem es_same {r s : Int} {o : Bool} (hr : Num r) (hs : Num s) : ∀ w, (Op.equalIn 10000 27 (.agg #[.int .u64 (l0 r), .int .u64 (l1 r), .int .u64 (l2 r), .int .u64 (l3 r), .int .u64 (l0 s), .int .u64 (l1 s), .int .u64 (l2 s), .int .u64 (l3 s), .bool o]) (.agg #[.int .u64 (l0 r), .int .u64 (l1 r), .int .u64 (l2 r), .int .u64 (l3 r), .int .u64 (l0 s), .int .u64 (l1 s), .int .u64 (l2 s), .int .u64 (l3 s), .bool o])).run Tryd.prog w = .ok true w := fun w => by
  have := eq_sig_any (i := o) (j := o) hr hs hr hs w
  simpa using this
theorem eturned_ok {key non r s : Int} {o : Bool} {A : List Int} (hl : A.length = 32) (hn : Num non) (F1 : Hid (∀ w, Mds w → Calls Tryd.prog 22 #[.agg #[.int .u64 (l0 key), .int .u64 (l1 key), .int .u64 (l2 key), .int .u64 (l3 key)]] w fun e w' => e = .returned (.bool true) ∧ Below w.heap.size w w')) (F2 : Hid (∀ w, Mds w → Calls Tryd.prog 22 #[.agg #[.int .u64 (l0 non), .int .u64 (l1 non), .int .u64 (l2 non), .int .u64 (l3 non)]] w fun e w' => e = .returned (.bool true) ∧ Below w.heap.size w w'))
    (S0 : Hid (∀ w, Mds w → Cols w → Calls Tryd.prog 21 #[.agg #[.int .u64 (l0 key), .int .u64 (l1 key), .int .u64 (l2 key), .int .u64 (l3 key)], .agg #[.int .u64 (l0 non), .int .u64 (l1 non), .int .u64 (l2 non), .int .u64 (l3 non)], .agg ((A.map fun z => Value.int .u8 z).toArray)] w fun e w' => e = .returned (.tuple #[.agg #[.int .u64 (l0 r), .int .u64 (l1 r), .int .u64 (l2 r), .int .u64 (l3 r), .int .u64 (l0 s), .int .u64 (l1 s), .int .u64 (l2 s), .int .u64 (l3 s), .bool o], .int .i64 0]) ∧ Below w.heap.size w w')) (S1 : Hid (∀ w, Mds w → Cols w → Calls Tryd.prog 21 #[.agg #[.int .u64 (l0 key), .int .u64 (l1 key), .int .u64 (l2 key), .int .u64 (l3 key)], .agg #[.int .u64 (l0 (modN nN (0 - non))), .int .u64 (l1 (modN nN (0 - non))), .int .u64 (l2 (modN nN (0 - non))), .int .u64 (l3 (modN nN (0 - non)))], .agg ((A.map fun z => Value.int .u8 z).toArray)] w fun e w' => e = .returned (.tuple #[.agg #[.int .u64 (l0 r), .int .u64 (l1 r), .int .u64 (l2 r), .int .u64 (l3 r), .int .u64 (l0 s), .int .u64 (l1 s), .int .u64 (l2 s), .int .u64 (l3 s), .bool o], .int .i64 0]) ∧ Below w.heap.size w w')) (hr : Num r) (fr : fitN r = true) (s0 : 0 < s) (s1 : s < nN) (ls : lowN s = true) (w : World) (hm : Mds w) (hc : Cols w) : Calls Tryd.prog 6 #[.agg #[.int .u64 (l0 key), .int .u64 (l1 key), .int .u64 (l2 key), .int .u64 (l3 key)], .agg #[.int .u64 (l0 non), .int .u64 (l1 non), .int .u64 (l2 non), .int .u64 (l3 non)], hashV A] w fun e w' => e = .returned (.bool true) ∧ Below w.heap.size w w' := by
  have ns : Num s := ⟨by omega, by have := num_n.2; omega⟩
  have nh : Num (modN nN (0 - s)) := modN_Num fit_n _
  have e2 := neg_small s0 s1
  have fh : fitN (modN nN (0 - s)) = true := fit_true (by rw [e2]; omega) (by rw [e2]; omega)
  have lh : lowN (modN nN (0 - s)) = false := by rw [low_turned s0 s1, ls]; rfl
  have K1 := echeck_any (o := o) hr nh
  rw [show chkN r (modN nN (0 - s)) = 63 by unfold chkN; rw [fr, fh, lh]; simp] at K1
  have K2 := echeck_any (r := 0) (o := o) ⟨by decide, by decide⟩ ns
  rw [show chkN 0 s = 61 by unfold chkN; rw [show fitN 0 = false by rfl]; simp] at K2
  obtain ⟨z0, z1, z2, z3⟩ := zero_limbs
  rw [z0, z1, z2, z3] at K2
  have K3 := echeck_any (o := o) hr num_n
  rw [show chkN r nN = 62 by unfold chkN; rw [fr, show fitN nN = false by unfold fitN; simp]; simp] at K3
  exact etn_ok hl S0 F1 F2 (lneg_any hn) S1 (es_same hr ns) (fun w hm => Modulus_good kind_n w hm) (lneg_any ns) K1 K2 K3 w hm hc
set_option maxHeartbeats 4000000 in
theorem eturned_any {key non : Int} {A : List Int} (hk : Num key) (hn : Num non) (hl : A.length = 32) (hA : Byts A) (w : World) (hm : Mds w) (hc : Cols w) : Calls Tryd.prog 6 #[.agg #[.int .u64 (l0 key), .int .u64 (l1 key), .int .u64 (l2 key), .int .u64 (l3 key)], .agg #[.int .u64 (l0 non), .int .u64 (l1 non), .int .u64 (l2 non), .int .u64 (l3 non)], hashV A] w fun e w' => e = .returned (.bool true) ∧ Below w.heap.size w w' := by
  obtain ⟨X, Y, j, hv, ev⟩ := rep_pt (EC.smul_on EC.gJ_on non.toNat)
  have nX := hv.low.1.num
  have S0 := esw_any hk hn hA hl hv ev
  have F1 := lfit_any hk; have F2 := lfit_any hn
  cases h1 : fitN key with
  | false =>
    rw [h1] at F1
    have e : swR key non A X Y = ⟨0, 0, false, 60⟩ := by unfold swR; rw [h1, Bool.false_and, if_pos rfl]
    rw [e] at S0
    exact etn_a0 hl S0 F1 w hm hc
  | true =>
    rw [h1] at F1
    cases h2 : fitN non with
    | false =>
      rw [h2] at F2
      have e : swR key non A X Y = ⟨0, 0, false, 60⟩ := by unfold swR; rw [h1, h2, Bool.and_false, if_pos rfl]
      rw [e] at S0
      exact etn_a1 hl S0 F1 F2 w hm hc
    | true =>
      rw [h2] at F2
      obtain ⟨k1, k2⟩ := fitN_fit h2
      have p0 : 0 < non := by have := hn.1; omega
      obtain ⟨hv', ev'⟩ := neg_val hv
      have S1 := esw_any hk (modN_Num fit_n (0 - non)) hA hl hv' (by rw [ev', ev, turned_pt p0 k2])
      rw [swR_turned h1 h2 hn.1 hv] at S1
      have b0 : swR key non A X Y = if ¬ X < nN then ⟨0, 0, false, 64⟩ else if X = 0 ∨ swS key non (dgN A) X = 0 then ⟨0, 0, false, 65⟩ else if lowN (swS key non (dgN A) X) then ⟨X, swS key non (dgN A) X, oddB Y, 0⟩ else ⟨X, modN nN (0 - swS key non (dgN A) X), !oddB Y, 0⟩ := by
        unfold swR; rw [h1, h2, Bool.and_self, if_neg (by decide)]
      have sl : 0 ≤ swS key non (dgN A) X ∧ swS key non (dgN A) X < nN := mod_small
      generalize swS key non (dgN A) X = s at *
      by_cases c1 : X < nN
      · rw [if_neg (not_not_intro c1)] at b0
        by_cases c2 : X = 0 ∨ s = 0
        · rw [if_pos c2] at b0
          rw [b0] at S0 S1
          exact etn_e65 hl S0 F1 F2 (lneg_any hn) S1 (es_same ⟨by decide, by decide⟩ ⟨by decide, by decide⟩) w hm hc
        · rw [if_neg c2] at b0
          have x1 : X ≠ 0 := fun e => c2 (.inl e)
          have s0 : 0 < s := by have h : s ≠ 0 := fun e => c2 (.inr e); omega
          have fr := fit_true x1 c1
          cases h5 : lowN s with
          | true =>
            rw [h5, if_pos rfl] at b0
            rw [b0] at S0 S1
            exact eturned_ok hl hn F1 F2 S0 S1 nX fr s0 sl.2 h5 w hm hc
          | false =>
            rw [h5, if_neg (by decide)] at b0
            rw [b0] at S0 S1
            have e2 := neg_small s0 sl.2
            exact eturned_ok hl hn F1 F2 S0 S1 nX fr (by show 0 < modN nN (0 - s); rw [e2]; omega) (by show modN nN (0 - s) < nN; rw [e2]; omega) (by show lowN (modN nN (0 - s)) = true; rw [low_turned s0 sl.2, h5]; rfl) w hm hc
      · rw [if_pos c1] at b0
        rw [b0] at S0 S1
        exact etn_e64 hl S0 F1 F2 (lneg_any hn) S1 (es_same ⟨by decide, by decide⟩ ⟨by decide, by decide⟩) w hm hc
end Go.Proofs.YtbcjikoajjhfaaaDoor
