import Derived.Test.YtbcjikoajjhfaaaDoorEText
import Derived.Test.YtbcjikoajjhfaaaDoorCFp
namespace Go.Proofs.YtbcjikoajjhfaaaDoor
open Go.RowKit Go.Sort

theorem es_zero : ∀ w, (Op.equalIn 10000 27 (.agg #[.int .u64 (l0 0), .int .u64 (l1 0), .int .u64 (l2 0), .int .u64 (l3 0), .int .u64 (l0 0), .int .u64 (l1 0), .int .u64 (l2 0), .int .u64 (l3 0), .bool false]) (.agg #[.int .u64 0, .int .u64 0, .int .u64 0, .int .u64 0, .int .u64 0, .int .u64 0, .int .u64 0, .int .u64 0, .bool false])).run Tryd.prog w = .ok true w := fun w => by
  have := eq_sig_any (x := 0) (y := 0) (x' := 0) (y' := 0) (i := false) (j := false) ⟨by decide, by decide⟩ ⟨by decide, by decide⟩ ⟨by decide, by decide⟩ ⟨by decide, by decide⟩ w
  obtain ⟨z0, z1, z2, z3⟩ := zero_limbs
  rw [z0, z1, z2, z3] at this ⊢
  simpa using this
theorem eq2 {n m : Int} (hn : Num n) (hm : Num m) {v : Bool} (e : decide (n = m) = v) : ∀ w, (Op.equalIn 10000 25 (.agg #[.int .u64 (l0 n), .int .u64 (l1 n), .int .u64 (l2 n), .int .u64 (l3 n)]) (.agg #[.int .u64 (l0 m), .int .u64 (l1 m), .int .u64 (l2 m), .int .u64 (l3 m)])).run Tryd.prog w = .ok v w := fun w => by
  rw [eq_num hn hm, e]
theorem n_pos : (0 : Int) < nN := by decide
/-- s times the nonce. -/
theorem sw_back {t non : Int} (hn : 0 ≤ non) (hz : modN nN non ≠ 0) (ht : modN nN t = t) : modN nN (modN nN (t * invN nN non) * non) = t := by
  have e := EC.inv_n hn hz
  unfold modN at *
  have h1 : (t * invN nN non % nN * non) % nN = (t * (non * invN nN non % nN)) % nN := by
    rw [Int.mul_emod, Int.emod_emod_of_dvd _ (Int.dvd_refl _), ← Int.mul_emod, Int.mul_emod t (non * invN nN non % nN), Int.emod_emod_of_dvd _ (Int.dvd_refl _), ← Int.mul_emod]
    congr 1
    rw [Int.mul_assoc, Int.mul_comm (invN nN non) non]
  rw [h1, e, Int.mul_one, ht]
theorem neg_back {s t non : Int} (h : modN nN (s * non) = t) : modN nN (modN nN (0 - s) * non) = modN nN (0 - t) := by
  unfold modN at *
  rw [← h]
  have h1 : ((0 - s) % nN * non) % nN = ((0 - s) * non) % nN := by
    rw [Int.mul_emod, Int.emod_emod_of_dvd _ (Int.dvd_refl _), ← Int.mul_emod]
  have h2 : (0 - s * non % nN) % nN = (0 - s * non) % nN := by
    rw [Int.sub_emod, Int.emod_emod_of_dvd _ (Int.dvd_refl _), ← Int.sub_emod]
  rw [h1, h2]
  congr 1
  rw [Int.zero_sub, Int.zero_sub, Int.neg_mul]
theorem odd_is (Y : Int) (h : Num Y) : oddB Y = ((l0 Y).tmod 2 == 1) := by
  unfold oddB bitN l0
  rw [if_neg (by decide)]
  have h0 := h.1
  have e : (Y % 18446744073709551616).tmod 2 = Y % 2 := by
    rw [Int.tmod_eq_emod_of_nonneg (by omega)]; omega
  rw [e]
  have e2 : Y / 2 ^ (0 : Int).toNat % 2 = Y % 2 := by simp
  rw [e2]
  by_cases h1 : Y % 2 = 1 <;> simp [h1]
theorem half_n : shrN nN 1 = 57896044618658097711785492504343953926418782139537452191302581570759080747168 := by decide +kernel
theorem n_lit : nN = 115792089237316195423570985008687907852837564279074904382605163141518161494337 := rfl
theorem mod_small {x : Int} : 0 ≤ modN nN x ∧ modN nN x < nN := modN_lt fit_n x
theorem neg_small {s : Int} (h0 : 0 < s) (h1 : s < nN) : modN nN (0 - s) = nN - s := by
  unfold modN
  have : (0 - s) % nN = (0 - s + nN) % nN := by rw [Int.add_emod_right]
  rw [this, Int.emod_eq_of_lt (by omega) (by omega)]
  omega
theorem fit_true {x : Int} (h0 : x ≠ 0) (h1 : x < nN) : fitN x = true := by unfold fitN; simp [h0, h1]
theorem prod_nz {s non : Int} (s0 : 0 ≤ s) (s1 : s < nN) (h0 : s ≠ 0) (n0 : 0 ≤ non) (n1 : non < nN) (hn : non ≠ 0) : modN nN (s * non) ≠ 0 := fun e => by
  have hz : modN nN non ≠ 0 := by rw [modN_of_lt n0 n1]; exact hn
  have i := EC.inv_n n0 hz
  have h1 : modN nN (s * non * invN nN non) = s := by
    have e1 : s * non * invN nN non = s * (non * invN nN non) := Int.mul_assoc _ _ _
    rw [e1]
    unfold modN at *
    rw [Int.mul_emod, i, Int.mul_one, Int.emod_emod_of_dvd _ (Int.dvd_refl _), Int.emod_eq_of_lt s0 s1]
  apply h0
  rw [← h1]
  unfold modN at *
  rw [Int.mul_emod, e, Int.zero_mul]
  rfl
set_option maxHeartbeats 4000000 in
theorem etextbook_any {key non : Int} {A : List Int} (hk : Num key) (hn : Num non) (hl : A.length = 32) (hA : Byts A) (w : World) (hm : Mds w) (hc : Cols w) :
    Calls Tryd.prog 7 #[.agg #[.int .u64 (l0 key), .int .u64 (l1 key), .int .u64 (l2 key), .int .u64 (l3 key)], .agg #[.int .u64 (l0 non), .int .u64 (l1 non), .int .u64 (l2 non), .int .u64 (l3 non)], hashV A] w fun e w' => e = .returned (.bool true) ∧ Below w.heap.size w w' := by
  obtain ⟨X, Y, j, hv, ev⟩ := rep_pt (EC.smul_on EC.gJ_on non.toNat)
  have nX := hv.low.1.num; have nY := hv.low.2.num
  have S0 := esw_any hk hn hA hl hv ev
  have F1 := lfit_any hk; have F2 := lfit_any hn; have F3 := lfit_any nX
  cases h1 : fitN key with
  | false =>
    rw [h1] at F1
    have e : swR key non A X Y = ⟨0, 0, false, 60⟩ := by unfold swR; rw [h1, Bool.false_and, if_pos rfl]
    rw [e] at S0
    exact etb_a0 hl S0 F1 es_zero w hm hc
  | true =>
    rw [h1] at F1
    cases h2 : fitN non with
    | false =>
      rw [h2] at F2
      have e : swR key non A X Y = ⟨0, 0, false, 60⟩ := by unfold swR; rw [h1, h2, Bool.and_false, if_pos rfl]
      rw [e] at S0
      exact etb_a1 hl S0 F1 F2 es_zero w hm hc
    | true =>
      rw [h2] at F2
      have b0 : swR key non A X Y = if ¬ X < nN then ⟨0, 0, false, 64⟩ else if X = 0 ∨ swS key non (dgN A) X = 0 then ⟨0, 0, false, 65⟩ else if lowN (swS key non (dgN A) X) then ⟨X, swS key non (dgN A) X, oddB Y, 0⟩ else ⟨X, modN nN (0 - swS key non (dgN A) X), !oddB Y, 0⟩ := by
        unfold swR; rw [h1, h2, Bool.and_self, if_neg (by decide)]
      have MG : Hid (∀ w, Mds w → Cols w → Calls Tryd.prog 25 #[.agg #[.int .u64 (l0 non), .int .u64 (l1 non), .int .u64 (l2 non), .int .u64 (l3 non)]] w fun e w' => e = .returned (.agg #[.int .u64 (l0 X), .int .u64 (l1 X), .int .u64 (l2 X), .int .u64 (l3 X), .int .u64 (l0 Y), .int .u64 (l1 Y), .int .u64 (l2 Y), .int .u64 (l3 Y), .bool j]) ∧ Below w.heap.size w w') := fun w hm hc => cmulg_any hn hv ev w hm hc
      have NU : Hid (∀ w, Mds w → Calls Tryd.prog 27 #[.agg ((A.map fun z => Value.int .u8 z).toArray)] w fun e w' => e = .returned (.agg #[.int .u64 (l0 (dgN A)), .int .u64 (l1 (dgN A)), .int .u64 (l2 (dgN A)), .int .u64 (l3 (dgN A))]) ∧ Below w.heap.size w w') := fun w hm => lnumber_any hA hl w hm
      have nd : Num (dgN A) := modN_Num fit_n _
      have TI : Hid (∀ w, Mds w → Calls Tryd.prog 28 #[.agg #[.int .u64 (l0 X), .int .u64 (l1 X), .int .u64 (l2 X), .int .u64 (l3 X)], .agg #[.int .u64 (l0 key), .int .u64 (l1 key), .int .u64 (l2 key), .int .u64 (l3 key)]] w fun e w' => e = .returned (.agg #[.int .u64 (l0 (modN nN (X * key))), .int .u64 (l1 (modN nN (X * key))), .int .u64 (l2 (modN nN (X * key))), .int .u64 (l3 (modN nN (X * key)))]) ∧ Below w.heap.size w w') := ltimes_any nX hk
      have PL : Hid (∀ w, Mds w → Calls Tryd.prog 26 #[.agg #[.int .u64 (l0 (dgN A)), .int .u64 (l1 (dgN A)), .int .u64 (l2 (dgN A)), .int .u64 (l3 (dgN A))], .agg #[.int .u64 (l0 (modN nN (X * key))), .int .u64 (l1 (modN nN (X * key))), .int .u64 (l2 (modN nN (X * key))), .int .u64 (l3 (modN nN (X * key)))]] w fun e w' => e = .returned (.agg #[.int .u64 (l0 (modN nN (dgN A + modN nN (X * key)))), .int .u64 (l1 (modN nN (dgN A + modN nN (X * key)))), .int .u64 (l2 (modN nN (dgN A + modN nN (X * key)))), .int .u64 (l3 (modN nN (dgN A + modN nN (X * key))))]) ∧ Below w.heap.size w w') := lplus6_any nd (modN_Num fit_n _)
      have es : swS key non (dgN A) X = modN nN (modN nN (dgN A + modN nN (X * key)) * invN nN non) := rfl
      have nt : Num (modN nN (dgN A + modN nN (X * key))) := modN_Num fit_n _
      have mt : modN nN (modN nN (dgN A + modN nN (X * key))) = modN nN (dgN A + modN nN (X * key)) := modN_of_lt mod_small.1 mod_small.2
      generalize modN nN (dgN A + modN nN (X * key)) = t at *
      generalize modN nN (X * key) = a at *
      obtain ⟨k1, k2⟩ := fitN_fit h2
      have hz : modN nN non ≠ 0 := by rw [modN_of_lt hn.1 k2]; exact k1
      have back := sw_back hn.1 hz mt
      rw [← es] at back
      have sl : 0 ≤ swS key non (dgN A) X ∧ swS key non (dgN A) X < nN := mod_small
      have ns : Num (swS key non (dgN A) X) := modN_Num fit_n _
      generalize swS key non (dgN A) X = s at *
      clear es
      cases h3 : fitN X with
      | false =>
        rw [h3] at F3
        by_cases c1 : X < nN
        · have c2 : X = 0 := by
            unfold fitN at h3
            rw [decide_eq_true c1, Bool.and_true] at h3
            simpa using h3
          rw [if_neg (not_not_intro c1), if_pos (.inl c2)] at b0
          rw [b0] at S0
          exact etb_b65 hl S0 F1 F2 MG NU TI PL F3 es_zero w hm hc
        · rw [if_pos c1] at b0
          rw [b0] at S0
          exact etb_b64 hl S0 F1 F2 MG NU TI PL F3 es_zero w hm hc
      | true =>
        rw [h3] at F3
        obtain ⟨x1, x2⟩ := fitN_fit h3
        rw [if_neg (not_not_intro x2)] at b0
        by_cases c3 : t = 0
        · have c4 : s = 0 := by
            have : modN nN (s * non) = 0 := by rw [back, c3]
            by_cases h0 : s = 0
            · exact h0
            · exact absurd this (prod_nz sl.1 sl.2 h0 hn.1 k2 k1)
          rw [if_pos (.inr c4)] at b0
          rw [b0] at S0
          exact etb_c hl S0 F1 F2 MG NU TI PL F3 es_zero (eqz6 nt (decide_eq_true c3)) w hm hc
        · have c4 : s ≠ 0 := fun h => c3 (by rw [← back, h, Int.zero_mul]; rfl)
          rw [if_neg (fun h => h.elim x1 c4)] at b0
          have E2 := eqz6 nt (decide_eq_false c3)
          have E3 := eq2 nX nX (v := true) (by simp)
          have OD := odd_is Y nY
          cases h5 : lowN s with
          | true =>
            rw [h5, if_pos rfl] at b0
            rw [b0] at S0
            have CK := echeck_any (o := oddB Y) nX ns
            rw [show chkN X s = 0 by unfold chkN; rw [h3, fit_true c4 sl.2, h5]; simp] at CK
            have T2 := ltimes_any ns hn
            rw [back] at T2
            exact etb_d1 hl S0 F1 F2 MG NU TI PL F3 E2 E3 CK T2 (eq2 nt nt (by simp)) OD w hm hc
          | false =>
            rw [h5, if_neg (by decide)] at b0
            rw [b0] at S0
            have es2 := neg_small (s := s) (by omega) sl.2
            have ns2 : Num (modN nN (0 - s)) := modN_Num fit_n _
            have low2 : lowN (modN nN (0 - s)) = true := by
              unfold lowN at h5 ⊢
              rw [es2, half_n]
              rw [half_n] at h5
              have h6 : ¬ s ≤ 57896044618658097711785492504343953926418782139537452191302581570759080747168 := by simpa using h5
              rw [n_lit]
              exact decide_eq_true (by omega)
            have CK := echeck_any (o := !oddB Y) nX ns2
            rw [show chkN X (modN nN (0 - s)) = 0 by
              unfold chkN
              rw [h3, fit_true (by rw [es2]; have := sl.2; omega) (by rw [es2]; omega), low2]; simp] at CK
            have T2 := ltimes_any ns2 hn
            rw [neg_back back] at T2
            have nq : Num (modN nN (0 - t)) := modN_Num fit_n _
            have tl : 0 ≤ t ∧ t < nN := by rw [← mt]; exact mod_small
            have ne : modN nN (0 - t) ≠ t := by
              rw [neg_small (by omega) tl.2, n_lit]; omega
            exact etb_d2 hl S0 F1 F2 MG NU TI PL F3 E2 E3 CK T2 (eq2 nq nt (decide_eq_false ne)) (lneg_any nt) (eq2 nq nq (by simp)) (by rw [OD]; exact rfl) w hm hc
end Go.Proofs.YtbcjikoajjhfaaaDoor
