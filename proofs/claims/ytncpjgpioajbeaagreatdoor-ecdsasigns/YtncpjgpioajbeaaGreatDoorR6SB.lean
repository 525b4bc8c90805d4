import Derived.Test.YtncpjgpioajbeaaGreatDoorR6SA
/- Layer 6: the document's SignWith, of any nonce. -/
namespace Go.Proofs.YtncpjgpioajbeaaGreatDoor
open Go.RowKit Go.Sort
set_option maxHeartbeats 4000000 in
theorem r6sw_any {key non X Y : Int} {A : List Int} {j : Bool} (hk : Num key) (hn : Num non) (hA : Byts A) (hl : A.length = 32) (hv : Vd X Y j) (ev : ptOf X Y j = EC.smul non.toNat EC.gJ.pt) (w : World) :
    Calls Tryz.prog 33 #[.agg #[.int .u64 (l0 key), .int .u64 (l1 key), .int .u64 (l2 key), .int .u64 (l3 key)], .agg #[.int .u64 (l0 non), .int .u64 (l1 non), .int .u64 (l2 non), .int .u64 (l3 non)], hashV A] w fun e w' => e = .returned (.tuple #[.agg #[.int .u64 (l0 (swR key non A X Y).r), .int .u64 (l1 (swR key non A X Y).r), .int .u64 (l2 (swR key non A X Y).r), .int .u64 (l3 (swR key non A X Y).r), .int .u64 (l0 (swR key non A X Y).s), .int .u64 (l1 (swR key non A X Y).s), .int .u64 (l2 (swR key non A X Y).s), .int .u64 (l3 (swR key non A X Y).s), .bool (swR key non A X Y).o], .int .i64 (swR key non A X Y).e]) ∧ Below w.heap.size w w' := by
  have nX := hv.low.1.num; have nY := hv.low.2.num
  have i1 := r6fit_any hk; have i2 := r6fit_any hn
  have nz : Num 0 := ⟨by decide, by decide⟩
  cases h1 : fitN key with
  | false =>
    rw [h1] at i1
    have e : swR key non A X Y = ⟨0, 0, false, 60⟩ := by unfold swR; rw [h1, Bool.false_and, if_pos rfl]
    rw [e]
    exact (r6sw_err hl (r6tb_key0 hl i1 i2) (by decide)) w
  | true =>
    rw [h1] at i1
    cases h2 : fitN non with
    | false =>
      rw [h2] at i2
      have e : swR key non A X Y = ⟨0, 0, false, 60⟩ := by unfold swR; rw [h1, h2, Bool.and_false, if_pos rfl]
      rw [e]
      exact (r6sw_err hl (r6tb_key1 hl i1 i2) (by decide)) w
    | true =>
      rw [h2] at i2
      have CN : Hid (∀ w, Calls Tryz.prog 96 #[.agg ((A.map fun z => Value.int .u8 z).toArray)] w fun e w' => e = .returned (.agg #[.int .u64 (l0 (dgN A)), .int .u64 (l1 (dgN A)), .int .u64 (l2 (dgN A)), .int .u64 (l3 (dgN A))]) ∧ Below w.heap.size w w') := fun w => r6number_any hA hl w
      have MG : Hid (∀ w, Calls Tryz.prog 99 #[.agg #[.int .u64 (l0 non), .int .u64 (l1 non), .int .u64 (l2 non), .int .u64 (l3 non)]] w fun e w' => e = .returned (.agg #[.int .u64 (l0 X), .int .u64 (l1 X), .int .u64 (l2 X), .int .u64 (l3 X), .int .u64 (l0 Y), .int .u64 (l1 Y), .int .u64 (l2 Y), .int .u64 (l3 Y), .bool j]) ∧ Below w.heap.size w w') := fun w => r5mulg_any hn hv ev w
      have OR : Hid (∀ w, Calls Tryz.prog 65 #[] w fun e w' => e = .returned (.agg #[.int .u64 (l0 nN), .int .u64 (l1 nN), .int .u64 (l2 nN), .int .u64 (l3 nN)]) ∧ Below w.heap.size w w') := fun w => r6order_any w
      have CP : Hid (∀ w, Calls Tryz.prog 64 #[.agg #[.int .u64 (l0 X), .int .u64 (l1 X), .int .u64 (l2 X), .int .u64 (l3 X)], .agg #[.int .u64 (l0 nN), .int .u64 (l1 nN), .int .u64 (l2 nN), .int .u64 (l3 nN)]] w fun e w' => e = .returned (.int .i64 (cmpN X nN)) ∧ Below w.heap.size w w') := fun w => rcmp_any nX num_n w
      have b0 : swR key non A X Y = if ¬ X < nN then ⟨0, 0, false, 64⟩ else if X = 0 ∨ swS key non (dgN A) X = 0 then ⟨0, 0, false, 65⟩ else if lowN (swS key non (dgN A) X) then ⟨X, swS key non (dgN A) X, oddB Y, 0⟩ else ⟨X, modN nN (0 - swS key non (dgN A) X), !oddB Y, 0⟩ := by
        unfold swR; rw [h1, h2, Bool.and_self, if_neg (by decide)]
      have nd : Num (dgN A) := modN_Num fit_n _
      have hz : modN nN non ≠ 0 := by
        obtain ⟨a1, a2⟩ := fitN_fit h2
        rw [modN_of_lt hn.1 a2]; exact a1
      by_cases c1 : X < nN
      · rw [if_neg (not_not_intro c1)] at b0
        have hq : decide (0 ≤ cmpN X nN) = false := by rw [cmp_ge, decide_eq_true c1]; rfl
        have ns : Num (swS key non (dgN A) X) := modN_Num fit_n _
        have A1 : Hid (∀ w, Calls Tryz.prog 100 #[.agg #[.int .u64 (l0 X), .int .u64 (l1 X), .int .u64 (l2 X), .int .u64 (l3 X)], .agg #[.int .u64 (l0 key), .int .u64 (l1 key), .int .u64 (l2 key), .int .u64 (l3 key)]] w fun e w' => e = .returned (.agg #[.int .u64 (l0 (modN nN (X * key))), .int .u64 (l1 (modN nN (X * key))), .int .u64 (l2 (modN nN (X * key))), .int .u64 (l3 (modN nN (X * key)))]) ∧ Below w.heap.size w w') := r6times_any nX hk
        have A2 : Hid (∀ w, Calls Tryz.prog 101 #[.agg #[.int .u64 (l0 (dgN A)), .int .u64 (l1 (dgN A)), .int .u64 (l2 (dgN A)), .int .u64 (l3 (dgN A))], .agg #[.int .u64 (l0 (modN nN (X * key))), .int .u64 (l1 (modN nN (X * key))), .int .u64 (l2 (modN nN (X * key))), .int .u64 (l3 (modN nN (X * key)))]] w fun e w' => e = .returned (.agg #[.int .u64 (l0 (modN nN (dgN A + modN nN (X * key)))), .int .u64 (l1 (modN nN (dgN A + modN nN (X * key)))), .int .u64 (l2 (modN nN (dgN A + modN nN (X * key)))), .int .u64 (l3 (modN nN (dgN A + modN nN (X * key))))]) ∧ Below w.heap.size w w') := r6plus_any nd (modN_Num fit_n _)
        have A3 := r6inv_any hn hz
        have A4 : Hid (∀ w, Calls Tryz.prog 100 #[.agg #[.int .u64 (l0 (modN nN (dgN A + modN nN (X * key)))), .int .u64 (l1 (modN nN (dgN A + modN nN (X * key)))), .int .u64 (l2 (modN nN (dgN A + modN nN (X * key)))), .int .u64 (l3 (modN nN (dgN A + modN nN (X * key))))], .agg #[.int .u64 (l0 (invN nN non)), .int .u64 (l1 (invN nN non)), .int .u64 (l2 (invN nN non)), .int .u64 (l3 (invN nN non))]] w fun e w' => e = .returned (.agg #[.int .u64 (l0 (swS key non (dgN A) X)), .int .u64 (l1 (swS key non (dgN A) X)), .int .u64 (l2 (swS key non (dgN A) X)), .int .u64 (l3 (swS key non (dgN A) X))]) ∧ Below w.heap.size w w') := r6times_any (modN_Num fit_n _) (powN_Num fit_n _ _)
        by_cases c2 : X = 0 ∨ swS key non (dgN A) X = 0
        · rw [if_pos c2] at b0
          rw [b0]
          refine (r6sw_err hl (r := 0) (s := 0) (od := false) (fun w => ?_) (by decide)) w
          by_cases c3 : X = 0
          · exact r6tb_z1 hl i1 i2 MG OR CP hq CN A1 A2 A3 A4 (eqz6 nX (decide_eq_true c3)) w
          · have c4 : swS key non (dgN A) X = 0 := c2.resolve_left c3
            exact r6tb_z2 hl i1 i2 MG OR CP hq CN A1 A2 A3 A4 (eqz6 nX (decide_eq_false c3)) (eqz6 ns (decide_eq_true c4)) w
        · rw [if_neg c2] at b0
          have c3 : X ≠ 0 := fun e => c2 (.inl e)
          have c4 : swS key non (dgN A) X ≠ 0 := fun e => c2 (.inr e)
          have sl : 0 ≤ swS key non (dgN A) X ∧ swS key non (dgN A) X < nN := mod_small
          have OD : Hid (∀ w, Calls Tryz.prog 103 #[.agg #[.int .u64 (l0 Y), .int .u64 (l1 Y), .int .u64 (l2 Y), .int .u64 (l3 Y)]] w fun e w' => e = .returned (.bool (oddB Y)) ∧ Below w.heap.size w w') := fun w => by rw [odd_is Y nY]; exact r6odd_walk w
          have TB := r6tb_ok hl i1 i2 MG OR CP hq CN A1 A2 A3 A4 (eqz6 nX (decide_eq_false c3)) (eqz6 ns (decide_eq_false c4)) OD
          have LW := r6low_any ns
          cases h5 : lowN (swS key non (dgN A) X) with
          | true =>
            rw [h5] at LW b0
            rw [if_pos rfl] at b0
            rw [b0]
            exact (r6sw_low hl TB LW) w
          | false =>
            rw [h5] at LW b0
            rw [if_neg (by decide)] at b0
            rw [b0]
            exact (r6sw_high hl TB LW OR (sub_n (by omega) sl.2)) w
      · rw [if_pos c1] at b0
        rw [b0]
        have hq : decide (0 ≤ cmpN X nN) = true := by rw [cmp_ge, decide_eq_false c1]; rfl
        exact (r6sw_err hl (r6tb_x hl i1 i2 MG OR CP hq) (by decide)) w
end Go.Proofs.YtncpjgpioajbeaaGreatDoor
