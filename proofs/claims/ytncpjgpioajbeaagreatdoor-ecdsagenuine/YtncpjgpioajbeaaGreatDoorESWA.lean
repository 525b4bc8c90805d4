import Derived.Test.YtncpjgpioajbeaaGreatDoorESW
import Derived.Test.YtncpjgpioajbeaaGreatDoorCRep
namespace Go.Proofs.YtncpjgpioajbeaaGreatDoor
open Go.RowKit Go.Sort

/-- A digest's number modulo n. -/
def dgN (A : List Int) : Int := modN nN (sufN A 32)
def oddB (y : Int) : Bool := decide (bitN y 0 = 1)
/-- What is answered where the nonce's point is (X, Y). -/
structure SwR where
  r : Int
  s : Int
  o : Bool
  e : Int
def swR (key non : Int) (A : List Int) (X Y : Int) : SwR :=
  if (fitN key && fitN non) = false then ⟨0, 0, false, 60⟩ else if ¬ X < nN then ⟨0, 0, false, 64⟩ else if X = 0 ∨ swS key non (dgN A) X = 0 then ⟨0, 0, false, 65⟩ else
    if lowN (swS key non (dgN A) X) then ⟨X, swS key non (dgN A) X, oddB Y, 0⟩ else ⟨X, modN nN (0 - swS key non (dgN A) X), !oddB Y, 0⟩
theorem fitN_fit {x : Int} (h : fitN x = true) : x ≠ 0 ∧ x < nN := by
  unfold fitN at h
  simpa using h
theorem esw_any {key non X Y : Int} {A : List Int} {j : Bool} (hk : Num key) (hn : Num non) (hA : Byts A) (hl : A.length = 32) (hv : Vd X Y j) (ev : ptOf X Y j = EC.smul non.toNat EC.gJ.pt) :
    ∀ w, Mds w → Cols w → Calls Tryz.prog 8 #[.agg #[.int .u64 (l0 key), .int .u64 (l1 key), .int .u64 (l2 key), .int .u64 (l3 key)], .agg #[.int .u64 (l0 non), .int .u64 (l1 non), .int .u64 (l2 non), .int .u64 (l3 non)], hashV A] w fun e w' => e = .returned (.tuple #[.agg #[.int .u64 (l0 (swR key non A X Y).r), .int .u64 (l1 (swR key non A X Y).r), .int .u64 (l2 (swR key non A X Y).r), .int .u64 (l3 (swR key non A X Y).r), .int .u64 (l0 (swR key non A X Y).s), .int .u64 (l1 (swR key non A X Y).s), .int .u64 (l2 (swR key non A X Y).s), .int .u64 (l3 (swR key non A X Y).s), .bool (swR key non A X Y).o], .int .i64 (swR key non A X Y).e]) ∧ Below w.heap.size w w' := fun w hm hc => by
  have nX := hv.low.1.num; have nY := hv.low.2.num
  have i1 := einside_any hk; have i2 := einside_any hn
  cases h1 : fitN key with
  | false =>
    rw [h1] at i1
    have e : swR key non A X Y = ⟨0, 0, false, 60⟩ := by unfold swR; rw [h1, Bool.false_and, if_pos rfl]
    rw [e]
    exact esw_key0 hl i1 w hm hc
  | true =>
    rw [h1] at i1
    cases h2 : fitN non with
    | false =>
      rw [h2] at i2
      have e : swR key non A X Y = ⟨0, 0, false, 60⟩ := by unfold swR; rw [h1, h2, Bool.and_false, if_pos rfl]
      rw [e]
      exact esw_key1 hl i1 i2 w hm hc
    | true =>
      rw [h2] at i2
      have CN : Hid (∀ w, Mds w → Calls Tryz.prog 20 #[.agg ((A.map fun z => Value.int .u8 z).toArray)] w fun e w' => e = .returned (.agg #[.int .u64 (l0 (dgN A)), .int .u64 (l1 (dgN A)), .int .u64 (l2 (dgN A)), .int .u64 (l3 (dgN A))]) ∧ Below w.heap.size w w') := fun w hm => enumber_any hA hl w hm
      have CG : Hid (∀ w, Mds w → Cols w → Calls Tryz.prog 10 #[.agg #[.int .u64 (l0 non), .int .u64 (l1 non), .int .u64 (l2 non), .int .u64 (l3 non)]] w fun e w' => e = .returned (.agg #[.int .u64 (l0 X), .int .u64 (l1 X), .int .u64 (l2 X), .int .u64 (l3 X), .int .u64 (l0 Y), .int .u64 (l1 Y), .int .u64 (l2 Y), .int .u64 (l3 Y), .bool j]) ∧ Below w.heap.size w w') := fun w hm hc => cmulg_any hn hv ev w hm hc
      have b0 : swR key non A X Y = if ¬ X < nN then ⟨0, 0, false, 64⟩ else if X = 0 ∨ swS key non (dgN A) X = 0 then ⟨0, 0, false, 65⟩ else if lowN (swS key non (dgN A) X) then ⟨X, swS key non (dgN A) X, oddB Y, 0⟩ else ⟨X, modN nN (0 - swS key non (dgN A) X), !oddB Y, 0⟩ := by
        unfold swR; rw [h1, h2, Bool.and_self, if_neg (by decide)]
      have nd : Num (dgN A) := modN_Num fit_n _
      have hz : modN nN non ≠ 0 := by
        obtain ⟨a1, a2⟩ := fitN_fit h2
        rw [modN_of_lt hn.1 a2]; exact a1
      have BL : ∀ v, decide (X < nN) = v → Hid (∀ w, Mds w → Calls Tryz.prog 35 #[.agg #[.int .u64 (l0 X), .int .u64 (l1 X), .int .u64 (l2 X), .int .u64 (l3 X)]] w fun e w' => e = .returned (.bool v) ∧ Below w.heap.size w w') := fun v e w hm => ebelow_walk (fun w hm => eorder_any w hm) (fun w => cmp_any nX num_n w) ((cmp_lt X nN).trans e) w hm
      by_cases c1 : X < nN
      · rw [if_neg (not_not_intro c1)] at b0
        have ns : Num (swS key non (dgN A) X) := modN_Num fit_n _
        have A1 : Hid (∀ w, Mds w → Calls Tryz.prog 27 #[.agg #[.int .u64 (l0 X), .int .u64 (l1 X), .int .u64 (l2 X), .int .u64 (l3 X)], .agg #[.int .u64 (l0 key), .int .u64 (l1 key), .int .u64 (l2 key), .int .u64 (l3 key)]] w fun e w' => e = .returned (.agg #[.int .u64 (l0 (modN nN (X * key))), .int .u64 (l1 (modN nN (X * key))), .int .u64 (l2 (modN nN (X * key))), .int .u64 (l3 (modN nN (X * key)))]) ∧ Below w.heap.size w w') := eprod_any nX hk
        have A2 : Hid (∀ w, Mds w → Calls Tryz.prog 44 #[.agg #[.int .u64 (l0 (dgN A)), .int .u64 (l1 (dgN A)), .int .u64 (l2 (dgN A)), .int .u64 (l3 (dgN A))], .agg #[.int .u64 (l0 (modN nN (X * key))), .int .u64 (l1 (modN nN (X * key))), .int .u64 (l2 (modN nN (X * key))), .int .u64 (l3 (modN nN (X * key)))]] w fun e w' => e = .returned (.agg #[.int .u64 (l0 (modN nN (dgN A + modN nN (X * key)))), .int .u64 (l1 (modN nN (dgN A + modN nN (X * key)))), .int .u64 (l2 (modN nN (dgN A + modN nN (X * key)))), .int .u64 (l3 (modN nN (dgN A + modN nN (X * key))))]) ∧ Below w.heap.size w w') := esum_any nd (modN_Num fit_n _)
        have A3 := einv_any hn hz
        have A4 : Hid (∀ w, Mds w → Calls Tryz.prog 27 #[.agg #[.int .u64 (l0 (modN nN (dgN A + modN nN (X * key)))), .int .u64 (l1 (modN nN (dgN A + modN nN (X * key)))), .int .u64 (l2 (modN nN (dgN A + modN nN (X * key)))), .int .u64 (l3 (modN nN (dgN A + modN nN (X * key))))], .agg #[.int .u64 (l0 (invN nN non)), .int .u64 (l1 (invN nN non)), .int .u64 (l2 (invN nN non)), .int .u64 (l3 (invN nN non))]] w fun e w' => e = .returned (.agg #[.int .u64 (l0 (swS key non (dgN A) X)), .int .u64 (l1 (swS key non (dgN A) X)), .int .u64 (l2 (swS key non (dgN A) X)), .int .u64 (l3 (swS key non (dgN A) X))]) ∧ Below w.heap.size w w') := eprod_any (modN_Num fit_n _) (powN_Num fit_n _ _)
        have C0 := BL true (decide_eq_true c1)
        by_cases c2 : X = 0 ∨ swS key non (dgN A) X = 0
        · rw [if_pos c2] at b0
          rw [b0]
          refine esw_err hl i1 i2 CN CG (fun w hm => ?_) (by decide) w hm hc
          by_cases c3 : X = 0
          · exact etext_z1 C0 A1 A2 A3 A4 (fun w => ezero_walk (eqz6 nX (decide_eq_true c3)) w) w hm
          · have c4 : swS key non (dgN A) X = 0 := c2.resolve_left c3
            exact etext_z2 C0 A1 A2 A3 A4 (fun w => ezero_walk (eqz6 nX (decide_eq_false c3)) w) (fun w => ezero_walk (eqz6 ns (decide_eq_true c4)) w) w hm
        · rw [if_neg c2] at b0
          have c3 : X ≠ 0 := fun e => c2 (.inl e)
          have c4 : swS key non (dgN A) X ≠ 0 := fun e => c2 (.inr e)
          have CT := fun w hm => etext_ok C0 A1 A2 A3 A4 (fun w => ezero_walk (eqz6 nX (decide_eq_false c3)) w) (fun w => ezero_walk (eqz6 ns (decide_eq_false c4)) w) (fun w => eodd_any nY w) (i := j) w hm
          have LW := elow_any ns
          cases h5 : lowN (swS key non (dgN A) X) with
          | true =>
            rw [h5] at LW b0
            rw [if_pos rfl] at b0
            rw [b0]
            exact esw_ok hl i1 i2 CN CG CT (fun w hm => elowered_yes LW w hm) w hm hc
          | false =>
            rw [h5] at LW b0
            rw [if_neg (by decide)] at b0
            rw [b0]
            exact esw_ok hl i1 i2 CN CG CT (fun w hm => elowered_no LW (eopp_any ns) w hm) w hm hc
      · rw [if_pos c1] at b0
        rw [b0]
        exact esw_err hl i1 i2 CN CG (fun w hm => etext_x (BL false (decide_eq_false c1)) w hm) (by decide) w hm hc
end Go.Proofs.YtncpjgpioajbeaaGreatDoor
