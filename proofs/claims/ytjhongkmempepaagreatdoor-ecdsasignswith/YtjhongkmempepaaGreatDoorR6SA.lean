import Derived.Test.YtjhongkmempepaaGreatDoorR6S
import Derived.Test.YtjhongkmempepaaGreatDoorESW
import Derived.Test.YtjhongkmempepaaGreatDoorCCols
import Derived.Test.YtjhongkmempepaaGreatDoorFExp
namespace Go.Proofs.YtjhongkmempepaaGreatDoor
open Go.RowKit Go.Sort

set_option maxRecDepth 100000 in
set_option maxHeartbeats 8000000 in
theorem esws_walk {key non r s e0 : Int} {od : Bool} {A : List Int} (hl : A.length = 32) (SP : Hid (∀ w, Mds w → Cols w → Calls Tryz.prog 6 #[.agg #[.int .u64 (l0 key), .int .u64 (l1 key), .int .u64 (l2 key), .int .u64 (l3 key)], .agg #[.int .u64 (l0 non), .int .u64 (l1 non), .int .u64 (l2 non), .int .u64 (l3 non)], .agg ((A.map fun z => Value.int .u8 z).toArray)] w fun e w' => e = .returned (.tuple #[.agg #[.int .u64 (l0 r), .int .u64 (l1 r), .int .u64 (l2 r), .int .u64 (l3 r), .int .u64 (l0 s), .int .u64 (l1 s), .int .u64 (l2 s), .int .u64 (l3 s), .bool od], .int .i64 e0]) ∧ Below w.heap.size w w')) (SR : Hid (∀ w, Calls Tryz.prog 7 #[.agg #[.int .u64 (l0 key), .int .u64 (l1 key), .int .u64 (l2 key), .int .u64 (l3 key)], .agg #[.int .u64 (l0 non), .int .u64 (l1 non), .int .u64 (l2 non), .int .u64 (l3 non)], .agg ((A.map fun z => Value.int .u8 z).toArray)] w fun e w' => e = .returned (.tuple #[.agg #[.int .u64 (l0 r), .int .u64 (l1 r), .int .u64 (l2 r), .int .u64 (l3 r), .int .u64 (l0 s), .int .u64 (l1 s), .int .u64 (l2 s), .int .u64 (l3 s), .bool od], .int .i64 e0]) ∧ Below w.heap.size w w')) (NU : Hid (∀ w, Calls Tryz.prog 8 #[.int .i64 e0] w fun e w' => e = .returned (.int .i64 e0) ∧ Below w.heap.size w w')) (E : ∀ w, (Op.equalIn 10000 28 (.agg #[.int .u64 (l0 r), .int .u64 (l1 r), .int .u64 (l2 r), .int .u64 (l3 r), .int .u64 (l0 s), .int .u64 (l1 s), .int .u64 (l2 s), .int .u64 (l3 s), .bool od]) (.agg #[.int .u64 (l0 r), .int .u64 (l1 r), .int .u64 (l2 r), .int .u64 (l3 r), .int .u64 (l0 s), .int .u64 (l1 s), .int .u64 (l2 s), .int .u64 (l3 s), .bool od])).run Tryz.prog w = .ok true w) (w : World) (hm : Mds w) (hc : Cols w) :
    Calls Tryz.prog 3 #[.agg #[.int .u64 (l0 key), .int .u64 (l1 key), .int .u64 (l2 key), .int .u64 (l3 key)], .agg #[.int .u64 (l0 non), .int .u64 (l1 non), .int .u64 (l2 non), .int .u64 (l3 non)], hashV A] w fun e w' => e = .returned (.bool true) ∧ Below w.heap.size w w' := by
  unfold hashV at *
  have ra : (((w.alloc (.cells #[.int .u64 (l0 key), .int .u64 (l1 key), .int .u64 (l2 key), .int .u64 (l3 key)] 24)).alloc (.cells #[.int .u64 (l0 non), .int .u64 (l1 non), .int .u64 (l2 non), .int .u64 (l3 non)] 24)).alloc (.cells ((A.map fun z => Value.int .u8 z).toArray) 26)).rangeAt (w.heap.size + 1 + 1) 0 (A.map fun z => Value.int .u8 z) := (HAt.new hl (by simp)).2
  go_enter Tryz.func3, Tryz.ntmps3
  go_wp2_with (refine wpList_load_mid rfl 26 _ rfl (w.heap.size + 1 + 1) 0 rfl (A.map fun z => Value.int .u8 z) _ ra Tryz.underlying26 rfl (by rw [List.length_map, hl]; kernel_rfl) ?_)
  refine calls_world (fun W => Below w.heap.size w W ∧ Mds W ∧ Cols W ∧ Nm W w.heap.size key ∧ Nm W (w.heap.size + 1) non ∧ HAt W (w.heap.size + 1 + 1) A) ⟨by repeat (first | with_reducible exact Below.refl _ _ | with_reducible refine Below.alloc ?_ (by first | omega | (simp; done) | (simp; omega)) _), ((hm.alloc _).alloc _).alloc _, ((Cols.alloc hc _).alloc _).alloc _, (Nm.alloc (Cl.new _ rfl rfl) _).alloc _, Nm.alloc (Cl.new _ (by simp) rfl) _, HAt.new hl (by simp)⟩ ?_
  clear ra
  rintro W ⟨B, hD, hO, hK, hE, hY⟩
  generalize w.heap.size + 1 + 1 = bd at *
  generalize w.heap.size + 1 = bn at *
  with_reducible refine (SP.out _ hD hO).mono ?_
  rintro e w1 ⟨rfl, hb⟩
  replace B := B.trans (hb.mono B.size)
  replace hD := hD.keep hb; replace hO := hO.keep hb; replace hK := hK.keep hb; replace hE := hE.keep hb; replace hY := hY.keep hb
  clear hb W
  have ghK := fun o => (hK.alloc o).cells
  have ghE := fun o => (hE.alloc o).cells
  have ra := fun a => (hY.alloc a).2
  go_wp2_with (refine wpList_load_mid rfl 26 _ rfl bd 0 rfl (A.map fun z => Value.int .u8 z) _ (ra _) Tryz.underlying26 rfl (by rw [List.length_map, hl]; kernel_rfl) ?_)
  refine calls_world (fun W => Below w.heap.size w W ∧ Mds W ∧ Cols W ∧ Nm W w.heap.size key ∧ Nm W bn non ∧ HAt W bd A ∧ Pnt W w1.heap.size r s od) ⟨B.alloc B.size _, hD.alloc _, hO.alloc _, hK.alloc _, hE.alloc _, hY.alloc _, Pnt.new rfl⟩ ?_
  clear B hD hO hK hE hY ghK ghE
  rintro W ⟨B, hD, hO, hK, hE, hY, hS⟩
  generalize w1.heap.size = bs at *
  clear ra
  with_reducible refine (SR.out _).mono ?_
  rintro e w2 ⟨rfl, hb⟩
  replace B := B.trans (hb.mono B.size)
  replace hD := hD.keep hb; replace hO := hO.keep hb; replace hK := hK.keep hb; replace hE := hE.keep hb; replace hY := hY.keep hb; replace hS := hS.keep hb
  clear hb W
  have ghS := fun o => (hS.alloc o).cells
  go_wp2_with fail
  refine calls_world (fun W => Below w.heap.size w W ∧ Mds W ∧ Cols W ∧ Nm W w.heap.size key ∧ Nm W bn non ∧ HAt W bd A ∧ Pnt W bs r s od ∧ Pnt W w2.heap.size r s od) ⟨B.alloc B.size _, hD.alloc _, hO.alloc _, hK.alloc _, hE.alloc _, hY.alloc _, hS.alloc _, Pnt.new rfl⟩ ?_
  clear B hD hO hK hE hY hS ghS
  rintro W ⟨B, hD, hO, hK, hE, hY, hS, hT⟩
  generalize w2.heap.size = bt at *
  with_reducible refine (NU.out _).mono ?_
  rintro e w9 ⟨rfl, hb⟩
  replace B := B.trans (hb.mono B.size)
  clear hb hD hO hY hK hE hS hT W
  go_wp2
  simp [bodyPost, results, Tryz.results3, go_sem]
  exact B

theorem cmp_ge (x n : Int) : decide (0 ≤ cmpN x n) = !decide (x < n) := by
  rw [← cmp_lt x n]
  by_cases h : cmpN x n < 0
  · rw [decide_eq_true h, decide_eq_false (by omega)]; rfl
  · rw [decide_eq_false h, decide_eq_true (by omega)]; rfl
theorem sub_n {s : Int} (h0 : 0 < s) (h1 : s < nN) : Hid (∀ w, Calls Tryz.prog 20 #[.agg #[.int .u64 (l0 nN), .int .u64 (l1 nN), .int .u64 (l2 nN), .int .u64 (l3 nN)], .agg #[.int .u64 (l0 s), .int .u64 (l1 s), .int .u64 (l2 s), .int .u64 (l3 s)]] w fun e w' => e = .returned (.tuple #[.agg #[.int .u64 (l0 (modN nN (0 - s))), .int .u64 (l1 (modN nN (0 - s))), .int .u64 (l2 (modN nN (0 - s))), .int .u64 (l3 (modN nN (0 - s)))], .int .u64 (borN nN s)]) ∧ Below w.heap.size w w') := fun w => by
  have ns : Num s := ⟨by omega, by have := num_n.2; omega⟩
  have := rsub_any num_n ns w
  rw [show difN nN s = modN nN (0 - s) by rw [neg_small h0 h1]; unfold difN; have := num_n.2; exact Int.emod_eq_of_lt (by omega) (by omega)] at this
  exact this
theorem es_same' {r s : Int} {od : Bool} (hr : Num r) (hs : Num s) : ∀ w, (Op.equalIn 10000 28 (.agg #[.int .u64 (l0 r), .int .u64 (l1 r), .int .u64 (l2 r), .int .u64 (l3 r), .int .u64 (l0 s), .int .u64 (l1 s), .int .u64 (l2 s), .int .u64 (l3 s), .bool od]) (.agg #[.int .u64 (l0 r), .int .u64 (l1 r), .int .u64 (l2 r), .int .u64 (l3 r), .int .u64 (l0 s), .int .u64 (l1 s), .int .u64 (l2 s), .int .u64 (l3 s), .bool od])).run Tryz.prog w = .ok true w := fun w => by
  have := eq_sig_any (i := od) (j := od) hr hs hr hs w
  simpa using this
set_option maxHeartbeats 4000000 in
theorem esws_any {key non : Int} {A : List Int} (hk : Num key) (hn : Num non) (hl : A.length = 32) (hA : Byts A) (w : World) (hm : Mds w) (hc : Cols w) :
    Calls Tryz.prog 3 #[.agg #[.int .u64 (l0 key), .int .u64 (l1 key), .int .u64 (l2 key), .int .u64 (l3 key)], .agg #[.int .u64 (l0 non), .int .u64 (l1 non), .int .u64 (l2 non), .int .u64 (l3 non)], hashV A] w fun e w' => e = .returned (.bool true) ∧ Below w.heap.size w w' := by
  obtain ⟨X, Y, j, hv, ev⟩ := rep_pt (EC.smul_on EC.gJ_on non.toNat)
  have nX := hv.low.1.num; have nY := hv.low.2.num
  have SP := esw_any hk hn hA hl hv ev
  have i1 := r6fit_any hk; have i2 := r6fit_any hn
  have nz : Num 0 := ⟨by decide, by decide⟩
  cases h1 : fitN key with
  | false =>
    rw [h1] at i1
    have e : swR key non A X Y = ⟨0, 0, false, 60⟩ := by unfold swR; rw [h1, Bool.false_and, if_pos rfl]
    rw [e] at SP
    exact esws_walk hl SP (r6sw_err hl (r6tb_key0 hl i1 i2) (by decide)) (fun w => lnum6_any _ w) (es_same' nz nz) w hm hc
  | true =>
    rw [h1] at i1
    cases h2 : fitN non with
    | false =>
      rw [h2] at i2
      have e : swR key non A X Y = ⟨0, 0, false, 60⟩ := by unfold swR; rw [h1, h2, Bool.and_false, if_pos rfl]
      rw [e] at SP
      exact esws_walk hl SP (r6sw_err hl (r6tb_key1 hl i1 i2) (by decide)) (fun w => lnum6_any _ w) (es_same' nz nz) w hm hc
    | true =>
      rw [h2] at i2
      have CN : Hid (∀ w, Calls Tryz.prog 31 #[.agg ((A.map fun z => Value.int .u8 z).toArray)] w fun e w' => e = .returned (.agg #[.int .u64 (l0 (dgN A)), .int .u64 (l1 (dgN A)), .int .u64 (l2 (dgN A)), .int .u64 (l3 (dgN A))]) ∧ Below w.heap.size w w') := fun w => r6number_any hA hl w
      have MG : Hid (∀ w, Calls Tryz.prog 48 #[.agg #[.int .u64 (l0 non), .int .u64 (l1 non), .int .u64 (l2 non), .int .u64 (l3 non)]] w fun e w' => e = .returned (.agg #[.int .u64 (l0 X), .int .u64 (l1 X), .int .u64 (l2 X), .int .u64 (l3 X), .int .u64 (l0 Y), .int .u64 (l1 Y), .int .u64 (l2 Y), .int .u64 (l3 Y), .bool j]) ∧ Below w.heap.size w w') := fun w => r5mulg_any hn hv ev w
      have OR : Hid (∀ w, Calls Tryz.prog 21 #[] w fun e w' => e = .returned (.agg #[.int .u64 (l0 nN), .int .u64 (l1 nN), .int .u64 (l2 nN), .int .u64 (l3 nN)]) ∧ Below w.heap.size w w') := fun w => r6order_any w
      have CP : Hid (∀ w, Calls Tryz.prog 49 #[.agg #[.int .u64 (l0 X), .int .u64 (l1 X), .int .u64 (l2 X), .int .u64 (l3 X)], .agg #[.int .u64 (l0 nN), .int .u64 (l1 nN), .int .u64 (l2 nN), .int .u64 (l3 nN)]] w fun e w' => e = .returned (.int .i64 (cmpN X nN)) ∧ Below w.heap.size w w') := fun w => rcmp_any nX num_n w
      have b0 : swR key non A X Y = if ¬ X < nN then ⟨0, 0, false, 64⟩ else if X = 0 ∨ swS key non (dgN A) X = 0 then ⟨0, 0, false, 65⟩ else if lowN (swS key non (dgN A) X) then ⟨X, swS key non (dgN A) X, oddB Y, 0⟩ else ⟨X, modN nN (0 - swS key non (dgN A) X), !oddB Y, 0⟩ := by
        unfold swR; rw [h1, h2, Bool.and_self, if_neg (by decide)]
      have nd : Num (dgN A) := modN_Num fit_n _
      have hz : modN nN non ≠ 0 := by
        obtain ⟨a1, a2⟩ := fitN_fit h2
        rw [modN_of_lt hn.1 a2]; exact a1
      by_cases c1 : X < nN
      · rw [if_neg (not_not_intro c1)] at b0
        have hq : decide (0 ≤ cmpN X nN) = false := by rw [cmp_ge, decide_eq_true c1]; rfl
        have ns : Num (swS key non (dgN A) X) := modN_Num fit_n _
        have A1 : Hid (∀ w, Calls Tryz.prog 33 #[.agg #[.int .u64 (l0 X), .int .u64 (l1 X), .int .u64 (l2 X), .int .u64 (l3 X)], .agg #[.int .u64 (l0 key), .int .u64 (l1 key), .int .u64 (l2 key), .int .u64 (l3 key)]] w fun e w' => e = .returned (.agg #[.int .u64 (l0 (modN nN (X * key))), .int .u64 (l1 (modN nN (X * key))), .int .u64 (l2 (modN nN (X * key))), .int .u64 (l3 (modN nN (X * key)))]) ∧ Below w.heap.size w w') := r6times_any nX hk
        have A2 : Hid (∀ w, Calls Tryz.prog 50 #[.agg #[.int .u64 (l0 (dgN A)), .int .u64 (l1 (dgN A)), .int .u64 (l2 (dgN A)), .int .u64 (l3 (dgN A))], .agg #[.int .u64 (l0 (modN nN (X * key))), .int .u64 (l1 (modN nN (X * key))), .int .u64 (l2 (modN nN (X * key))), .int .u64 (l3 (modN nN (X * key)))]] w fun e w' => e = .returned (.agg #[.int .u64 (l0 (modN nN (dgN A + modN nN (X * key)))), .int .u64 (l1 (modN nN (dgN A + modN nN (X * key)))), .int .u64 (l2 (modN nN (dgN A + modN nN (X * key)))), .int .u64 (l3 (modN nN (dgN A + modN nN (X * key))))]) ∧ Below w.heap.size w w') := r6plus_any nd (modN_Num fit_n _)
        have A3 := r6inv_any hn hz
        have A4 : Hid (∀ w, Calls Tryz.prog 33 #[.agg #[.int .u64 (l0 (modN nN (dgN A + modN nN (X * key)))), .int .u64 (l1 (modN nN (dgN A + modN nN (X * key)))), .int .u64 (l2 (modN nN (dgN A + modN nN (X * key)))), .int .u64 (l3 (modN nN (dgN A + modN nN (X * key))))], .agg #[.int .u64 (l0 (invN nN non)), .int .u64 (l1 (invN nN non)), .int .u64 (l2 (invN nN non)), .int .u64 (l3 (invN nN non))]] w fun e w' => e = .returned (.agg #[.int .u64 (l0 (swS key non (dgN A) X)), .int .u64 (l1 (swS key non (dgN A) X)), .int .u64 (l2 (swS key non (dgN A) X)), .int .u64 (l3 (swS key non (dgN A) X))]) ∧ Below w.heap.size w w') := r6times_any (modN_Num fit_n _) (powN_Num fit_n _ _)
        by_cases c2 : X = 0 ∨ swS key non (dgN A) X = 0
        · rw [if_pos c2] at b0
          rw [b0] at SP
          refine esws_walk hl SP (r6sw_err hl (r := 0) (s := 0) (od := false) (fun w => ?_) (by decide)) (fun w => lnum6_any _ w) (es_same' nz nz) w hm hc
          by_cases c3 : X = 0
          · exact r6tb_z1 hl i1 i2 MG OR CP hq CN A1 A2 A3 A4 (eqz6 nX (decide_eq_true c3)) w
          · have c4 : swS key non (dgN A) X = 0 := c2.resolve_left c3
            exact r6tb_z2 hl i1 i2 MG OR CP hq CN A1 A2 A3 A4 (eqz6 nX (decide_eq_false c3)) (eqz6 ns (decide_eq_true c4)) w
        · rw [if_neg c2] at b0
          have c3 : X ≠ 0 := fun e => c2 (.inl e)
          have c4 : swS key non (dgN A) X ≠ 0 := fun e => c2 (.inr e)
          have sl : 0 ≤ swS key non (dgN A) X ∧ swS key non (dgN A) X < nN := mod_small
          have OD : Hid (∀ w, Calls Tryz.prog 51 #[.agg #[.int .u64 (l0 Y), .int .u64 (l1 Y), .int .u64 (l2 Y), .int .u64 (l3 Y)]] w fun e w' => e = .returned (.bool (oddB Y)) ∧ Below w.heap.size w w') := fun w => by rw [odd_is Y nY]; exact r6odd_walk w
          have TB := r6tb_ok hl i1 i2 MG OR CP hq CN A1 A2 A3 A4 (eqz6 nX (decide_eq_false c3)) (eqz6 ns (decide_eq_false c4)) OD
          have LW := r6low_any ns
          cases h5 : lowN (swS key non (dgN A) X) with
          | true =>
            rw [h5] at LW b0
            rw [if_pos rfl] at b0
            rw [b0] at SP
            exact esws_walk hl SP (r6sw_low hl TB LW) (fun w => lnum6_any _ w) (es_same' nX ns) w hm hc
          | false =>
            rw [h5] at LW b0
            rw [if_neg (by decide)] at b0
            rw [b0] at SP
            exact esws_walk hl SP (r6sw_high hl TB LW OR (sub_n (by omega) sl.2)) (fun w => lnum6_any _ w) (es_same' nX (modN_Num fit_n _)) w hm hc
      · rw [if_pos c1] at b0
        rw [b0] at SP
        have hq : decide (0 ≤ cmpN X nN) = true := by rw [cmp_ge, decide_eq_false c1]; rfl
        exact esws_walk hl SP (r6sw_err hl (r6tb_x hl i1 i2 MG OR CP hq) (by decide)) (fun w => lnum6_any _ w) (es_same' nz nz) w hm hc
end Go.Proofs.YtjhongkmempepaaGreatDoor
