import Derived.Test.YtbcjikoajjhfaaaDoorESWA
import Derived.Test.YtbcjikoajjhfaaaDoorCPnt
namespace Go.Proofs.YtbcjikoajjhfaaaDoor
open Go.RowKit Go.Sort
set_option maxRecDepth 100000 in
set_option maxHeartbeats 4000000 in
theorem eq_sig_any {x y x' y' : Int} {i j : Bool} (hx : Num x) (hy : Num y) (hx' : Num x') (hy' : Num y') (w : World) :
    (Op.equalIn 10000 27 (.agg #[.int .u64 (l0 x), .int .u64 (l1 x), .int .u64 (l2 x), .int .u64 (l3 x), .int .u64 (l0 y), .int .u64 (l1 y), .int .u64 (l2 y), .int .u64 (l3 y), .bool i]) (.agg #[.int .u64 (l0 x'), .int .u64 (l1 x'), .int .u64 (l2 x'), .int .u64 (l3 x'), .int .u64 (l0 y'), .int .u64 (l1 y'), .int .u64 (l2 y'), .int .u64 (l3 y'), .bool j])).run Tryd.prog w = .ok (decide (x = x') && (decide (y = y') && (i == j))) w := by
  have e1 := eq_num9 hx hx'
  have e2 := eq_num9 hy hy'
  have tf : (Tryd.prog.fieldsOf 27) = #[{ name := "R", type := 25, offset := 0, embedded := false, tag := "", pkgPath := "", byteOffset := 0 }, { name := "S", type := 25, offset := 4, embedded := false, tag := "", pkgPath := "", byteOffset := 32 }, { name := "Odd", type := 4, offset := 8, embedded := false, tag := "", pkgPath := "", byteOffset := 64 }] := by
    unfold Program.fieldsOf; rw [Tryd.underlying27]
  rw [show (10000 : Nat) = 9999 + 1 from rfl, run_equalIn_struct w 9999 _ _ _ (by rw [tf]; exact Tryd.underlying27) (by kernel_rfl), tf]
  have tu := Tryd.underlying4
  have ta := Tryd.isAgg4
  have tz := Tryd.sizeOf4
  have ta' := Tryd.isAgg25
  have tz' := Tryd.sizeOf25
  simp only [Op.eqFields]
  go_simp
  by_cases h1 : x = x' <;> by_cases h2 : y = y' <;> by_cases h3 : i = j <;> simp [h1, h2, h3]

set_option maxRecDepth 100000 in
set_option maxHeartbeats 4000000 in
theorem lfit_zero {x n : Int} (O : Hid (∀ w, Mds w → Calls Tryd.prog 24 #[.int .i64 1] w fun e w' => e = .returned (.tuple #[.agg #[.int .u64 (l0 n), .int .u64 (l1 n), .int .u64 (l2 n), .int .u64 (l3 n)], .int .i64 0]) ∧ Below w.heap.size w w')) (E : ∀ w, (Op.equalIn 10000 25 (.agg #[.int .u64 (l0 x), .int .u64 (l1 x), .int .u64 (l2 x), .int .u64 (l3 x)]) (.agg #[.int .u64 0, .int .u64 0, .int .u64 0, .int .u64 0])).run Tryd.prog w = .ok true w) (w : World) (hm : Mds w) :
    Calls Tryd.prog 22 #[.agg #[.int .u64 (l0 x), .int .u64 (l1 x), .int .u64 (l2 x), .int .u64 (l3 x)]] w fun e w' => e = .returned (.bool false) ∧ Below w.heap.size w w' := by
  go_enter Tryd.func22, Tryd.ntmps22
  go_wp2_with fail
  refine calls_world (fun W => Below w.heap.size w W ∧ Mds W ∧ Hold W w.heap.size x) ⟨by repeat (first | with_reducible exact Below.refl _ _ | with_reducible refine Below.alloc ?_ (by first | omega | (simp; done) | (simp; omega)) _), hm.alloc _, Hold.fresh (by simp)⟩ ?_
  rintro W ⟨B, hD, hX⟩
  with_reducible refine (O.out _ hD).mono ?_
  rintro e w9 ⟨rfl, hb⟩
  replace B := B.trans (hb.mono B.size)
  replace hD := hD.keep hb; replace hX := hX.keep hb
  clear hb W hD
  have gX := hX.allocs
  have BB : Hid (∀ o, Below w.heap.size w (w9.alloc o)) := fun o => B.alloc B.size o
  clear B hX
  go_wp2
  simp [bodyPost, results, Tryd.results22, go_sem]
  exact BB.out _

set_option maxRecDepth 100000 in
set_option maxHeartbeats 4000000 in
theorem lfit_yes {x n q : Int} {v : Bool} (O : Hid (∀ w, Mds w → Calls Tryd.prog 24 #[.int .i64 1] w fun e w' => e = .returned (.tuple #[.agg #[.int .u64 (l0 n), .int .u64 (l1 n), .int .u64 (l2 n), .int .u64 (l3 n)], .int .i64 0]) ∧ Below w.heap.size w w')) (E : ∀ w, (Op.equalIn 10000 25 (.agg #[.int .u64 (l0 x), .int .u64 (l1 x), .int .u64 (l2 x), .int .u64 (l3 x)]) (.agg #[.int .u64 0, .int .u64 0, .int .u64 0, .int .u64 0])).run Tryd.prog w = .ok false w) (C : Hid (∀ w, Calls Tryd.prog 46 #[.agg #[.int .u64 (l0 x), .int .u64 (l1 x), .int .u64 (l2 x), .int .u64 (l3 x)], .agg #[.int .u64 (l0 n), .int .u64 (l1 n), .int .u64 (l2 n), .int .u64 (l3 n)]] w fun e w' => e = .returned (.int .i64 q) ∧ Below w.heap.size w w')) (hv : decide (q < 0) = v) (w : World) (hm : Mds w) :
    Calls Tryd.prog 22 #[.agg #[.int .u64 (l0 x), .int .u64 (l1 x), .int .u64 (l2 x), .int .u64 (l3 x)]] w fun e w' => e = .returned (.bool v) ∧ Below w.heap.size w w' := by
  go_enter Tryd.func22, Tryd.ntmps22
  go_wp2_with fail
  refine calls_world (fun W => Below w.heap.size w W ∧ Mds W ∧ Hold W w.heap.size x) ⟨by repeat (first | with_reducible exact Below.refl _ _ | with_reducible refine Below.alloc ?_ (by first | omega | (simp; done) | (simp; omega)) _), hm.alloc _, Hold.fresh (by simp)⟩ ?_
  rintro W ⟨B, hD, hX⟩
  with_reducible refine (O.out _ hD).mono ?_
  rintro e w1 ⟨rfl, hb⟩
  replace B := B.trans (hb.mono B.size)
  replace hD := hD.keep hb; replace hX := hX.keep hb
  clear hb W
  have ghX := hX.allocs
  go_wp2_with fail
  refine calls_world (fun W => Below w.heap.size w W ∧ Mds W ∧ Hold W w.heap.size x ∧ Hold W w1.heap.size n) ⟨B.alloc B.size _, hD.alloc _, hX.alloc _, Hold.new _ _ _⟩ ?_
  clear B hD hX ghX
  rintro W ⟨B, hD, hX, hM⟩
  generalize w1.heap.size = bm at *
  with_reducible refine (C.out _).mono ?_
  rintro e w9 ⟨rfl, hb⟩
  replace B := B.trans (hb.mono B.size)
  clear hb hX hM hD W
  go_wp2
  simp [bodyPost, results, Tryd.results22, go_sem]
  exact B

theorem lfit_any {x : Int} (hx : Num x) : Hid (∀ w, Mds w → Calls Tryd.prog 22 #[.agg #[.int .u64 (l0 x), .int .u64 (l1 x), .int .u64 (l2 x), .int .u64 (l3 x)]] w fun e w' => e = .returned (.bool (fitN x)) ∧ Below w.heap.size w w') := fun w hm => by
  unfold fitN
  by_cases h : x = 0
  · rw [decide_eq_true h]
    exact lfit_zero (fun w hm => Modulus_good kind_n w hm) (eqz6 hx (decide_eq_true h)) w hm
  · rw [decide_eq_false h]
    exact lfit_yes (fun w hm => Modulus_good kind_n w hm) (eqz6 hx (decide_eq_false h)) (fun w => cmp_any hx num_n w) (cmp_lt x nN) w hm

set_option maxRecDepth 100000 in
set_option maxHeartbeats 16000000 in
theorem etb_a0 {key non r s : Int} {o : Bool} {A : List Int} (hl : A.length = 32) (SW : Hid (∀ w, Mds w → Cols w → Calls Tryd.prog 21 #[.agg #[.int .u64 (l0 key), .int .u64 (l1 key), .int .u64 (l2 key), .int .u64 (l3 key)], .agg #[.int .u64 (l0 non), .int .u64 (l1 non), .int .u64 (l2 non), .int .u64 (l3 non)], .agg ((A.map fun z => Value.int .u8 z).toArray)] w fun e w' => e = .returned (.tuple #[.agg #[.int .u64 (l0 r), .int .u64 (l1 r), .int .u64 (l2 r), .int .u64 (l3 r), .int .u64 (l0 s), .int .u64 (l1 s), .int .u64 (l2 s), .int .u64 (l3 s), .bool o], .int .i64 60]) ∧ Below w.heap.size w w')) (F1 : Hid (∀ w, Mds w → Calls Tryd.prog 22 #[.agg #[.int .u64 (l0 key), .int .u64 (l1 key), .int .u64 (l2 key), .int .u64 (l3 key)]] w fun e w' => e = .returned (.bool false) ∧ Below w.heap.size w w')) (E1 : ∀ w, (Op.equalIn 10000 27 (.agg #[.int .u64 (l0 r), .int .u64 (l1 r), .int .u64 (l2 r), .int .u64 (l3 r), .int .u64 (l0 s), .int .u64 (l1 s), .int .u64 (l2 s), .int .u64 (l3 s), .bool o]) (.agg #[.int .u64 0, .int .u64 0, .int .u64 0, .int .u64 0, .int .u64 0, .int .u64 0, .int .u64 0, .int .u64 0, .bool false])).run Tryd.prog w = .ok true w) (w : World) (hm : Mds w) (hc : Cols w) :
    Calls Tryd.prog 7 #[.agg #[.int .u64 (l0 key), .int .u64 (l1 key), .int .u64 (l2 key), .int .u64 (l3 key)], .agg #[.int .u64 (l0 non), .int .u64 (l1 non), .int .u64 (l2 non), .int .u64 (l3 non)], hashV A] w fun e w' => e = .returned (.bool true) ∧ Below w.heap.size w w' := by
  unfold hashV at *
  have ra : (((w.alloc (.cells #[.int .u64 (l0 key), .int .u64 (l1 key), .int .u64 (l2 key), .int .u64 (l3 key)] 25)).alloc (.cells #[.int .u64 (l0 non), .int .u64 (l1 non), .int .u64 (l2 non), .int .u64 (l3 non)] 25)).alloc (.cells ((A.map fun z => Value.int .u8 z).toArray) 48)).rangeAt (w.heap.size + 1 + 1) 0 (A.map fun z => Value.int .u8 z) := (HAt.new hl (by simp)).2
  go_enter Tryd.func7, Tryd.ntmps7
  go_wp2_with (refine wpList_load_mid rfl 48 _ rfl (w.heap.size + 1 + 1) 0 rfl (A.map fun z => Value.int .u8 z) _ ra Tryd.underlying48 rfl (by rw [List.length_map, hl]; kernel_rfl) ?_)
  refine calls_world (fun W => Below w.heap.size w W ∧ Mds W ∧ Cols W ∧ Nm W w.heap.size key ∧ Nm W (w.heap.size + 1) non ∧ HAt W (w.heap.size + 1 + 1) A) ⟨by repeat (first | with_reducible exact Below.refl _ _ | with_reducible refine Below.alloc ?_ (by first | omega | (simp; done) | (simp; omega)) _), ((hm.alloc _).alloc _).alloc _, ((Cols.alloc hc _).alloc _).alloc _, (Nm.alloc (Cl.new _ rfl rfl) _).alloc _, Nm.alloc (Cl.new _ (by simp) rfl) _, HAt.new hl (by simp)⟩ ?_
  clear ra
  rintro W ⟨B, hD, hO, hK, hE, hY⟩
  generalize w.heap.size + 1 + 1 = bd at *
  generalize w.heap.size + 1 = bn at *
  with_reducible refine (SW.out _ hD hO).mono ?_
  rintro e w1 ⟨rfl, hb⟩
  replace B := B.trans (hb.mono B.size)
  replace hD := hD.keep hb; replace hO := hO.keep hb; replace hK := hK.keep hb; replace hE := hE.keep hb; replace hY := hY.keep hb
  clear hb W
  have ghK := fun o => (hK.alloc o).cells
  go_wp2_with fail
  refine calls_world (fun W => Below w.heap.size w W ∧ Mds W ∧ Cols W ∧ Nm W w.heap.size key ∧ Nm W bn non ∧ HAt W bd A ∧ Pnt W w1.heap.size r s o) ⟨B.alloc B.size _, hD.alloc _, hO.alloc _, hK.alloc _, hE.alloc _, hY.alloc _, Pnt.new rfl⟩ ?_
  clear B hD hO hK hE hY ghK
  rintro W ⟨B, hD, hO, hK, hE, hY, hS⟩
  generalize w1.heap.size = bs at *
  with_reducible refine (F1.out _ hD).mono ?_
  rintro e w9 ⟨rfl, hb⟩
  replace B := B.trans (hb.mono B.size)
  replace hD := hD.keep hb; replace hO := hO.keep hb; replace hK := hK.keep hb; replace hE := hE.keep hb; replace hY := hY.keep hb; replace hS := hS.keep hb
  clear hb W
  have gS := hS.cells
  go_wp2
  simp [bodyPost, results, Tryd.results7, go_sem]
  exact B

set_option maxRecDepth 100000 in
set_option maxHeartbeats 16000000 in
theorem etb_a1 {key non r s : Int} {o : Bool} {A : List Int} (hl : A.length = 32) (SW : Hid (∀ w, Mds w → Cols w → Calls Tryd.prog 21 #[.agg #[.int .u64 (l0 key), .int .u64 (l1 key), .int .u64 (l2 key), .int .u64 (l3 key)], .agg #[.int .u64 (l0 non), .int .u64 (l1 non), .int .u64 (l2 non), .int .u64 (l3 non)], .agg ((A.map fun z => Value.int .u8 z).toArray)] w fun e w' => e = .returned (.tuple #[.agg #[.int .u64 (l0 r), .int .u64 (l1 r), .int .u64 (l2 r), .int .u64 (l3 r), .int .u64 (l0 s), .int .u64 (l1 s), .int .u64 (l2 s), .int .u64 (l3 s), .bool o], .int .i64 60]) ∧ Below w.heap.size w w')) (F1 : Hid (∀ w, Mds w → Calls Tryd.prog 22 #[.agg #[.int .u64 (l0 key), .int .u64 (l1 key), .int .u64 (l2 key), .int .u64 (l3 key)]] w fun e w' => e = .returned (.bool true) ∧ Below w.heap.size w w')) (F2 : Hid (∀ w, Mds w → Calls Tryd.prog 22 #[.agg #[.int .u64 (l0 non), .int .u64 (l1 non), .int .u64 (l2 non), .int .u64 (l3 non)]] w fun e w' => e = .returned (.bool false) ∧ Below w.heap.size w w')) (E1 : ∀ w, (Op.equalIn 10000 27 (.agg #[.int .u64 (l0 r), .int .u64 (l1 r), .int .u64 (l2 r), .int .u64 (l3 r), .int .u64 (l0 s), .int .u64 (l1 s), .int .u64 (l2 s), .int .u64 (l3 s), .bool o]) (.agg #[.int .u64 0, .int .u64 0, .int .u64 0, .int .u64 0, .int .u64 0, .int .u64 0, .int .u64 0, .int .u64 0, .bool false])).run Tryd.prog w = .ok true w) (w : World) (hm : Mds w) (hc : Cols w) :
    Calls Tryd.prog 7 #[.agg #[.int .u64 (l0 key), .int .u64 (l1 key), .int .u64 (l2 key), .int .u64 (l3 key)], .agg #[.int .u64 (l0 non), .int .u64 (l1 non), .int .u64 (l2 non), .int .u64 (l3 non)], hashV A] w fun e w' => e = .returned (.bool true) ∧ Below w.heap.size w w' := by
  unfold hashV at *
  have ra : (((w.alloc (.cells #[.int .u64 (l0 key), .int .u64 (l1 key), .int .u64 (l2 key), .int .u64 (l3 key)] 25)).alloc (.cells #[.int .u64 (l0 non), .int .u64 (l1 non), .int .u64 (l2 non), .int .u64 (l3 non)] 25)).alloc (.cells ((A.map fun z => Value.int .u8 z).toArray) 48)).rangeAt (w.heap.size + 1 + 1) 0 (A.map fun z => Value.int .u8 z) := (HAt.new hl (by simp)).2
  go_enter Tryd.func7, Tryd.ntmps7
  go_wp2_with (refine wpList_load_mid rfl 48 _ rfl (w.heap.size + 1 + 1) 0 rfl (A.map fun z => Value.int .u8 z) _ ra Tryd.underlying48 rfl (by rw [List.length_map, hl]; kernel_rfl) ?_)
  refine calls_world (fun W => Below w.heap.size w W ∧ Mds W ∧ Cols W ∧ Nm W w.heap.size key ∧ Nm W (w.heap.size + 1) non ∧ HAt W (w.heap.size + 1 + 1) A) ⟨by repeat (first | with_reducible exact Below.refl _ _ | with_reducible refine Below.alloc ?_ (by first | omega | (simp; done) | (simp; omega)) _), ((hm.alloc _).alloc _).alloc _, ((Cols.alloc hc _).alloc _).alloc _, (Nm.alloc (Cl.new _ rfl rfl) _).alloc _, Nm.alloc (Cl.new _ (by simp) rfl) _, HAt.new hl (by simp)⟩ ?_
  clear ra
  rintro W ⟨B, hD, hO, hK, hE, hY⟩
  generalize w.heap.size + 1 + 1 = bd at *
  generalize w.heap.size + 1 = bn at *
  with_reducible refine (SW.out _ hD hO).mono ?_
  rintro e w1 ⟨rfl, hb⟩
  replace B := B.trans (hb.mono B.size)
  replace hD := hD.keep hb; replace hO := hO.keep hb; replace hK := hK.keep hb; replace hE := hE.keep hb; replace hY := hY.keep hb
  clear hb W
  have ghK := fun o => (hK.alloc o).cells
  go_wp2_with fail
  refine calls_world (fun W => Below w.heap.size w W ∧ Mds W ∧ Cols W ∧ Nm W w.heap.size key ∧ Nm W bn non ∧ HAt W bd A ∧ Pnt W w1.heap.size r s o) ⟨B.alloc B.size _, hD.alloc _, hO.alloc _, hK.alloc _, hE.alloc _, hY.alloc _, Pnt.new rfl⟩ ?_
  clear B hD hO hK hE hY ghK
  rintro W ⟨B, hD, hO, hK, hE, hY, hS⟩
  generalize w1.heap.size = bs at *
  with_reducible refine (F1.out _ hD).mono ?_
  rintro e w2 ⟨rfl, hb⟩
  replace B := B.trans (hb.mono B.size)
  replace hD := hD.keep hb; replace hO := hO.keep hb; replace hK := hK.keep hb; replace hE := hE.keep hb; replace hY := hY.keep hb; replace hS := hS.keep hb
  clear hb W
  have ghE := hE.cells
  go_wp2_with fail
  refine calls_world (fun W => Below w.heap.size w W ∧ Mds W ∧ Cols W ∧ Nm W w.heap.size key ∧ Nm W bn non ∧ HAt W bd A ∧ Pnt W bs r s o) ⟨B, hD, hO, hK, hE, hY, hS⟩ ?_
  clear B hD hO hK hE hY hS ghE
  rintro W ⟨B, hD, hO, hK, hE, hY, hS⟩
  with_reducible refine (F2.out _ hD).mono ?_
  rintro e w9 ⟨rfl, hb⟩
  replace B := B.trans (hb.mono B.size)
  replace hD := hD.keep hb; replace hO := hO.keep hb; replace hK := hK.keep hb; replace hE := hE.keep hb; replace hY := hY.keep hb; replace hS := hS.keep hb
  clear hb W
  have gS := hS.cells
  go_wp2
  simp [bodyPost, results, Tryd.results7, go_sem]
  exact B

set_option maxRecDepth 100000 in
set_option maxHeartbeats 16000000 in
theorem etb_b64 {key non r s X Y dg a t : Int} {o j : Bool} {A : List Int} (hl : A.length = 32) (SW : Hid (∀ w, Mds w → Cols w → Calls Tryd.prog 21 #[.agg #[.int .u64 (l0 key), .int .u64 (l1 key), .int .u64 (l2 key), .int .u64 (l3 key)], .agg #[.int .u64 (l0 non), .int .u64 (l1 non), .int .u64 (l2 non), .int .u64 (l3 non)], .agg ((A.map fun z => Value.int .u8 z).toArray)] w fun e w' => e = .returned (.tuple #[.agg #[.int .u64 (l0 r), .int .u64 (l1 r), .int .u64 (l2 r), .int .u64 (l3 r), .int .u64 (l0 s), .int .u64 (l1 s), .int .u64 (l2 s), .int .u64 (l3 s), .bool o], .int .i64 64]) ∧ Below w.heap.size w w')) (F1 : Hid (∀ w, Mds w → Calls Tryd.prog 22 #[.agg #[.int .u64 (l0 key), .int .u64 (l1 key), .int .u64 (l2 key), .int .u64 (l3 key)]] w fun e w' => e = .returned (.bool true) ∧ Below w.heap.size w w')) (F2 : Hid (∀ w, Mds w → Calls Tryd.prog 22 #[.agg #[.int .u64 (l0 non), .int .u64 (l1 non), .int .u64 (l2 non), .int .u64 (l3 non)]] w fun e w' => e = .returned (.bool true) ∧ Below w.heap.size w w')) (MG : Hid (∀ w, Mds w → Cols w → Calls Tryd.prog 25 #[.agg #[.int .u64 (l0 non), .int .u64 (l1 non), .int .u64 (l2 non), .int .u64 (l3 non)]] w fun e w' => e = .returned (.agg #[.int .u64 (l0 X), .int .u64 (l1 X), .int .u64 (l2 X), .int .u64 (l3 X), .int .u64 (l0 Y), .int .u64 (l1 Y), .int .u64 (l2 Y), .int .u64 (l3 Y), .bool j]) ∧ Below w.heap.size w w')) (NU : Hid (∀ w, Mds w → Calls Tryd.prog 27 #[.agg ((A.map fun z => Value.int .u8 z).toArray)] w fun e w' => e = .returned (.agg #[.int .u64 (l0 dg), .int .u64 (l1 dg), .int .u64 (l2 dg), .int .u64 (l3 dg)]) ∧ Below w.heap.size w w')) (TI : Hid (∀ w, Mds w → Calls Tryd.prog 28 #[.agg #[.int .u64 (l0 X), .int .u64 (l1 X), .int .u64 (l2 X), .int .u64 (l3 X)], .agg #[.int .u64 (l0 key), .int .u64 (l1 key), .int .u64 (l2 key), .int .u64 (l3 key)]] w fun e w' => e = .returned (.agg #[.int .u64 (l0 a), .int .u64 (l1 a), .int .u64 (l2 a), .int .u64 (l3 a)]) ∧ Below w.heap.size w w')) (PL : Hid (∀ w, Mds w → Calls Tryd.prog 26 #[.agg #[.int .u64 (l0 dg), .int .u64 (l1 dg), .int .u64 (l2 dg), .int .u64 (l3 dg)], .agg #[.int .u64 (l0 a), .int .u64 (l1 a), .int .u64 (l2 a), .int .u64 (l3 a)]] w fun e w' => e = .returned (.agg #[.int .u64 (l0 t), .int .u64 (l1 t), .int .u64 (l2 t), .int .u64 (l3 t)]) ∧ Below w.heap.size w w')) (F3 : Hid (∀ w, Mds w → Calls Tryd.prog 22 #[.agg #[.int .u64 (l0 X), .int .u64 (l1 X), .int .u64 (l2 X), .int .u64 (l3 X)]] w fun e w' => e = .returned (.bool false) ∧ Below w.heap.size w w')) (E1 : ∀ w, (Op.equalIn 10000 27 (.agg #[.int .u64 (l0 r), .int .u64 (l1 r), .int .u64 (l2 r), .int .u64 (l3 r), .int .u64 (l0 s), .int .u64 (l1 s), .int .u64 (l2 s), .int .u64 (l3 s), .bool o]) (.agg #[.int .u64 0, .int .u64 0, .int .u64 0, .int .u64 0, .int .u64 0, .int .u64 0, .int .u64 0, .int .u64 0, .bool false])).run Tryd.prog w = .ok true w) (w : World) (hm : Mds w) (hc : Cols w) :
    Calls Tryd.prog 7 #[.agg #[.int .u64 (l0 key), .int .u64 (l1 key), .int .u64 (l2 key), .int .u64 (l3 key)], .agg #[.int .u64 (l0 non), .int .u64 (l1 non), .int .u64 (l2 non), .int .u64 (l3 non)], hashV A] w fun e w' => e = .returned (.bool true) ∧ Below w.heap.size w w' := by
  unfold hashV at *
  have ra : (((w.alloc (.cells #[.int .u64 (l0 key), .int .u64 (l1 key), .int .u64 (l2 key), .int .u64 (l3 key)] 25)).alloc (.cells #[.int .u64 (l0 non), .int .u64 (l1 non), .int .u64 (l2 non), .int .u64 (l3 non)] 25)).alloc (.cells ((A.map fun z => Value.int .u8 z).toArray) 48)).rangeAt (w.heap.size + 1 + 1) 0 (A.map fun z => Value.int .u8 z) := (HAt.new hl (by simp)).2
  go_enter Tryd.func7, Tryd.ntmps7
  go_wp2_with (refine wpList_load_mid rfl 48 _ rfl (w.heap.size + 1 + 1) 0 rfl (A.map fun z => Value.int .u8 z) _ ra Tryd.underlying48 rfl (by rw [List.length_map, hl]; kernel_rfl) ?_)
  refine calls_world (fun W => Below w.heap.size w W ∧ Mds W ∧ Cols W ∧ Nm W w.heap.size key ∧ Nm W (w.heap.size + 1) non ∧ HAt W (w.heap.size + 1 + 1) A) ⟨by repeat (first | with_reducible exact Below.refl _ _ | with_reducible refine Below.alloc ?_ (by first | omega | (simp; done) | (simp; omega)) _), ((hm.alloc _).alloc _).alloc _, ((Cols.alloc hc _).alloc _).alloc _, (Nm.alloc (Cl.new _ rfl rfl) _).alloc _, Nm.alloc (Cl.new _ (by simp) rfl) _, HAt.new hl (by simp)⟩ ?_
  clear ra
  rintro W ⟨B, hD, hO, hK, hE, hY⟩
  generalize w.heap.size + 1 + 1 = bd at *
  generalize w.heap.size + 1 = bn at *
  with_reducible refine (SW.out _ hD hO).mono ?_
  rintro e w1 ⟨rfl, hb⟩
  replace B := B.trans (hb.mono B.size)
  replace hD := hD.keep hb; replace hO := hO.keep hb; replace hK := hK.keep hb; replace hE := hE.keep hb; replace hY := hY.keep hb
  clear hb W
  have ghK := fun o => (hK.alloc o).cells
  go_wp2_with fail
  refine calls_world (fun W => Below w.heap.size w W ∧ Mds W ∧ Cols W ∧ Nm W w.heap.size key ∧ Nm W bn non ∧ HAt W bd A ∧ Pnt W w1.heap.size r s o) ⟨B.alloc B.size _, hD.alloc _, hO.alloc _, hK.alloc _, hE.alloc _, hY.alloc _, Pnt.new rfl⟩ ?_
  clear B hD hO hK hE hY ghK
  rintro W ⟨B, hD, hO, hK, hE, hY, hS⟩
  generalize w1.heap.size = bs at *
  with_reducible refine (F1.out _ hD).mono ?_
  rintro e w2 ⟨rfl, hb⟩
  replace B := B.trans (hb.mono B.size)
  replace hD := hD.keep hb; replace hO := hO.keep hb; replace hK := hK.keep hb; replace hE := hE.keep hb; replace hY := hY.keep hb; replace hS := hS.keep hb
  clear hb W
  have ghE := hE.cells
  go_wp2_with fail
  refine calls_world (fun W => Below w.heap.size w W ∧ Mds W ∧ Cols W ∧ Nm W w.heap.size key ∧ Nm W bn non ∧ HAt W bd A ∧ Pnt W bs r s o) ⟨B, hD, hO, hK, hE, hY, hS⟩ ?_
  clear B hD hO hK hE hY hS ghE
  rintro W ⟨B, hD, hO, hK, hE, hY, hS⟩
  with_reducible refine (F2.out _ hD).mono ?_
  rintro e w3 ⟨rfl, hb⟩
  replace B := B.trans (hb.mono B.size)
  replace hD := hD.keep hb; replace hO := hO.keep hb; replace hK := hK.keep hb; replace hE := hE.keep hb; replace hY := hY.keep hb; replace hS := hS.keep hb
  clear hb W
  have ghE := hE.cells
  go_wp2_with fail
  refine calls_world (fun W => Below w.heap.size w W ∧ Mds W ∧ Cols W ∧ Nm W w.heap.size key ∧ Nm W bn non ∧ HAt W bd A ∧ Pnt W bs r s o) ⟨B, hD, hO, hK, hE, hY, hS⟩ ?_
  clear B hD hO hK hE hY hS ghE
  rintro W ⟨B, hD, hO, hK, hE, hY, hS⟩
  with_reducible refine (MG.out _ hD hO).mono ?_
  rintro e w4 ⟨rfl, hb⟩
  replace B := B.trans (hb.mono B.size)
  replace hD := hD.keep hb; replace hO := hO.keep hb; replace hK := hK.keep hb; replace hE := hE.keep hb; replace hY := hY.keep hb; replace hS := hS.keep hb
  clear hb W
  go_wp2_with fail
  refine wp_world (fun W => Below w.heap.size w W ∧ Mds W ∧ Cols W ∧ Nm W w.heap.size key ∧ Nm W bn non ∧ HAt W bd A ∧ Pnt W bs r s o ∧ Pnt W w4.heap.size X Y j) ⟨B.alloc B.size _, hD.alloc _, hO.alloc _, hK.alloc _, hE.alloc _, hY.alloc _, hS.alloc _, Pnt.new rfl⟩ ?_
  clear B hD hO hK hE hY hS 
  rintro W ⟨B, hD, hO, hK, hE, hY, hS, hP⟩
  generalize w4.heap.size = bp at *
  refine alloc_tail (A := ?AA1) 7 (by kernel_rfl) (by kernel_rfl) rfl rfl (alloc_num _ _ _) (fun V hV => ?HH1) (fun V w1 hV hw => ?TT1)
  case HH1 =>
    have ghP := (hP.keep hV).grown; have ghK := (hK.keep hV).grown
    have hDg : ∀ d os, Mds (grow (redrawn V d) os) := fun d os => (hD.keep hV).keep (below_regrown V d os)
    have ldY : ∀ w', (∃ p : Regrown, w' = grow (redrawn V p.d) p.os) → w'.rangeAt bd 0 (A.map fun z => Value.int .u8 z) := by rintro w' ⟨p, rfl⟩; exact ((hY.keep hV).keep (below_regrown V p.d p.os)).2
    unfold Gr
    simp only [List.take_succ_cons, List.take_zero]
    repeat
      first
        | go_big_quiet_skip
        | (go_big_quiet_want; go_big_quiet_op; go_big_quiet_on)
        | (go_big_quiet_want; refine quiet_load_mid 48 _ rfl bd 0 rfl (A.map fun z => Value.int .u8 z) _ ldY Tryd.underlying48 rfl (by rw [List.length_map, hl]; kernel_rfl) ?_; simp only [Act.put, List.setIfInBounds_toArray, List.set_cons_succ, List.set_cons_zero]; go_big_quiet_on)
        | (go_big_quiet_want
           go_big_quiet_op
           apply Exists.intro
           refine ⟨fun p => ?_, ?_⟩
           · (first | (go_at_call 27; with_reducible exact Calls.regrown_of (NU.out _ (hDg p.d p.os))) | (go_at_call 28; with_reducible exact Calls.regrown_of (TI.out _ (hDg p.d p.os))) | (go_at_call 26; with_reducible exact Calls.regrown_of (PL.out _ (hDg p.d p.os))))
           go_big_quiet_on)
    refine wpQuiet_nil ?_
    exact rfl
  case TT1 =>
    have hb := alloc_below hV hw
    have hN := (Blank.new rfl).keep hw
    clear hY
    have nhD : V.heap.size ≠ 0 := Nat.ne_of_gt (Nat.lt_of_lt_of_le hD.lt hV.size)
    have nhO : V.heap.size ≠ 1 := Nat.ne_of_gt (Nat.lt_of_lt_of_le hO.lt hV.size)
    have nhK : V.heap.size ≠ w.heap.size := Nat.ne_of_gt (Nat.lt_of_lt_of_le hK.lt hV.size)
    have nhE : V.heap.size ≠ bn := Nat.ne_of_gt (Nat.lt_of_lt_of_le hE.lt hV.size)
    have nhS : V.heap.size ≠ bs := Nat.ne_of_gt (Nat.lt_of_lt_of_le hS.lt hV.size)
    have nhP : V.heap.size ≠ bp := Nat.ne_of_gt (Nat.lt_of_lt_of_le hP.lt hV.size)
    have gn : w.heap.size ≤ V.heap.size := Nat.le_trans B.size hV.size
    replace B := B.trans (hb.mono B.size)
    replace hD := hD.keep hb; replace hO := hO.keep hb; replace hK := hK.keep hb; replace hE := hE.keep hb; replace hS := hS.keep hb; replace hP := hP.keep hb
    clear hb hw hV W
    generalize V.heap.size = bt at *
    clear V
    have gN := hN.1.all4; have qN := hN.2.all4
    have ghP := hP.cells
    have mhD := nhD.symm
    have mhO := nhO.symm
    have mhK := nhK.symm
    have mhE := nhE.symm
    have mhS := nhS.symm
    have mhP := nhP.symm
    simp only [List.drop_succ_cons, List.drop_zero, Act.put, List.setIfInBounds_toArray, List.set_cons_zero, List.set_cons_succ]
    go_wp2_with fail
    refine calls_world (fun W => Below w.heap.size w W ∧ Mds W ∧ Cols W ∧ Nm W w.heap.size key ∧ Nm W bn non ∧ Pnt W bs r s o ∧ Pnt W bp X Y j ∧ Nm W bt t) ⟨below_put4 B gn, hD.put4 nhD, hO.put4 nhO, hK.put4 nhK, hE.put4 nhE, hS.put4 nhS, hP.put4 nhP, hN.put4 t⟩ ?_
    clear B hN gN qN hD hO hK hE hS hP nhD mhD nhO mhO nhK mhK nhE mhE nhS mhS nhP mhP ghP gn
    rintro W ⟨B, hD, hO, hK, hE, hS, hP, hT⟩
    clear w1
    with_reducible refine (F3.out _ hD).mono ?_
    rintro e w9 ⟨rfl, hb⟩
    replace B := B.trans (hb.mono B.size)
    replace hD := hD.keep hb; replace hO := hO.keep hb; replace hK := hK.keep hb; replace hE := hE.keep hb; replace hS := hS.keep hb; replace hP := hP.keep hb; replace hT := hT.keep hb
    clear hb W
    have gS := hS.cells
    go_wp2
    simp [bodyPost, results, Tryd.results7, go_sem]
    exact B

set_option maxRecDepth 100000 in
set_option maxHeartbeats 16000000 in
theorem etb_b65 {key non r s X Y dg a t : Int} {o j : Bool} {A : List Int} (hl : A.length = 32) (SW : Hid (∀ w, Mds w → Cols w → Calls Tryd.prog 21 #[.agg #[.int .u64 (l0 key), .int .u64 (l1 key), .int .u64 (l2 key), .int .u64 (l3 key)], .agg #[.int .u64 (l0 non), .int .u64 (l1 non), .int .u64 (l2 non), .int .u64 (l3 non)], .agg ((A.map fun z => Value.int .u8 z).toArray)] w fun e w' => e = .returned (.tuple #[.agg #[.int .u64 (l0 r), .int .u64 (l1 r), .int .u64 (l2 r), .int .u64 (l3 r), .int .u64 (l0 s), .int .u64 (l1 s), .int .u64 (l2 s), .int .u64 (l3 s), .bool o], .int .i64 65]) ∧ Below w.heap.size w w')) (F1 : Hid (∀ w, Mds w → Calls Tryd.prog 22 #[.agg #[.int .u64 (l0 key), .int .u64 (l1 key), .int .u64 (l2 key), .int .u64 (l3 key)]] w fun e w' => e = .returned (.bool true) ∧ Below w.heap.size w w')) (F2 : Hid (∀ w, Mds w → Calls Tryd.prog 22 #[.agg #[.int .u64 (l0 non), .int .u64 (l1 non), .int .u64 (l2 non), .int .u64 (l3 non)]] w fun e w' => e = .returned (.bool true) ∧ Below w.heap.size w w')) (MG : Hid (∀ w, Mds w → Cols w → Calls Tryd.prog 25 #[.agg #[.int .u64 (l0 non), .int .u64 (l1 non), .int .u64 (l2 non), .int .u64 (l3 non)]] w fun e w' => e = .returned (.agg #[.int .u64 (l0 X), .int .u64 (l1 X), .int .u64 (l2 X), .int .u64 (l3 X), .int .u64 (l0 Y), .int .u64 (l1 Y), .int .u64 (l2 Y), .int .u64 (l3 Y), .bool j]) ∧ Below w.heap.size w w')) (NU : Hid (∀ w, Mds w → Calls Tryd.prog 27 #[.agg ((A.map fun z => Value.int .u8 z).toArray)] w fun e w' => e = .returned (.agg #[.int .u64 (l0 dg), .int .u64 (l1 dg), .int .u64 (l2 dg), .int .u64 (l3 dg)]) ∧ Below w.heap.size w w')) (TI : Hid (∀ w, Mds w → Calls Tryd.prog 28 #[.agg #[.int .u64 (l0 X), .int .u64 (l1 X), .int .u64 (l2 X), .int .u64 (l3 X)], .agg #[.int .u64 (l0 key), .int .u64 (l1 key), .int .u64 (l2 key), .int .u64 (l3 key)]] w fun e w' => e = .returned (.agg #[.int .u64 (l0 a), .int .u64 (l1 a), .int .u64 (l2 a), .int .u64 (l3 a)]) ∧ Below w.heap.size w w')) (PL : Hid (∀ w, Mds w → Calls Tryd.prog 26 #[.agg #[.int .u64 (l0 dg), .int .u64 (l1 dg), .int .u64 (l2 dg), .int .u64 (l3 dg)], .agg #[.int .u64 (l0 a), .int .u64 (l1 a), .int .u64 (l2 a), .int .u64 (l3 a)]] w fun e w' => e = .returned (.agg #[.int .u64 (l0 t), .int .u64 (l1 t), .int .u64 (l2 t), .int .u64 (l3 t)]) ∧ Below w.heap.size w w')) (F3 : Hid (∀ w, Mds w → Calls Tryd.prog 22 #[.agg #[.int .u64 (l0 X), .int .u64 (l1 X), .int .u64 (l2 X), .int .u64 (l3 X)]] w fun e w' => e = .returned (.bool false) ∧ Below w.heap.size w w')) (E1 : ∀ w, (Op.equalIn 10000 27 (.agg #[.int .u64 (l0 r), .int .u64 (l1 r), .int .u64 (l2 r), .int .u64 (l3 r), .int .u64 (l0 s), .int .u64 (l1 s), .int .u64 (l2 s), .int .u64 (l3 s), .bool o]) (.agg #[.int .u64 0, .int .u64 0, .int .u64 0, .int .u64 0, .int .u64 0, .int .u64 0, .int .u64 0, .int .u64 0, .bool false])).run Tryd.prog w = .ok true w) (w : World) (hm : Mds w) (hc : Cols w) :
    Calls Tryd.prog 7 #[.agg #[.int .u64 (l0 key), .int .u64 (l1 key), .int .u64 (l2 key), .int .u64 (l3 key)], .agg #[.int .u64 (l0 non), .int .u64 (l1 non), .int .u64 (l2 non), .int .u64 (l3 non)], hashV A] w fun e w' => e = .returned (.bool true) ∧ Below w.heap.size w w' := by
  unfold hashV at *
  have ra : (((w.alloc (.cells #[.int .u64 (l0 key), .int .u64 (l1 key), .int .u64 (l2 key), .int .u64 (l3 key)] 25)).alloc (.cells #[.int .u64 (l0 non), .int .u64 (l1 non), .int .u64 (l2 non), .int .u64 (l3 non)] 25)).alloc (.cells ((A.map fun z => Value.int .u8 z).toArray) 48)).rangeAt (w.heap.size + 1 + 1) 0 (A.map fun z => Value.int .u8 z) := (HAt.new hl (by simp)).2
  go_enter Tryd.func7, Tryd.ntmps7
  go_wp2_with (refine wpList_load_mid rfl 48 _ rfl (w.heap.size + 1 + 1) 0 rfl (A.map fun z => Value.int .u8 z) _ ra Tryd.underlying48 rfl (by rw [List.length_map, hl]; kernel_rfl) ?_)
  refine calls_world (fun W => Below w.heap.size w W ∧ Mds W ∧ Cols W ∧ Nm W w.heap.size key ∧ Nm W (w.heap.size + 1) non ∧ HAt W (w.heap.size + 1 + 1) A) ⟨by repeat (first | with_reducible exact Below.refl _ _ | with_reducible refine Below.alloc ?_ (by first | omega | (simp; done) | (simp; omega)) _), ((hm.alloc _).alloc _).alloc _, ((Cols.alloc hc _).alloc _).alloc _, (Nm.alloc (Cl.new _ rfl rfl) _).alloc _, Nm.alloc (Cl.new _ (by simp) rfl) _, HAt.new hl (by simp)⟩ ?_
  clear ra
  rintro W ⟨B, hD, hO, hK, hE, hY⟩
  generalize w.heap.size + 1 + 1 = bd at *
  generalize w.heap.size + 1 = bn at *
  with_reducible refine (SW.out _ hD hO).mono ?_
  rintro e w1 ⟨rfl, hb⟩
  replace B := B.trans (hb.mono B.size)
  replace hD := hD.keep hb; replace hO := hO.keep hb; replace hK := hK.keep hb; replace hE := hE.keep hb; replace hY := hY.keep hb
  clear hb W
  have ghK := fun o => (hK.alloc o).cells
  go_wp2_with fail
  refine calls_world (fun W => Below w.heap.size w W ∧ Mds W ∧ Cols W ∧ Nm W w.heap.size key ∧ Nm W bn non ∧ HAt W bd A ∧ Pnt W w1.heap.size r s o) ⟨B.alloc B.size _, hD.alloc _, hO.alloc _, hK.alloc _, hE.alloc _, hY.alloc _, Pnt.new rfl⟩ ?_
  clear B hD hO hK hE hY ghK
  rintro W ⟨B, hD, hO, hK, hE, hY, hS⟩
  generalize w1.heap.size = bs at *
  with_reducible refine (F1.out _ hD).mono ?_
  rintro e w2 ⟨rfl, hb⟩
  replace B := B.trans (hb.mono B.size)
  replace hD := hD.keep hb; replace hO := hO.keep hb; replace hK := hK.keep hb; replace hE := hE.keep hb; replace hY := hY.keep hb; replace hS := hS.keep hb
  clear hb W
  have ghE := hE.cells
  go_wp2_with fail
  refine calls_world (fun W => Below w.heap.size w W ∧ Mds W ∧ Cols W ∧ Nm W w.heap.size key ∧ Nm W bn non ∧ HAt W bd A ∧ Pnt W bs r s o) ⟨B, hD, hO, hK, hE, hY, hS⟩ ?_
  clear B hD hO hK hE hY hS ghE
  rintro W ⟨B, hD, hO, hK, hE, hY, hS⟩
  with_reducible refine (F2.out _ hD).mono ?_
  rintro e w3 ⟨rfl, hb⟩
  replace B := B.trans (hb.mono B.size)
  replace hD := hD.keep hb; replace hO := hO.keep hb; replace hK := hK.keep hb; replace hE := hE.keep hb; replace hY := hY.keep hb; replace hS := hS.keep hb
  clear hb W
  have ghE := hE.cells
  go_wp2_with fail
  refine calls_world (fun W => Below w.heap.size w W ∧ Mds W ∧ Cols W ∧ Nm W w.heap.size key ∧ Nm W bn non ∧ HAt W bd A ∧ Pnt W bs r s o) ⟨B, hD, hO, hK, hE, hY, hS⟩ ?_
  clear B hD hO hK hE hY hS ghE
  rintro W ⟨B, hD, hO, hK, hE, hY, hS⟩
  with_reducible refine (MG.out _ hD hO).mono ?_
  rintro e w4 ⟨rfl, hb⟩
  replace B := B.trans (hb.mono B.size)
  replace hD := hD.keep hb; replace hO := hO.keep hb; replace hK := hK.keep hb; replace hE := hE.keep hb; replace hY := hY.keep hb; replace hS := hS.keep hb
  clear hb W
  go_wp2_with fail
  refine wp_world (fun W => Below w.heap.size w W ∧ Mds W ∧ Cols W ∧ Nm W w.heap.size key ∧ Nm W bn non ∧ HAt W bd A ∧ Pnt W bs r s o ∧ Pnt W w4.heap.size X Y j) ⟨B.alloc B.size _, hD.alloc _, hO.alloc _, hK.alloc _, hE.alloc _, hY.alloc _, hS.alloc _, Pnt.new rfl⟩ ?_
  clear B hD hO hK hE hY hS 
  rintro W ⟨B, hD, hO, hK, hE, hY, hS, hP⟩
  generalize w4.heap.size = bp at *
  refine alloc_tail (A := ?AA1) 7 (by kernel_rfl) (by kernel_rfl) rfl rfl (alloc_num _ _ _) (fun V hV => ?HH1) (fun V w1 hV hw => ?TT1)
  case HH1 =>
    have ghP := (hP.keep hV).grown; have ghK := (hK.keep hV).grown
    have hDg : ∀ d os, Mds (grow (redrawn V d) os) := fun d os => (hD.keep hV).keep (below_regrown V d os)
    have ldY : ∀ w', (∃ p : Regrown, w' = grow (redrawn V p.d) p.os) → w'.rangeAt bd 0 (A.map fun z => Value.int .u8 z) := by rintro w' ⟨p, rfl⟩; exact ((hY.keep hV).keep (below_regrown V p.d p.os)).2
    unfold Gr
    simp only [List.take_succ_cons, List.take_zero]
    repeat
      first
        | go_big_quiet_skip
        | (go_big_quiet_want; go_big_quiet_op; go_big_quiet_on)
        | (go_big_quiet_want; refine quiet_load_mid 48 _ rfl bd 0 rfl (A.map fun z => Value.int .u8 z) _ ldY Tryd.underlying48 rfl (by rw [List.length_map, hl]; kernel_rfl) ?_; simp only [Act.put, List.setIfInBounds_toArray, List.set_cons_succ, List.set_cons_zero]; go_big_quiet_on)
        | (go_big_quiet_want
           go_big_quiet_op
           apply Exists.intro
           refine ⟨fun p => ?_, ?_⟩
           · (first | (go_at_call 27; with_reducible exact Calls.regrown_of (NU.out _ (hDg p.d p.os))) | (go_at_call 28; with_reducible exact Calls.regrown_of (TI.out _ (hDg p.d p.os))) | (go_at_call 26; with_reducible exact Calls.regrown_of (PL.out _ (hDg p.d p.os))))
           go_big_quiet_on)
    refine wpQuiet_nil ?_
    exact rfl
  case TT1 =>
    have hb := alloc_below hV hw
    have hN := (Blank.new rfl).keep hw
    clear hY
    have nhD : V.heap.size ≠ 0 := Nat.ne_of_gt (Nat.lt_of_lt_of_le hD.lt hV.size)
    have nhO : V.heap.size ≠ 1 := Nat.ne_of_gt (Nat.lt_of_lt_of_le hO.lt hV.size)
    have nhK : V.heap.size ≠ w.heap.size := Nat.ne_of_gt (Nat.lt_of_lt_of_le hK.lt hV.size)
    have nhE : V.heap.size ≠ bn := Nat.ne_of_gt (Nat.lt_of_lt_of_le hE.lt hV.size)
    have nhS : V.heap.size ≠ bs := Nat.ne_of_gt (Nat.lt_of_lt_of_le hS.lt hV.size)
    have nhP : V.heap.size ≠ bp := Nat.ne_of_gt (Nat.lt_of_lt_of_le hP.lt hV.size)
    have gn : w.heap.size ≤ V.heap.size := Nat.le_trans B.size hV.size
    replace B := B.trans (hb.mono B.size)
    replace hD := hD.keep hb; replace hO := hO.keep hb; replace hK := hK.keep hb; replace hE := hE.keep hb; replace hS := hS.keep hb; replace hP := hP.keep hb
    clear hb hw hV W
    generalize V.heap.size = bt at *
    clear V
    have gN := hN.1.all4; have qN := hN.2.all4
    have ghP := hP.cells
    have mhD := nhD.symm
    have mhO := nhO.symm
    have mhK := nhK.symm
    have mhE := nhE.symm
    have mhS := nhS.symm
    have mhP := nhP.symm
    simp only [List.drop_succ_cons, List.drop_zero, Act.put, List.setIfInBounds_toArray, List.set_cons_zero, List.set_cons_succ]
    go_wp2_with fail
    refine calls_world (fun W => Below w.heap.size w W ∧ Mds W ∧ Cols W ∧ Nm W w.heap.size key ∧ Nm W bn non ∧ Pnt W bs r s o ∧ Pnt W bp X Y j ∧ Nm W bt t) ⟨below_put4 B gn, hD.put4 nhD, hO.put4 nhO, hK.put4 nhK, hE.put4 nhE, hS.put4 nhS, hP.put4 nhP, hN.put4 t⟩ ?_
    clear B hN gN qN hD hO hK hE hS hP nhD mhD nhO mhO nhK mhK nhE mhE nhS mhS nhP mhP ghP gn
    rintro W ⟨B, hD, hO, hK, hE, hS, hP, hT⟩
    clear w1
    with_reducible refine (F3.out _ hD).mono ?_
    rintro e w9 ⟨rfl, hb⟩
    replace B := B.trans (hb.mono B.size)
    replace hD := hD.keep hb; replace hO := hO.keep hb; replace hK := hK.keep hb; replace hE := hE.keep hb; replace hS := hS.keep hb; replace hP := hP.keep hb; replace hT := hT.keep hb
    clear hb W
    have gS := hS.cells
    go_wp2
    simp [bodyPost, results, Tryd.results7, go_sem]
    exact B

set_option maxRecDepth 100000 in
set_option maxHeartbeats 16000000 in
theorem etb_c {key non r s X Y dg a t : Int} {o j : Bool} {A : List Int} (hl : A.length = 32) (SW : Hid (∀ w, Mds w → Cols w → Calls Tryd.prog 21 #[.agg #[.int .u64 (l0 key), .int .u64 (l1 key), .int .u64 (l2 key), .int .u64 (l3 key)], .agg #[.int .u64 (l0 non), .int .u64 (l1 non), .int .u64 (l2 non), .int .u64 (l3 non)], .agg ((A.map fun z => Value.int .u8 z).toArray)] w fun e w' => e = .returned (.tuple #[.agg #[.int .u64 (l0 r), .int .u64 (l1 r), .int .u64 (l2 r), .int .u64 (l3 r), .int .u64 (l0 s), .int .u64 (l1 s), .int .u64 (l2 s), .int .u64 (l3 s), .bool o], .int .i64 65]) ∧ Below w.heap.size w w')) (F1 : Hid (∀ w, Mds w → Calls Tryd.prog 22 #[.agg #[.int .u64 (l0 key), .int .u64 (l1 key), .int .u64 (l2 key), .int .u64 (l3 key)]] w fun e w' => e = .returned (.bool true) ∧ Below w.heap.size w w')) (F2 : Hid (∀ w, Mds w → Calls Tryd.prog 22 #[.agg #[.int .u64 (l0 non), .int .u64 (l1 non), .int .u64 (l2 non), .int .u64 (l3 non)]] w fun e w' => e = .returned (.bool true) ∧ Below w.heap.size w w')) (MG : Hid (∀ w, Mds w → Cols w → Calls Tryd.prog 25 #[.agg #[.int .u64 (l0 non), .int .u64 (l1 non), .int .u64 (l2 non), .int .u64 (l3 non)]] w fun e w' => e = .returned (.agg #[.int .u64 (l0 X), .int .u64 (l1 X), .int .u64 (l2 X), .int .u64 (l3 X), .int .u64 (l0 Y), .int .u64 (l1 Y), .int .u64 (l2 Y), .int .u64 (l3 Y), .bool j]) ∧ Below w.heap.size w w')) (NU : Hid (∀ w, Mds w → Calls Tryd.prog 27 #[.agg ((A.map fun z => Value.int .u8 z).toArray)] w fun e w' => e = .returned (.agg #[.int .u64 (l0 dg), .int .u64 (l1 dg), .int .u64 (l2 dg), .int .u64 (l3 dg)]) ∧ Below w.heap.size w w')) (TI : Hid (∀ w, Mds w → Calls Tryd.prog 28 #[.agg #[.int .u64 (l0 X), .int .u64 (l1 X), .int .u64 (l2 X), .int .u64 (l3 X)], .agg #[.int .u64 (l0 key), .int .u64 (l1 key), .int .u64 (l2 key), .int .u64 (l3 key)]] w fun e w' => e = .returned (.agg #[.int .u64 (l0 a), .int .u64 (l1 a), .int .u64 (l2 a), .int .u64 (l3 a)]) ∧ Below w.heap.size w w')) (PL : Hid (∀ w, Mds w → Calls Tryd.prog 26 #[.agg #[.int .u64 (l0 dg), .int .u64 (l1 dg), .int .u64 (l2 dg), .int .u64 (l3 dg)], .agg #[.int .u64 (l0 a), .int .u64 (l1 a), .int .u64 (l2 a), .int .u64 (l3 a)]] w fun e w' => e = .returned (.agg #[.int .u64 (l0 t), .int .u64 (l1 t), .int .u64 (l2 t), .int .u64 (l3 t)]) ∧ Below w.heap.size w w')) (F3 : Hid (∀ w, Mds w → Calls Tryd.prog 22 #[.agg #[.int .u64 (l0 X), .int .u64 (l1 X), .int .u64 (l2 X), .int .u64 (l3 X)]] w fun e w' => e = .returned (.bool true) ∧ Below w.heap.size w w')) (E1 : ∀ w, (Op.equalIn 10000 27 (.agg #[.int .u64 (l0 r), .int .u64 (l1 r), .int .u64 (l2 r), .int .u64 (l3 r), .int .u64 (l0 s), .int .u64 (l1 s), .int .u64 (l2 s), .int .u64 (l3 s), .bool o]) (.agg #[.int .u64 0, .int .u64 0, .int .u64 0, .int .u64 0, .int .u64 0, .int .u64 0, .int .u64 0, .int .u64 0, .bool false])).run Tryd.prog w = .ok true w) (E2 : ∀ w, (Op.equalIn 10000 25 (.agg #[.int .u64 (l0 t), .int .u64 (l1 t), .int .u64 (l2 t), .int .u64 (l3 t)]) (.agg #[.int .u64 0, .int .u64 0, .int .u64 0, .int .u64 0])).run Tryd.prog w = .ok true w) (w : World) (hm : Mds w) (hc : Cols w) :
    Calls Tryd.prog 7 #[.agg #[.int .u64 (l0 key), .int .u64 (l1 key), .int .u64 (l2 key), .int .u64 (l3 key)], .agg #[.int .u64 (l0 non), .int .u64 (l1 non), .int .u64 (l2 non), .int .u64 (l3 non)], hashV A] w fun e w' => e = .returned (.bool true) ∧ Below w.heap.size w w' := by
  unfold hashV at *
  have ra : (((w.alloc (.cells #[.int .u64 (l0 key), .int .u64 (l1 key), .int .u64 (l2 key), .int .u64 (l3 key)] 25)).alloc (.cells #[.int .u64 (l0 non), .int .u64 (l1 non), .int .u64 (l2 non), .int .u64 (l3 non)] 25)).alloc (.cells ((A.map fun z => Value.int .u8 z).toArray) 48)).rangeAt (w.heap.size + 1 + 1) 0 (A.map fun z => Value.int .u8 z) := (HAt.new hl (by simp)).2
  go_enter Tryd.func7, Tryd.ntmps7
  go_wp2_with (refine wpList_load_mid rfl 48 _ rfl (w.heap.size + 1 + 1) 0 rfl (A.map fun z => Value.int .u8 z) _ ra Tryd.underlying48 rfl (by rw [List.length_map, hl]; kernel_rfl) ?_)
  refine calls_world (fun W => Below w.heap.size w W ∧ Mds W ∧ Cols W ∧ Nm W w.heap.size key ∧ Nm W (w.heap.size + 1) non ∧ HAt W (w.heap.size + 1 + 1) A) ⟨by repeat (first | with_reducible exact Below.refl _ _ | with_reducible refine Below.alloc ?_ (by first | omega | (simp; done) | (simp; omega)) _), ((hm.alloc _).alloc _).alloc _, ((Cols.alloc hc _).alloc _).alloc _, (Nm.alloc (Cl.new _ rfl rfl) _).alloc _, Nm.alloc (Cl.new _ (by simp) rfl) _, HAt.new hl (by simp)⟩ ?_
  clear ra
  rintro W ⟨B, hD, hO, hK, hE, hY⟩
  generalize w.heap.size + 1 + 1 = bd at *
  generalize w.heap.size + 1 = bn at *
  with_reducible refine (SW.out _ hD hO).mono ?_
  rintro e w1 ⟨rfl, hb⟩
  replace B := B.trans (hb.mono B.size)
  replace hD := hD.keep hb; replace hO := hO.keep hb; replace hK := hK.keep hb; replace hE := hE.keep hb; replace hY := hY.keep hb
  clear hb W
  have ghK := fun o => (hK.alloc o).cells
  go_wp2_with fail
  refine calls_world (fun W => Below w.heap.size w W ∧ Mds W ∧ Cols W ∧ Nm W w.heap.size key ∧ Nm W bn non ∧ HAt W bd A ∧ Pnt W w1.heap.size r s o) ⟨B.alloc B.size _, hD.alloc _, hO.alloc _, hK.alloc _, hE.alloc _, hY.alloc _, Pnt.new rfl⟩ ?_
  clear B hD hO hK hE hY ghK
  rintro W ⟨B, hD, hO, hK, hE, hY, hS⟩
  generalize w1.heap.size = bs at *
  with_reducible refine (F1.out _ hD).mono ?_
  rintro e w2 ⟨rfl, hb⟩
  replace B := B.trans (hb.mono B.size)
  replace hD := hD.keep hb; replace hO := hO.keep hb; replace hK := hK.keep hb; replace hE := hE.keep hb; replace hY := hY.keep hb; replace hS := hS.keep hb
  clear hb W
  have ghE := hE.cells
  go_wp2_with fail
  refine calls_world (fun W => Below w.heap.size w W ∧ Mds W ∧ Cols W ∧ Nm W w.heap.size key ∧ Nm W bn non ∧ HAt W bd A ∧ Pnt W bs r s o) ⟨B, hD, hO, hK, hE, hY, hS⟩ ?_
  clear B hD hO hK hE hY hS ghE
  rintro W ⟨B, hD, hO, hK, hE, hY, hS⟩
  with_reducible refine (F2.out _ hD).mono ?_
  rintro e w3 ⟨rfl, hb⟩
  replace B := B.trans (hb.mono B.size)
  replace hD := hD.keep hb; replace hO := hO.keep hb; replace hK := hK.keep hb; replace hE := hE.keep hb; replace hY := hY.keep hb; replace hS := hS.keep hb
  clear hb W
  have ghE := hE.cells
  go_wp2_with fail
  refine calls_world (fun W => Below w.heap.size w W ∧ Mds W ∧ Cols W ∧ Nm W w.heap.size key ∧ Nm W bn non ∧ HAt W bd A ∧ Pnt W bs r s o) ⟨B, hD, hO, hK, hE, hY, hS⟩ ?_
  clear B hD hO hK hE hY hS ghE
  rintro W ⟨B, hD, hO, hK, hE, hY, hS⟩
  with_reducible refine (MG.out _ hD hO).mono ?_
  rintro e w4 ⟨rfl, hb⟩
  replace B := B.trans (hb.mono B.size)
  replace hD := hD.keep hb; replace hO := hO.keep hb; replace hK := hK.keep hb; replace hE := hE.keep hb; replace hY := hY.keep hb; replace hS := hS.keep hb
  clear hb W
  go_wp2_with fail
  refine wp_world (fun W => Below w.heap.size w W ∧ Mds W ∧ Cols W ∧ Nm W w.heap.size key ∧ Nm W bn non ∧ HAt W bd A ∧ Pnt W bs r s o ∧ Pnt W w4.heap.size X Y j) ⟨B.alloc B.size _, hD.alloc _, hO.alloc _, hK.alloc _, hE.alloc _, hY.alloc _, hS.alloc _, Pnt.new rfl⟩ ?_
  clear B hD hO hK hE hY hS 
  rintro W ⟨B, hD, hO, hK, hE, hY, hS, hP⟩
  generalize w4.heap.size = bp at *
  refine alloc_tail (A := ?AA1) 7 (by kernel_rfl) (by kernel_rfl) rfl rfl (alloc_num _ _ _) (fun V hV => ?HH1) (fun V w1 hV hw => ?TT1)
  case HH1 =>
    have ghP := (hP.keep hV).grown; have ghK := (hK.keep hV).grown
    have hDg : ∀ d os, Mds (grow (redrawn V d) os) := fun d os => (hD.keep hV).keep (below_regrown V d os)
    have ldY : ∀ w', (∃ p : Regrown, w' = grow (redrawn V p.d) p.os) → w'.rangeAt bd 0 (A.map fun z => Value.int .u8 z) := by rintro w' ⟨p, rfl⟩; exact ((hY.keep hV).keep (below_regrown V p.d p.os)).2
    unfold Gr
    simp only [List.take_succ_cons, List.take_zero]
    repeat
      first
        | go_big_quiet_skip
        | (go_big_quiet_want; go_big_quiet_op; go_big_quiet_on)
        | (go_big_quiet_want; refine quiet_load_mid 48 _ rfl bd 0 rfl (A.map fun z => Value.int .u8 z) _ ldY Tryd.underlying48 rfl (by rw [List.length_map, hl]; kernel_rfl) ?_; simp only [Act.put, List.setIfInBounds_toArray, List.set_cons_succ, List.set_cons_zero]; go_big_quiet_on)
        | (go_big_quiet_want
           go_big_quiet_op
           apply Exists.intro
           refine ⟨fun p => ?_, ?_⟩
           · (first | (go_at_call 27; with_reducible exact Calls.regrown_of (NU.out _ (hDg p.d p.os))) | (go_at_call 28; with_reducible exact Calls.regrown_of (TI.out _ (hDg p.d p.os))) | (go_at_call 26; with_reducible exact Calls.regrown_of (PL.out _ (hDg p.d p.os))))
           go_big_quiet_on)
    refine wpQuiet_nil ?_
    exact rfl
  case TT1 =>
    have hb := alloc_below hV hw
    have hN := (Blank.new rfl).keep hw
    clear hY
    have nhD : V.heap.size ≠ 0 := Nat.ne_of_gt (Nat.lt_of_lt_of_le hD.lt hV.size)
    have nhO : V.heap.size ≠ 1 := Nat.ne_of_gt (Nat.lt_of_lt_of_le hO.lt hV.size)
    have nhK : V.heap.size ≠ w.heap.size := Nat.ne_of_gt (Nat.lt_of_lt_of_le hK.lt hV.size)
    have nhE : V.heap.size ≠ bn := Nat.ne_of_gt (Nat.lt_of_lt_of_le hE.lt hV.size)
    have nhS : V.heap.size ≠ bs := Nat.ne_of_gt (Nat.lt_of_lt_of_le hS.lt hV.size)
    have nhP : V.heap.size ≠ bp := Nat.ne_of_gt (Nat.lt_of_lt_of_le hP.lt hV.size)
    have gn : w.heap.size ≤ V.heap.size := Nat.le_trans B.size hV.size
    replace B := B.trans (hb.mono B.size)
    replace hD := hD.keep hb; replace hO := hO.keep hb; replace hK := hK.keep hb; replace hE := hE.keep hb; replace hS := hS.keep hb; replace hP := hP.keep hb
    clear hb hw hV W
    generalize V.heap.size = bt at *
    clear V
    have gN := hN.1.all4; have qN := hN.2.all4
    have ghP := hP.cells
    have mhD := nhD.symm
    have mhO := nhO.symm
    have mhK := nhK.symm
    have mhE := nhE.symm
    have mhS := nhS.symm
    have mhP := nhP.symm
    simp only [List.drop_succ_cons, List.drop_zero, Act.put, List.setIfInBounds_toArray, List.set_cons_zero, List.set_cons_succ]
    go_wp2_with fail
    refine calls_world (fun W => Below w.heap.size w W ∧ Mds W ∧ Cols W ∧ Nm W w.heap.size key ∧ Nm W bn non ∧ Pnt W bs r s o ∧ Pnt W bp X Y j ∧ Nm W bt t) ⟨below_put4 B gn, hD.put4 nhD, hO.put4 nhO, hK.put4 nhK, hE.put4 nhE, hS.put4 nhS, hP.put4 nhP, hN.put4 t⟩ ?_
    clear B hN gN qN hD hO hK hE hS hP nhD mhD nhO mhO nhK mhK nhE mhE nhS mhS nhP mhP ghP gn
    rintro W ⟨B, hD, hO, hK, hE, hS, hP, hT⟩
    clear w1
    with_reducible refine (F3.out _ hD).mono ?_
    rintro e w9 ⟨rfl, hb⟩
    replace B := B.trans (hb.mono B.size)
    replace hD := hD.keep hb; replace hO := hO.keep hb; replace hK := hK.keep hb; replace hE := hE.keep hb; replace hS := hS.keep hb; replace hP := hP.keep hb; replace hT := hT.keep hb
    clear hb W
    have gS := hS.cells; have gT := hT.cells
    go_wp2
    simp [bodyPost, results, Tryd.results7, go_sem]
    exact B

set_option maxRecDepth 100000 in
set_option maxHeartbeats 16000000 in
theorem etb_d1 {key non s X Y dg a t : Int} {o j : Bool} {A : List Int} (hl : A.length = 32) (SW : Hid (∀ w, Mds w → Cols w → Calls Tryd.prog 21 #[.agg #[.int .u64 (l0 key), .int .u64 (l1 key), .int .u64 (l2 key), .int .u64 (l3 key)], .agg #[.int .u64 (l0 non), .int .u64 (l1 non), .int .u64 (l2 non), .int .u64 (l3 non)], .agg ((A.map fun z => Value.int .u8 z).toArray)] w fun e w' => e = .returned (.tuple #[.agg #[.int .u64 (l0 X), .int .u64 (l1 X), .int .u64 (l2 X), .int .u64 (l3 X), .int .u64 (l0 s), .int .u64 (l1 s), .int .u64 (l2 s), .int .u64 (l3 s), .bool o], .int .i64 0]) ∧ Below w.heap.size w w')) (F1 : Hid (∀ w, Mds w → Calls Tryd.prog 22 #[.agg #[.int .u64 (l0 key), .int .u64 (l1 key), .int .u64 (l2 key), .int .u64 (l3 key)]] w fun e w' => e = .returned (.bool true) ∧ Below w.heap.size w w')) (F2 : Hid (∀ w, Mds w → Calls Tryd.prog 22 #[.agg #[.int .u64 (l0 non), .int .u64 (l1 non), .int .u64 (l2 non), .int .u64 (l3 non)]] w fun e w' => e = .returned (.bool true) ∧ Below w.heap.size w w')) (MG : Hid (∀ w, Mds w → Cols w → Calls Tryd.prog 25 #[.agg #[.int .u64 (l0 non), .int .u64 (l1 non), .int .u64 (l2 non), .int .u64 (l3 non)]] w fun e w' => e = .returned (.agg #[.int .u64 (l0 X), .int .u64 (l1 X), .int .u64 (l2 X), .int .u64 (l3 X), .int .u64 (l0 Y), .int .u64 (l1 Y), .int .u64 (l2 Y), .int .u64 (l3 Y), .bool j]) ∧ Below w.heap.size w w')) (NU : Hid (∀ w, Mds w → Calls Tryd.prog 27 #[.agg ((A.map fun z => Value.int .u8 z).toArray)] w fun e w' => e = .returned (.agg #[.int .u64 (l0 dg), .int .u64 (l1 dg), .int .u64 (l2 dg), .int .u64 (l3 dg)]) ∧ Below w.heap.size w w')) (TI : Hid (∀ w, Mds w → Calls Tryd.prog 28 #[.agg #[.int .u64 (l0 X), .int .u64 (l1 X), .int .u64 (l2 X), .int .u64 (l3 X)], .agg #[.int .u64 (l0 key), .int .u64 (l1 key), .int .u64 (l2 key), .int .u64 (l3 key)]] w fun e w' => e = .returned (.agg #[.int .u64 (l0 a), .int .u64 (l1 a), .int .u64 (l2 a), .int .u64 (l3 a)]) ∧ Below w.heap.size w w')) (PL : Hid (∀ w, Mds w → Calls Tryd.prog 26 #[.agg #[.int .u64 (l0 dg), .int .u64 (l1 dg), .int .u64 (l2 dg), .int .u64 (l3 dg)], .agg #[.int .u64 (l0 a), .int .u64 (l1 a), .int .u64 (l2 a), .int .u64 (l3 a)]] w fun e w' => e = .returned (.agg #[.int .u64 (l0 t), .int .u64 (l1 t), .int .u64 (l2 t), .int .u64 (l3 t)]) ∧ Below w.heap.size w w')) (F3 : Hid (∀ w, Mds w → Calls Tryd.prog 22 #[.agg #[.int .u64 (l0 X), .int .u64 (l1 X), .int .u64 (l2 X), .int .u64 (l3 X)]] w fun e w' => e = .returned (.bool true) ∧ Below w.heap.size w w')) (E2 : ∀ w, (Op.equalIn 10000 25 (.agg #[.int .u64 (l0 t), .int .u64 (l1 t), .int .u64 (l2 t), .int .u64 (l3 t)]) (.agg #[.int .u64 0, .int .u64 0, .int .u64 0, .int .u64 0])).run Tryd.prog w = .ok false w) (E3 : ∀ w, (Op.equalIn 10000 25 (.agg #[.int .u64 (l0 X), .int .u64 (l1 X), .int .u64 (l2 X), .int .u64 (l3 X)]) (.agg #[.int .u64 (l0 X), .int .u64 (l1 X), .int .u64 (l2 X), .int .u64 (l3 X)])).run Tryd.prog w = .ok true w) (CK : Hid (∀ w, Mds w → Calls Tryd.prog 13 #[.agg #[.int .u64 (l0 X), .int .u64 (l1 X), .int .u64 (l2 X), .int .u64 (l3 X), .int .u64 (l0 s), .int .u64 (l1 s), .int .u64 (l2 s), .int .u64 (l3 s), .bool o]] w fun e w' => e = .returned (.int .i64 0) ∧ Below w.heap.size w w')) (T2 : Hid (∀ w, Mds w → Calls Tryd.prog 28 #[.agg #[.int .u64 (l0 s), .int .u64 (l1 s), .int .u64 (l2 s), .int .u64 (l3 s)], .agg #[.int .u64 (l0 non), .int .u64 (l1 non), .int .u64 (l2 non), .int .u64 (l3 non)]] w fun e w' => e = .returned (.agg #[.int .u64 (l0 t), .int .u64 (l1 t), .int .u64 (l2 t), .int .u64 (l3 t)]) ∧ Below w.heap.size w w')) (E4 : ∀ w, (Op.equalIn 10000 25 (.agg #[.int .u64 (l0 t), .int .u64 (l1 t), .int .u64 (l2 t), .int .u64 (l3 t)]) (.agg #[.int .u64 (l0 t), .int .u64 (l1 t), .int .u64 (l2 t), .int .u64 (l3 t)])).run Tryd.prog w = .ok true w) (HO : Hid (o = ((l0 Y).tmod 2 == 1))) (w : World) (hm : Mds w) (hc : Cols w) :
    Calls Tryd.prog 7 #[.agg #[.int .u64 (l0 key), .int .u64 (l1 key), .int .u64 (l2 key), .int .u64 (l3 key)], .agg #[.int .u64 (l0 non), .int .u64 (l1 non), .int .u64 (l2 non), .int .u64 (l3 non)], hashV A] w fun e w' => e = .returned (.bool true) ∧ Below w.heap.size w w' := by
  unfold hashV at *
  have ra : (((w.alloc (.cells #[.int .u64 (l0 key), .int .u64 (l1 key), .int .u64 (l2 key), .int .u64 (l3 key)] 25)).alloc (.cells #[.int .u64 (l0 non), .int .u64 (l1 non), .int .u64 (l2 non), .int .u64 (l3 non)] 25)).alloc (.cells ((A.map fun z => Value.int .u8 z).toArray) 48)).rangeAt (w.heap.size + 1 + 1) 0 (A.map fun z => Value.int .u8 z) := (HAt.new hl (by simp)).2
  go_enter Tryd.func7, Tryd.ntmps7
  go_wp2_with (refine wpList_load_mid rfl 48 _ rfl (w.heap.size + 1 + 1) 0 rfl (A.map fun z => Value.int .u8 z) _ ra Tryd.underlying48 rfl (by rw [List.length_map, hl]; kernel_rfl) ?_)
  refine calls_world (fun W => Below w.heap.size w W ∧ Mds W ∧ Cols W ∧ Nm W w.heap.size key ∧ Nm W (w.heap.size + 1) non ∧ HAt W (w.heap.size + 1 + 1) A) ⟨by repeat (first | with_reducible exact Below.refl _ _ | with_reducible refine Below.alloc ?_ (by first | omega | (simp; done) | (simp; omega)) _), ((hm.alloc _).alloc _).alloc _, ((Cols.alloc hc _).alloc _).alloc _, (Nm.alloc (Cl.new _ rfl rfl) _).alloc _, Nm.alloc (Cl.new _ (by simp) rfl) _, HAt.new hl (by simp)⟩ ?_
  clear ra
  rintro W ⟨B, hD, hO, hK, hE, hY⟩
  generalize w.heap.size + 1 + 1 = bd at *
  generalize w.heap.size + 1 = bn at *
  with_reducible refine (SW.out _ hD hO).mono ?_
  rintro e w1 ⟨rfl, hb⟩
  replace B := B.trans (hb.mono B.size)
  replace hD := hD.keep hb; replace hO := hO.keep hb; replace hK := hK.keep hb; replace hE := hE.keep hb; replace hY := hY.keep hb
  clear hb W
  have ghK := fun o => (hK.alloc o).cells
  go_wp2_with fail
  refine calls_world (fun W => Below w.heap.size w W ∧ Mds W ∧ Cols W ∧ Nm W w.heap.size key ∧ Nm W bn non ∧ HAt W bd A ∧ Pnt W w1.heap.size X s o) ⟨B.alloc B.size _, hD.alloc _, hO.alloc _, hK.alloc _, hE.alloc _, hY.alloc _, Pnt.new rfl⟩ ?_
  clear B hD hO hK hE hY ghK
  rintro W ⟨B, hD, hO, hK, hE, hY, hS⟩
  generalize w1.heap.size = bs at *
  with_reducible refine (F1.out _ hD).mono ?_
  rintro e w2 ⟨rfl, hb⟩
  replace B := B.trans (hb.mono B.size)
  replace hD := hD.keep hb; replace hO := hO.keep hb; replace hK := hK.keep hb; replace hE := hE.keep hb; replace hY := hY.keep hb; replace hS := hS.keep hb
  clear hb W
  have ghE := hE.cells
  go_wp2_with fail
  refine calls_world (fun W => Below w.heap.size w W ∧ Mds W ∧ Cols W ∧ Nm W w.heap.size key ∧ Nm W bn non ∧ HAt W bd A ∧ Pnt W bs X s o) ⟨B, hD, hO, hK, hE, hY, hS⟩ ?_
  clear B hD hO hK hE hY hS ghE
  rintro W ⟨B, hD, hO, hK, hE, hY, hS⟩
  with_reducible refine (F2.out _ hD).mono ?_
  rintro e w3 ⟨rfl, hb⟩
  replace B := B.trans (hb.mono B.size)
  replace hD := hD.keep hb; replace hO := hO.keep hb; replace hK := hK.keep hb; replace hE := hE.keep hb; replace hY := hY.keep hb; replace hS := hS.keep hb
  clear hb W
  have ghE := hE.cells
  go_wp2_with fail
  refine calls_world (fun W => Below w.heap.size w W ∧ Mds W ∧ Cols W ∧ Nm W w.heap.size key ∧ Nm W bn non ∧ HAt W bd A ∧ Pnt W bs X s o) ⟨B, hD, hO, hK, hE, hY, hS⟩ ?_
  clear B hD hO hK hE hY hS ghE
  rintro W ⟨B, hD, hO, hK, hE, hY, hS⟩
  with_reducible refine (MG.out _ hD hO).mono ?_
  rintro e w4 ⟨rfl, hb⟩
  replace B := B.trans (hb.mono B.size)
  replace hD := hD.keep hb; replace hO := hO.keep hb; replace hK := hK.keep hb; replace hE := hE.keep hb; replace hY := hY.keep hb; replace hS := hS.keep hb
  clear hb W
  go_wp2_with fail
  refine wp_world (fun W => Below w.heap.size w W ∧ Mds W ∧ Cols W ∧ Nm W w.heap.size key ∧ Nm W bn non ∧ HAt W bd A ∧ Pnt W bs X s o ∧ Pnt W w4.heap.size X Y j) ⟨B.alloc B.size _, hD.alloc _, hO.alloc _, hK.alloc _, hE.alloc _, hY.alloc _, hS.alloc _, Pnt.new rfl⟩ ?_
  clear B hD hO hK hE hY hS 
  rintro W ⟨B, hD, hO, hK, hE, hY, hS, hP⟩
  generalize w4.heap.size = bp at *
  refine alloc_tail (A := ?AA1) 7 (by kernel_rfl) (by kernel_rfl) rfl rfl (alloc_num _ _ _) (fun V hV => ?HH1) (fun V w1 hV hw => ?TT1)
  case HH1 =>
    have ghP := (hP.keep hV).grown; have ghK := (hK.keep hV).grown
    have hDg : ∀ d os, Mds (grow (redrawn V d) os) := fun d os => (hD.keep hV).keep (below_regrown V d os)
    have ldY : ∀ w', (∃ p : Regrown, w' = grow (redrawn V p.d) p.os) → w'.rangeAt bd 0 (A.map fun z => Value.int .u8 z) := by rintro w' ⟨p, rfl⟩; exact ((hY.keep hV).keep (below_regrown V p.d p.os)).2
    unfold Gr
    simp only [List.take_succ_cons, List.take_zero]
    repeat
      first
        | go_big_quiet_skip
        | (go_big_quiet_want; go_big_quiet_op; go_big_quiet_on)
        | (go_big_quiet_want; refine quiet_load_mid 48 _ rfl bd 0 rfl (A.map fun z => Value.int .u8 z) _ ldY Tryd.underlying48 rfl (by rw [List.length_map, hl]; kernel_rfl) ?_; simp only [Act.put, List.setIfInBounds_toArray, List.set_cons_succ, List.set_cons_zero]; go_big_quiet_on)
        | (go_big_quiet_want
           go_big_quiet_op
           apply Exists.intro
           refine ⟨fun p => ?_, ?_⟩
           · (first | (go_at_call 27; with_reducible exact Calls.regrown_of (NU.out _ (hDg p.d p.os))) | (go_at_call 28; with_reducible exact Calls.regrown_of (TI.out _ (hDg p.d p.os))) | (go_at_call 26; with_reducible exact Calls.regrown_of (PL.out _ (hDg p.d p.os))))
           go_big_quiet_on)
    refine wpQuiet_nil ?_
    exact rfl
  case TT1 =>
    have hb := alloc_below hV hw
    have hN := (Blank.new rfl).keep hw
    clear hY
    have nhD : V.heap.size ≠ 0 := Nat.ne_of_gt (Nat.lt_of_lt_of_le hD.lt hV.size)
    have nhO : V.heap.size ≠ 1 := Nat.ne_of_gt (Nat.lt_of_lt_of_le hO.lt hV.size)
    have nhK : V.heap.size ≠ w.heap.size := Nat.ne_of_gt (Nat.lt_of_lt_of_le hK.lt hV.size)
    have nhE : V.heap.size ≠ bn := Nat.ne_of_gt (Nat.lt_of_lt_of_le hE.lt hV.size)
    have nhS : V.heap.size ≠ bs := Nat.ne_of_gt (Nat.lt_of_lt_of_le hS.lt hV.size)
    have nhP : V.heap.size ≠ bp := Nat.ne_of_gt (Nat.lt_of_lt_of_le hP.lt hV.size)
    have gn : w.heap.size ≤ V.heap.size := Nat.le_trans B.size hV.size
    replace B := B.trans (hb.mono B.size)
    replace hD := hD.keep hb; replace hO := hO.keep hb; replace hK := hK.keep hb; replace hE := hE.keep hb; replace hS := hS.keep hb; replace hP := hP.keep hb
    clear hb hw hV W
    generalize V.heap.size = bt at *
    clear V
    have gN := hN.1.all4; have qN := hN.2.all4
    have ghP := hP.cells
    have mhD := nhD.symm
    have mhO := nhO.symm
    have mhK := nhK.symm
    have mhE := nhE.symm
    have mhS := nhS.symm
    have mhP := nhP.symm
    simp only [List.drop_succ_cons, List.drop_zero, Act.put, List.setIfInBounds_toArray, List.set_cons_zero, List.set_cons_succ]
    go_wp2_with fail
    refine calls_world (fun W => Below w.heap.size w W ∧ Mds W ∧ Cols W ∧ Nm W w.heap.size key ∧ Nm W bn non ∧ Pnt W bs X s o ∧ Pnt W bp X Y j ∧ Nm W bt t) ⟨below_put4 B gn, hD.put4 nhD, hO.put4 nhO, hK.put4 nhK, hE.put4 nhE, hS.put4 nhS, hP.put4 nhP, hN.put4 t⟩ ?_
    clear B hN gN qN hD hO hK hE hS hP nhD mhD nhO mhO nhK mhK nhE mhE nhS mhS nhP mhP ghP gn
    rintro W ⟨B, hD, hO, hK, hE, hS, hP, hT⟩
    clear w1
    with_reducible refine (F3.out _ hD).mono ?_
    rintro e w5 ⟨rfl, hb⟩
    replace B := B.trans (hb.mono B.size)
    replace hD := hD.keep hb; replace hO := hO.keep hb; replace hK := hK.keep hb; replace hE := hE.keep hb; replace hS := hS.keep hb; replace hP := hP.keep hb; replace hT := hT.keep hb
    clear hb W
    have ghT := hT.cells
    have ghS := hS.cells
    have ghP := hP.cells
    go_wp2_with fail
    refine calls_world (fun W => Below w.heap.size w W ∧ Mds W ∧ Cols W ∧ Nm W w.heap.size key ∧ Nm W bn non ∧ Pnt W bs X s o ∧ Pnt W bp X Y j ∧ Nm W bt t) ⟨B, hD, hO, hK, hE, hS, hP, hT⟩ ?_
    clear B hD hO hK hE hS hP hT ghT ghS ghP
    rintro W ⟨B, hD, hO, hK, hE, hS, hP, hT⟩
    with_reducible refine (CK.out _ hD).mono ?_
    rintro e w6 ⟨rfl, hb⟩
    replace B := B.trans (hb.mono B.size)
    replace hD := hD.keep hb; replace hO := hO.keep hb; replace hK := hK.keep hb; replace hE := hE.keep hb; replace hS := hS.keep hb; replace hP := hP.keep hb; replace hT := hT.keep hb
    clear hb W
    have ghP := hP.cells
    go_wp2_with fail
    refine wp_world (fun W => Below w.heap.size w W ∧ Mds W ∧ Cols W ∧ Nm W w.heap.size key ∧ Nm W bn non ∧ Pnt W bs X s o ∧ Pnt W bp X Y j ∧ Nm W bt t) ⟨B, hD, hO, hK, hE, hS, hP, hT⟩ ?_
    clear B hD hO hK hE hS hP hT ghP
    rintro W ⟨B, hD, hO, hK, hE, hS, hP, hT⟩
    have ghS := hS.grown
    have ghE := hE.grown
    have ghT := hT.grown
    have hDg : ∀ d os, Mds (grow (redrawn W d) os) := fun d os => hD.keep (below_regrown W d os)
    have hOg : ∀ d os, Cols (grow (redrawn W d) os) := fun d os => hO.keep (below_regrown W d os)
    refine wp_region_quiet_below (by kernel_rfl) (by kernel_rfl) ?_
    repeat
      first
        | go_big_quiet_skip
        | (go_big_quiet_want; go_big_quiet_op; go_big_quiet_on)
        | (go_big_quiet_want
           go_big_quiet_op
           apply Exists.intro
           refine ⟨fun p => ?_, ?_⟩
           · (first | (go_at_call 28; with_reducible exact Calls.regrown_of (T2.out _ (hDg p.d p.os))))
           go_big_quiet_on)
    refine wpQuiet_nil ?_
    rintro w7 ⟨p, rfl⟩
    have hb := below_regrown W p.d p.os
    generalize grow (redrawn W p.d) p.os = w7 at *
    replace B := B.trans (hb.mono B.size)
    replace hD := hD.keep hb; replace hO := hO.keep hb; replace hK := hK.keep hb; replace hE := hE.keep hb; replace hS := hS.keep hb; replace hP := hP.keep hb; replace hT := hT.keep hb
    clear hb W ghS ghE ghT hDg hOg
    have gS := hS.cells
    go_wp2
    simp [bodyPost, results, Tryd.results7, go_sem]
    exact ⟨HO.out, B⟩

set_option maxRecDepth 100000 in
set_option maxHeartbeats 16000000 in
theorem etb_d2 {key non s X Y dg a t q : Int} {o j : Bool} {A : List Int} (hl : A.length = 32) (SW : Hid (∀ w, Mds w → Cols w → Calls Tryd.prog 21 #[.agg #[.int .u64 (l0 key), .int .u64 (l1 key), .int .u64 (l2 key), .int .u64 (l3 key)], .agg #[.int .u64 (l0 non), .int .u64 (l1 non), .int .u64 (l2 non), .int .u64 (l3 non)], .agg ((A.map fun z => Value.int .u8 z).toArray)] w fun e w' => e = .returned (.tuple #[.agg #[.int .u64 (l0 X), .int .u64 (l1 X), .int .u64 (l2 X), .int .u64 (l3 X), .int .u64 (l0 s), .int .u64 (l1 s), .int .u64 (l2 s), .int .u64 (l3 s), .bool o], .int .i64 0]) ∧ Below w.heap.size w w')) (F1 : Hid (∀ w, Mds w → Calls Tryd.prog 22 #[.agg #[.int .u64 (l0 key), .int .u64 (l1 key), .int .u64 (l2 key), .int .u64 (l3 key)]] w fun e w' => e = .returned (.bool true) ∧ Below w.heap.size w w')) (F2 : Hid (∀ w, Mds w → Calls Tryd.prog 22 #[.agg #[.int .u64 (l0 non), .int .u64 (l1 non), .int .u64 (l2 non), .int .u64 (l3 non)]] w fun e w' => e = .returned (.bool true) ∧ Below w.heap.size w w')) (MG : Hid (∀ w, Mds w → Cols w → Calls Tryd.prog 25 #[.agg #[.int .u64 (l0 non), .int .u64 (l1 non), .int .u64 (l2 non), .int .u64 (l3 non)]] w fun e w' => e = .returned (.agg #[.int .u64 (l0 X), .int .u64 (l1 X), .int .u64 (l2 X), .int .u64 (l3 X), .int .u64 (l0 Y), .int .u64 (l1 Y), .int .u64 (l2 Y), .int .u64 (l3 Y), .bool j]) ∧ Below w.heap.size w w')) (NU : Hid (∀ w, Mds w → Calls Tryd.prog 27 #[.agg ((A.map fun z => Value.int .u8 z).toArray)] w fun e w' => e = .returned (.agg #[.int .u64 (l0 dg), .int .u64 (l1 dg), .int .u64 (l2 dg), .int .u64 (l3 dg)]) ∧ Below w.heap.size w w')) (TI : Hid (∀ w, Mds w → Calls Tryd.prog 28 #[.agg #[.int .u64 (l0 X), .int .u64 (l1 X), .int .u64 (l2 X), .int .u64 (l3 X)], .agg #[.int .u64 (l0 key), .int .u64 (l1 key), .int .u64 (l2 key), .int .u64 (l3 key)]] w fun e w' => e = .returned (.agg #[.int .u64 (l0 a), .int .u64 (l1 a), .int .u64 (l2 a), .int .u64 (l3 a)]) ∧ Below w.heap.size w w')) (PL : Hid (∀ w, Mds w → Calls Tryd.prog 26 #[.agg #[.int .u64 (l0 dg), .int .u64 (l1 dg), .int .u64 (l2 dg), .int .u64 (l3 dg)], .agg #[.int .u64 (l0 a), .int .u64 (l1 a), .int .u64 (l2 a), .int .u64 (l3 a)]] w fun e w' => e = .returned (.agg #[.int .u64 (l0 t), .int .u64 (l1 t), .int .u64 (l2 t), .int .u64 (l3 t)]) ∧ Below w.heap.size w w')) (F3 : Hid (∀ w, Mds w → Calls Tryd.prog 22 #[.agg #[.int .u64 (l0 X), .int .u64 (l1 X), .int .u64 (l2 X), .int .u64 (l3 X)]] w fun e w' => e = .returned (.bool true) ∧ Below w.heap.size w w')) (E2 : ∀ w, (Op.equalIn 10000 25 (.agg #[.int .u64 (l0 t), .int .u64 (l1 t), .int .u64 (l2 t), .int .u64 (l3 t)]) (.agg #[.int .u64 0, .int .u64 0, .int .u64 0, .int .u64 0])).run Tryd.prog w = .ok false w) (E3 : ∀ w, (Op.equalIn 10000 25 (.agg #[.int .u64 (l0 X), .int .u64 (l1 X), .int .u64 (l2 X), .int .u64 (l3 X)]) (.agg #[.int .u64 (l0 X), .int .u64 (l1 X), .int .u64 (l2 X), .int .u64 (l3 X)])).run Tryd.prog w = .ok true w) (CK : Hid (∀ w, Mds w → Calls Tryd.prog 13 #[.agg #[.int .u64 (l0 X), .int .u64 (l1 X), .int .u64 (l2 X), .int .u64 (l3 X), .int .u64 (l0 s), .int .u64 (l1 s), .int .u64 (l2 s), .int .u64 (l3 s), .bool o]] w fun e w' => e = .returned (.int .i64 0) ∧ Below w.heap.size w w')) (T2 : Hid (∀ w, Mds w → Calls Tryd.prog 28 #[.agg #[.int .u64 (l0 s), .int .u64 (l1 s), .int .u64 (l2 s), .int .u64 (l3 s)], .agg #[.int .u64 (l0 non), .int .u64 (l1 non), .int .u64 (l2 non), .int .u64 (l3 non)]] w fun e w' => e = .returned (.agg #[.int .u64 (l0 q), .int .u64 (l1 q), .int .u64 (l2 q), .int .u64 (l3 q)]) ∧ Below w.heap.size w w')) (E4 : ∀ w, (Op.equalIn 10000 25 (.agg #[.int .u64 (l0 q), .int .u64 (l1 q), .int .u64 (l2 q), .int .u64 (l3 q)]) (.agg #[.int .u64 (l0 t), .int .u64 (l1 t), .int .u64 (l2 t), .int .u64 (l3 t)])).run Tryd.prog w = .ok false w) (NG : Hid (∀ w, Mds w → Calls Tryd.prog 23 #[.agg #[.int .u64 (l0 t), .int .u64 (l1 t), .int .u64 (l2 t), .int .u64 (l3 t)]] w fun e w' => e = .returned (.agg #[.int .u64 (l0 q), .int .u64 (l1 q), .int .u64 (l2 q), .int .u64 (l3 q)]) ∧ Below w.heap.size w w')) (E5 : ∀ w, (Op.equalIn 10000 25 (.agg #[.int .u64 (l0 q), .int .u64 (l1 q), .int .u64 (l2 q), .int .u64 (l3 q)]) (.agg #[.int .u64 (l0 q), .int .u64 (l1 q), .int .u64 (l2 q), .int .u64 (l3 q)])).run Tryd.prog w = .ok true w) (HO : Hid (o = !((l0 Y).tmod 2 == 1))) (w : World) (hm : Mds w) (hc : Cols w) :
    Calls Tryd.prog 7 #[.agg #[.int .u64 (l0 key), .int .u64 (l1 key), .int .u64 (l2 key), .int .u64 (l3 key)], .agg #[.int .u64 (l0 non), .int .u64 (l1 non), .int .u64 (l2 non), .int .u64 (l3 non)], hashV A] w fun e w' => e = .returned (.bool true) ∧ Below w.heap.size w w' := by
  unfold hashV at *
  have ra : (((w.alloc (.cells #[.int .u64 (l0 key), .int .u64 (l1 key), .int .u64 (l2 key), .int .u64 (l3 key)] 25)).alloc (.cells #[.int .u64 (l0 non), .int .u64 (l1 non), .int .u64 (l2 non), .int .u64 (l3 non)] 25)).alloc (.cells ((A.map fun z => Value.int .u8 z).toArray) 48)).rangeAt (w.heap.size + 1 + 1) 0 (A.map fun z => Value.int .u8 z) := (HAt.new hl (by simp)).2
  go_enter Tryd.func7, Tryd.ntmps7
  go_wp2_with (refine wpList_load_mid rfl 48 _ rfl (w.heap.size + 1 + 1) 0 rfl (A.map fun z => Value.int .u8 z) _ ra Tryd.underlying48 rfl (by rw [List.length_map, hl]; kernel_rfl) ?_)
  refine calls_world (fun W => Below w.heap.size w W ∧ Mds W ∧ Cols W ∧ Nm W w.heap.size key ∧ Nm W (w.heap.size + 1) non ∧ HAt W (w.heap.size + 1 + 1) A) ⟨by repeat (first | with_reducible exact Below.refl _ _ | with_reducible refine Below.alloc ?_ (by first | omega | (simp; done) | (simp; omega)) _), ((hm.alloc _).alloc _).alloc _, ((Cols.alloc hc _).alloc _).alloc _, (Nm.alloc (Cl.new _ rfl rfl) _).alloc _, Nm.alloc (Cl.new _ (by simp) rfl) _, HAt.new hl (by simp)⟩ ?_
  clear ra
  rintro W ⟨B, hD, hO, hK, hE, hY⟩
  generalize w.heap.size + 1 + 1 = bd at *
  generalize w.heap.size + 1 = bn at *
  with_reducible refine (SW.out _ hD hO).mono ?_
  rintro e w1 ⟨rfl, hb⟩
  replace B := B.trans (hb.mono B.size)
  replace hD := hD.keep hb; replace hO := hO.keep hb; replace hK := hK.keep hb; replace hE := hE.keep hb; replace hY := hY.keep hb
  clear hb W
  have ghK := fun o => (hK.alloc o).cells
  go_wp2_with fail
  refine calls_world (fun W => Below w.heap.size w W ∧ Mds W ∧ Cols W ∧ Nm W w.heap.size key ∧ Nm W bn non ∧ HAt W bd A ∧ Pnt W w1.heap.size X s o) ⟨B.alloc B.size _, hD.alloc _, hO.alloc _, hK.alloc _, hE.alloc _, hY.alloc _, Pnt.new rfl⟩ ?_
  clear B hD hO hK hE hY ghK
  rintro W ⟨B, hD, hO, hK, hE, hY, hS⟩
  generalize w1.heap.size = bs at *
  with_reducible refine (F1.out _ hD).mono ?_
  rintro e w2 ⟨rfl, hb⟩
  replace B := B.trans (hb.mono B.size)
  replace hD := hD.keep hb; replace hO := hO.keep hb; replace hK := hK.keep hb; replace hE := hE.keep hb; replace hY := hY.keep hb; replace hS := hS.keep hb
  clear hb W
  have ghE := hE.cells
  go_wp2_with fail
  refine calls_world (fun W => Below w.heap.size w W ∧ Mds W ∧ Cols W ∧ Nm W w.heap.size key ∧ Nm W bn non ∧ HAt W bd A ∧ Pnt W bs X s o) ⟨B, hD, hO, hK, hE, hY, hS⟩ ?_
  clear B hD hO hK hE hY hS ghE
  rintro W ⟨B, hD, hO, hK, hE, hY, hS⟩
  with_reducible refine (F2.out _ hD).mono ?_
  rintro e w3 ⟨rfl, hb⟩
  replace B := B.trans (hb.mono B.size)
  replace hD := hD.keep hb; replace hO := hO.keep hb; replace hK := hK.keep hb; replace hE := hE.keep hb; replace hY := hY.keep hb; replace hS := hS.keep hb
  clear hb W
  have ghE := hE.cells
  go_wp2_with fail
  refine calls_world (fun W => Below w.heap.size w W ∧ Mds W ∧ Cols W ∧ Nm W w.heap.size key ∧ Nm W bn non ∧ HAt W bd A ∧ Pnt W bs X s o) ⟨B, hD, hO, hK, hE, hY, hS⟩ ?_
  clear B hD hO hK hE hY hS ghE
  rintro W ⟨B, hD, hO, hK, hE, hY, hS⟩
  with_reducible refine (MG.out _ hD hO).mono ?_
  rintro e w4 ⟨rfl, hb⟩
  replace B := B.trans (hb.mono B.size)
  replace hD := hD.keep hb; replace hO := hO.keep hb; replace hK := hK.keep hb; replace hE := hE.keep hb; replace hY := hY.keep hb; replace hS := hS.keep hb
  clear hb W
  go_wp2_with fail
  refine wp_world (fun W => Below w.heap.size w W ∧ Mds W ∧ Cols W ∧ Nm W w.heap.size key ∧ Nm W bn non ∧ HAt W bd A ∧ Pnt W bs X s o ∧ Pnt W w4.heap.size X Y j) ⟨B.alloc B.size _, hD.alloc _, hO.alloc _, hK.alloc _, hE.alloc _, hY.alloc _, hS.alloc _, Pnt.new rfl⟩ ?_
  clear B hD hO hK hE hY hS 
  rintro W ⟨B, hD, hO, hK, hE, hY, hS, hP⟩
  generalize w4.heap.size = bp at *
  refine alloc_tail (A := ?AA1) 7 (by kernel_rfl) (by kernel_rfl) rfl rfl (alloc_num _ _ _) (fun V hV => ?HH1) (fun V w1 hV hw => ?TT1)
  case HH1 =>
    have ghP := (hP.keep hV).grown; have ghK := (hK.keep hV).grown
    have hDg : ∀ d os, Mds (grow (redrawn V d) os) := fun d os => (hD.keep hV).keep (below_regrown V d os)
    have ldY : ∀ w', (∃ p : Regrown, w' = grow (redrawn V p.d) p.os) → w'.rangeAt bd 0 (A.map fun z => Value.int .u8 z) := by rintro w' ⟨p, rfl⟩; exact ((hY.keep hV).keep (below_regrown V p.d p.os)).2
    unfold Gr
    simp only [List.take_succ_cons, List.take_zero]
    repeat
      first
        | go_big_quiet_skip
        | (go_big_quiet_want; go_big_quiet_op; go_big_quiet_on)
        | (go_big_quiet_want; refine quiet_load_mid 48 _ rfl bd 0 rfl (A.map fun z => Value.int .u8 z) _ ldY Tryd.underlying48 rfl (by rw [List.length_map, hl]; kernel_rfl) ?_; simp only [Act.put, List.setIfInBounds_toArray, List.set_cons_succ, List.set_cons_zero]; go_big_quiet_on)
        | (go_big_quiet_want
           go_big_quiet_op
           apply Exists.intro
           refine ⟨fun p => ?_, ?_⟩
           · (first | (go_at_call 27; with_reducible exact Calls.regrown_of (NU.out _ (hDg p.d p.os))) | (go_at_call 28; with_reducible exact Calls.regrown_of (TI.out _ (hDg p.d p.os))) | (go_at_call 26; with_reducible exact Calls.regrown_of (PL.out _ (hDg p.d p.os))))
           go_big_quiet_on)
    refine wpQuiet_nil ?_
    exact rfl
  case TT1 =>
    have hb := alloc_below hV hw
    have hN := (Blank.new rfl).keep hw
    clear hY
    have nhD : V.heap.size ≠ 0 := Nat.ne_of_gt (Nat.lt_of_lt_of_le hD.lt hV.size)
    have nhO : V.heap.size ≠ 1 := Nat.ne_of_gt (Nat.lt_of_lt_of_le hO.lt hV.size)
    have nhK : V.heap.size ≠ w.heap.size := Nat.ne_of_gt (Nat.lt_of_lt_of_le hK.lt hV.size)
    have nhE : V.heap.size ≠ bn := Nat.ne_of_gt (Nat.lt_of_lt_of_le hE.lt hV.size)
    have nhS : V.heap.size ≠ bs := Nat.ne_of_gt (Nat.lt_of_lt_of_le hS.lt hV.size)
    have nhP : V.heap.size ≠ bp := Nat.ne_of_gt (Nat.lt_of_lt_of_le hP.lt hV.size)
    have gn : w.heap.size ≤ V.heap.size := Nat.le_trans B.size hV.size
    replace B := B.trans (hb.mono B.size)
    replace hD := hD.keep hb; replace hO := hO.keep hb; replace hK := hK.keep hb; replace hE := hE.keep hb; replace hS := hS.keep hb; replace hP := hP.keep hb
    clear hb hw hV W
    generalize V.heap.size = bt at *
    clear V
    have gN := hN.1.all4; have qN := hN.2.all4
    have ghP := hP.cells
    have mhD := nhD.symm
    have mhO := nhO.symm
    have mhK := nhK.symm
    have mhE := nhE.symm
    have mhS := nhS.symm
    have mhP := nhP.symm
    simp only [List.drop_succ_cons, List.drop_zero, Act.put, List.setIfInBounds_toArray, List.set_cons_zero, List.set_cons_succ]
    go_wp2_with fail
    refine calls_world (fun W => Below w.heap.size w W ∧ Mds W ∧ Cols W ∧ Nm W w.heap.size key ∧ Nm W bn non ∧ Pnt W bs X s o ∧ Pnt W bp X Y j ∧ Nm W bt t) ⟨below_put4 B gn, hD.put4 nhD, hO.put4 nhO, hK.put4 nhK, hE.put4 nhE, hS.put4 nhS, hP.put4 nhP, hN.put4 t⟩ ?_
    clear B hN gN qN hD hO hK hE hS hP nhD mhD nhO mhO nhK mhK nhE mhE nhS mhS nhP mhP ghP gn
    rintro W ⟨B, hD, hO, hK, hE, hS, hP, hT⟩
    clear w1
    with_reducible refine (F3.out _ hD).mono ?_
    rintro e w5 ⟨rfl, hb⟩
    replace B := B.trans (hb.mono B.size)
    replace hD := hD.keep hb; replace hO := hO.keep hb; replace hK := hK.keep hb; replace hE := hE.keep hb; replace hS := hS.keep hb; replace hP := hP.keep hb; replace hT := hT.keep hb
    clear hb W
    have ghT := hT.cells
    have ghS := hS.cells
    have ghP := hP.cells
    go_wp2_with fail
    refine calls_world (fun W => Below w.heap.size w W ∧ Mds W ∧ Cols W ∧ Nm W w.heap.size key ∧ Nm W bn non ∧ Pnt W bs X s o ∧ Pnt W bp X Y j ∧ Nm W bt t) ⟨B, hD, hO, hK, hE, hS, hP, hT⟩ ?_
    clear B hD hO hK hE hS hP hT ghT ghS ghP
    rintro W ⟨B, hD, hO, hK, hE, hS, hP, hT⟩
    with_reducible refine (CK.out _ hD).mono ?_
    rintro e w6 ⟨rfl, hb⟩
    replace B := B.trans (hb.mono B.size)
    replace hD := hD.keep hb; replace hO := hO.keep hb; replace hK := hK.keep hb; replace hE := hE.keep hb; replace hS := hS.keep hb; replace hP := hP.keep hb; replace hT := hT.keep hb
    clear hb W
    have ghP := hP.cells
    go_wp2_with fail
    refine wp_world (fun W => Below w.heap.size w W ∧ Mds W ∧ Cols W ∧ Nm W w.heap.size key ∧ Nm W bn non ∧ Pnt W bs X s o ∧ Pnt W bp X Y j ∧ Nm W bt t) ⟨B, hD, hO, hK, hE, hS, hP, hT⟩ ?_
    clear B hD hO hK hE hS hP hT ghP
    rintro W ⟨B, hD, hO, hK, hE, hS, hP, hT⟩
    have ghS := hS.grown
    have ghE := hE.grown
    have ghT := hT.grown
    have hDg : ∀ d os, Mds (grow (redrawn W d) os) := fun d os => hD.keep (below_regrown W d os)
    have hOg : ∀ d os, Cols (grow (redrawn W d) os) := fun d os => hO.keep (below_regrown W d os)
    refine wp_region_quiet_below (by kernel_rfl) (by kernel_rfl) ?_
    repeat
      first
        | go_big_quiet_skip
        | (go_big_quiet_want; go_big_quiet_op; go_big_quiet_on)
        | (go_big_quiet_want
           go_big_quiet_op
           apply Exists.intro
           refine ⟨fun p => ?_, ?_⟩
           · (first | (go_at_call 28; with_reducible exact Calls.regrown_of (T2.out _ (hDg p.d p.os))))
           go_big_quiet_on)
    refine wpQuiet_nil ?_
    rintro w7 ⟨p, rfl⟩
    have hb := below_regrown W p.d p.os
    generalize grow (redrawn W p.d) p.os = w7 at *
    replace B := B.trans (hb.mono B.size)
    replace hD := hD.keep hb; replace hO := hO.keep hb; replace hK := hK.keep hb; replace hE := hE.keep hb; replace hS := hS.keep hb; replace hP := hP.keep hb; replace hT := hT.keep hb
    clear hb W ghS ghE ghT hDg hOg
    go_wp2_with fail
    refine wp_world (fun W => Below w.heap.size w W ∧ Mds W ∧ Cols W ∧ Nm W w.heap.size key ∧ Nm W bn non ∧ Pnt W bs X s o ∧ Pnt W bp X Y j ∧ Nm W bt t) ⟨B, hD, hO, hK, hE, hS, hP, hT⟩ ?_
    clear B hD hO hK hE hS hP hT
    rintro W ⟨B, hD, hO, hK, hE, hS, hP, hT⟩
    clear w7
    have ghS := hS.grown
    have ghE := hE.grown
    have ghT := hT.grown
    have hDg : ∀ d os, Mds (grow (redrawn W d) os) := fun d os => hD.keep (below_regrown W d os)
    have hOg : ∀ d os, Cols (grow (redrawn W d) os) := fun d os => hO.keep (below_regrown W d os)
    refine wp_region_quiet_below (by kernel_rfl) (by kernel_rfl) ?_
    repeat
      first
        | go_big_quiet_skip
        | (go_big_quiet_want; go_big_quiet_op; go_big_quiet_on)
        | (go_big_quiet_want
           go_big_quiet_op
           apply Exists.intro
           refine ⟨fun p => ?_, ?_⟩
           · (first | (go_at_call 28; with_reducible exact Calls.regrown_of (T2.out _ (hDg p.d p.os))) | (go_at_call 23; with_reducible exact Calls.regrown_of (NG.out _ (hDg p.d p.os))))
           go_big_quiet_on)
    refine wpQuiet_nil ?_
    rintro w8 ⟨p, rfl⟩
    have hb := below_regrown W p.d p.os
    generalize grow (redrawn W p.d) p.os = w8 at *
    replace B := B.trans (hb.mono B.size)
    replace hD := hD.keep hb; replace hO := hO.keep hb; replace hK := hK.keep hb; replace hE := hE.keep hb; replace hS := hS.keep hb; replace hP := hP.keep hb; replace hT := hT.keep hb
    clear hb W ghS ghE ghT hDg hOg
    go_wp2
    simp [bodyPost, results, Tryd.results7, go_sem]
    exact ⟨HO.out, B⟩
end Go.Proofs.YtbcjikoajjhfaaaDoor
