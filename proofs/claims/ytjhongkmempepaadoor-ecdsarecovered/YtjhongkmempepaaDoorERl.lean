import Derived.Test.YtjhongkmempepaaDoorEText
namespace Go.Proofs.YtjhongkmempepaaDoor
open Go.RowKit Go.Sort

set_option maxRecDepth 100000 in
set_option maxHeartbeats 16000000 in
theorem erl_bad {r s X Y e0 : Int} {o j : Bool} {A : List Int} (hl : A.length = 32) (RC : Hid (∀ w, Mds w → Cols w → Calls Tryd.prog 5 #[.agg ((A.map fun z => Value.int .u8 z).toArray), .agg #[.int .u64 (l0 r), .int .u64 (l1 r), .int .u64 (l2 r), .int .u64 (l3 r), .int .u64 (l0 s), .int .u64 (l1 s), .int .u64 (l2 s), .int .u64 (l3 s), .bool o]] w fun e w' => e = .returned (.tuple #[.agg #[.int .u64 (l0 X), .int .u64 (l1 X), .int .u64 (l2 X), .int .u64 (l3 X), .int .u64 (l0 Y), .int .u64 (l1 Y), .int .u64 (l2 Y), .int .u64 (l3 Y), .bool j], .int .i64 e0]) ∧ Below w.heap.size w w')) (CK : Hid (∀ w, Mds w → Calls Tryd.prog 6 #[.agg #[.int .u64 (l0 r), .int .u64 (l1 r), .int .u64 (l2 r), .int .u64 (l3 r), .int .u64 (l0 s), .int .u64 (l1 s), .int .u64 (l2 s), .int .u64 (l3 s), .bool o]] w fun e w' => e = .returned (.int .i64 e0) ∧ Below w.heap.size w w')) (he : e0 ≠ 0) (E1 : ∀ w, (Op.equalIn 10000 30 (.agg #[.int .u64 (l0 X), .int .u64 (l1 X), .int .u64 (l2 X), .int .u64 (l3 X), .int .u64 (l0 Y), .int .u64 (l1 Y), .int .u64 (l2 Y), .int .u64 (l3 Y), .bool j]) (.agg #[.int .u64 0, .int .u64 0, .int .u64 0, .int .u64 0, .int .u64 0, .int .u64 0, .int .u64 0, .int .u64 0, .bool false])).run Tryd.prog w = .ok true w) (w : World) (hm : Mds w) (hc : Cols w) :
    Calls Tryd.prog 3 #[hashV A, .agg #[.int .u64 (l0 r), .int .u64 (l1 r), .int .u64 (l2 r), .int .u64 (l3 r), .int .u64 (l0 s), .int .u64 (l1 s), .int .u64 (l2 s), .int .u64 (l3 s), .bool o]] w fun e w' => e = .returned (.bool true) ∧ Below w.heap.size w w' := by
  unfold hashV at *
  have ra : ((w.alloc (.cells ((A.map fun z => Value.int .u8 z).toArray) 23)).alloc (.cells #[.int .u64 (l0 r), .int .u64 (l1 r), .int .u64 (l2 r), .int .u64 (l3 r), .int .u64 (l0 s), .int .u64 (l1 s), .int .u64 (l2 s), .int .u64 (l3 s), .bool o] 28)).rangeAt w.heap.size 0 (A.map fun z => Value.int .u8 z) := ((HAt.new hl rfl).alloc _).2
  go_enter Tryd.func3, Tryd.ntmps3
  go_wp2_with (refine wpList_load_mid rfl 23 _ rfl w.heap.size 0 rfl (A.map fun z => Value.int .u8 z) _ ra Tryd.underlying23 rfl (by rw [List.length_map, hl]; kernel_rfl) ?_)
  refine calls_world (fun W => Below w.heap.size w W ∧ Mds W ∧ Cols W ∧ HAt W w.heap.size A ∧ Pnt W (w.heap.size + 1) r s o) ⟨by repeat (first | with_reducible exact Below.refl _ _ | with_reducible refine Below.alloc ?_ (by first | omega | (simp; done) | (simp; omega)) _), (hm.alloc _).alloc _, (Cols.alloc hc _).alloc _, (HAt.new hl rfl).alloc _, Pnt.new (by simp)⟩ ?_
  clear ra
  rintro W ⟨B, hD, hO, hY, hS⟩
  have g1 : w.heap.size ≤ w.heap.size + 1 := by omega
  generalize w.heap.size + 1 = bs at *
  with_reducible refine (RC.out _ hD hO).mono ?_
  rintro e w1 ⟨rfl, hb⟩
  replace B := B.trans (hb.mono B.size)
  replace hD := hD.keep hb; replace hO := hO.keep hb; replace hY := hY.keep hb; replace hS := hS.keep hb
  clear hb W
  have ghS := fun o => (hS.alloc o).cells
  go_wp2_with fail
  refine calls_world (fun W => Below w.heap.size w W ∧ Mds W ∧ Cols W ∧ HAt W w.heap.size A ∧ Pnt W bs r s o ∧ Pnt W w1.heap.size X Y j) ⟨B.alloc B.size _, hD.alloc _, hO.alloc _, hY.alloc _, hS.alloc _, Pnt.new rfl⟩ ?_
  clear B hD hO hY hS ghS
  rintro W ⟨B, hD, hO, hY, hS, hQ⟩
  generalize w1.heap.size = bq at *
  with_reducible refine (CK.out _ hD).mono ?_
  rintro e w9 ⟨rfl, hb⟩
  replace B := B.trans (hb.mono B.size)
  replace hD := hD.keep hb; replace hO := hO.keep hb; replace hY := hY.keep hb; replace hS := hS.keep hb; replace hQ := hQ.keep hb
  clear hb W
  have gQ := hQ.cells
  go_wp2
  simp [bodyPost, results, Tryd.results3, go_sem]
  exact B

set_option maxRecDepth 100000 in
set_option maxHeartbeats 16000000 in
theorem erl_far {r s X Y lx ly e1 : Int} {o j li : Bool} {A : List Int} (hl : A.length = 32) (RC : Hid (∀ w, Mds w → Cols w → Calls Tryd.prog 5 #[.agg ((A.map fun z => Value.int .u8 z).toArray), .agg #[.int .u64 (l0 r), .int .u64 (l1 r), .int .u64 (l2 r), .int .u64 (l3 r), .int .u64 (l0 s), .int .u64 (l1 s), .int .u64 (l2 s), .int .u64 (l3 s), .bool o]] w fun e w' => e = .returned (.tuple #[.agg #[.int .u64 (l0 X), .int .u64 (l1 X), .int .u64 (l2 X), .int .u64 (l3 X), .int .u64 (l0 Y), .int .u64 (l1 Y), .int .u64 (l2 Y), .int .u64 (l3 Y), .bool j], .int .i64 64]) ∧ Below w.heap.size w w')) (CK : Hid (∀ w, Mds w → Calls Tryd.prog 6 #[.agg #[.int .u64 (l0 r), .int .u64 (l1 r), .int .u64 (l2 r), .int .u64 (l3 r), .int .u64 (l0 s), .int .u64 (l1 s), .int .u64 (l2 s), .int .u64 (l3 s), .bool o]] w fun e w' => e = .returned (.int .i64 0) ∧ Below w.heap.size w w')) (LF : Hid (∀ w, Mds w → Calls Tryd.prog 7 #[.agg #[.int .u64 (l0 r), .int .u64 (l1 r), .int .u64 (l2 r), .int .u64 (l3 r)], .bool o] w fun e w' => e = .returned (.tuple #[.agg #[.int .u64 (l0 lx), .int .u64 (l1 lx), .int .u64 (l2 lx), .int .u64 (l3 lx), .int .u64 (l0 ly), .int .u64 (l1 ly), .int .u64 (l2 ly), .int .u64 (l3 ly), .bool li], .int .i64 e1]) ∧ Below w.heap.size w w')) (he : e1 ≠ 0) (E1 : ∀ w, (Op.equalIn 10000 30 (.agg #[.int .u64 (l0 X), .int .u64 (l1 X), .int .u64 (l2 X), .int .u64 (l3 X), .int .u64 (l0 Y), .int .u64 (l1 Y), .int .u64 (l2 Y), .int .u64 (l3 Y), .bool j]) (.agg #[.int .u64 0, .int .u64 0, .int .u64 0, .int .u64 0, .int .u64 0, .int .u64 0, .int .u64 0, .int .u64 0, .bool false])).run Tryd.prog w = .ok true w) (w : World) (hm : Mds w) (hc : Cols w) :
    Calls Tryd.prog 3 #[hashV A, .agg #[.int .u64 (l0 r), .int .u64 (l1 r), .int .u64 (l2 r), .int .u64 (l3 r), .int .u64 (l0 s), .int .u64 (l1 s), .int .u64 (l2 s), .int .u64 (l3 s), .bool o]] w fun e w' => e = .returned (.bool true) ∧ Below w.heap.size w w' := by
  unfold hashV at *
  have ra : ((w.alloc (.cells ((A.map fun z => Value.int .u8 z).toArray) 23)).alloc (.cells #[.int .u64 (l0 r), .int .u64 (l1 r), .int .u64 (l2 r), .int .u64 (l3 r), .int .u64 (l0 s), .int .u64 (l1 s), .int .u64 (l2 s), .int .u64 (l3 s), .bool o] 28)).rangeAt w.heap.size 0 (A.map fun z => Value.int .u8 z) := ((HAt.new hl rfl).alloc _).2
  go_enter Tryd.func3, Tryd.ntmps3
  go_wp2_with (refine wpList_load_mid rfl 23 _ rfl w.heap.size 0 rfl (A.map fun z => Value.int .u8 z) _ ra Tryd.underlying23 rfl (by rw [List.length_map, hl]; kernel_rfl) ?_)
  refine calls_world (fun W => Below w.heap.size w W ∧ Mds W ∧ Cols W ∧ HAt W w.heap.size A ∧ Pnt W (w.heap.size + 1) r s o) ⟨by repeat (first | with_reducible exact Below.refl _ _ | with_reducible refine Below.alloc ?_ (by first | omega | (simp; done) | (simp; omega)) _), (hm.alloc _).alloc _, (Cols.alloc hc _).alloc _, (HAt.new hl rfl).alloc _, Pnt.new (by simp)⟩ ?_
  clear ra
  rintro W ⟨B, hD, hO, hY, hS⟩
  have g1 : w.heap.size ≤ w.heap.size + 1 := by omega
  generalize w.heap.size + 1 = bs at *
  with_reducible refine (RC.out _ hD hO).mono ?_
  rintro e w1 ⟨rfl, hb⟩
  replace B := B.trans (hb.mono B.size)
  replace hD := hD.keep hb; replace hO := hO.keep hb; replace hY := hY.keep hb; replace hS := hS.keep hb
  clear hb W
  have ghS := fun o => (hS.alloc o).cells
  go_wp2_with fail
  refine calls_world (fun W => Below w.heap.size w W ∧ Mds W ∧ Cols W ∧ HAt W w.heap.size A ∧ Pnt W bs r s o ∧ Pnt W w1.heap.size X Y j) ⟨B.alloc B.size _, hD.alloc _, hO.alloc _, hY.alloc _, hS.alloc _, Pnt.new rfl⟩ ?_
  clear B hD hO hY hS ghS
  rintro W ⟨B, hD, hO, hY, hS, hQ⟩
  generalize w1.heap.size = bq at *
  with_reducible refine (CK.out _ hD).mono ?_
  rintro e w2 ⟨rfl, hb⟩
  replace B := B.trans (hb.mono B.size)
  replace hD := hD.keep hb; replace hO := hO.keep hb; replace hY := hY.keep hb; replace hS := hS.keep hb; replace hQ := hQ.keep hb
  clear hb W
  have ghS := hS.cells
  go_wp2_with fail
  refine calls_world (fun W => Below w.heap.size w W ∧ Mds W ∧ Cols W ∧ HAt W w.heap.size A ∧ Pnt W bs r s o ∧ Pnt W bq X Y j) ⟨B, hD, hO, hY, hS, hQ⟩ ?_
  clear B hD hO hY hS hQ ghS
  rintro W ⟨B, hD, hO, hY, hS, hQ⟩
  with_reducible refine (LF.out _ hD).mono ?_
  rintro e w9 ⟨rfl, hb⟩
  replace B := B.trans (hb.mono B.size)
  replace hD := hD.keep hb; replace hO := hO.keep hb; replace hY := hY.keep hb; replace hS := hS.keep hb; replace hQ := hQ.keep hb
  clear hb W
  have gQ := fun o => (hQ.alloc o).cells
  have gQ0 := hQ.cells
  have BB : Hid (∀ o, Below w.heap.size w (w9.alloc o)) := fun o => B.alloc B.size o
  clear B
  go_wp2
  simp [bodyPost, results, Tryd.results3, go_sem]
  exact BB.out _

set_option maxRecDepth 100000 in
set_option maxHeartbeats 16000000 in
theorem erl_none {r s X Y lx ly tx ty vx vy dg eh : Int} {o j li tj vj : Bool} {A : List Int} (hl : A.length = 32) (RC : Hid (∀ w, Mds w → Cols w → Calls Tryd.prog 5 #[.agg ((A.map fun z => Value.int .u8 z).toArray), .agg #[.int .u64 (l0 r), .int .u64 (l1 r), .int .u64 (l2 r), .int .u64 (l3 r), .int .u64 (l0 s), .int .u64 (l1 s), .int .u64 (l2 s), .int .u64 (l3 s), .bool o]] w fun e w' => e = .returned (.tuple #[.agg #[.int .u64 (l0 X), .int .u64 (l1 X), .int .u64 (l2 X), .int .u64 (l3 X), .int .u64 (l0 Y), .int .u64 (l1 Y), .int .u64 (l2 Y), .int .u64 (l3 Y), .bool j], .int .i64 65]) ∧ Below w.heap.size w w')) (CK : Hid (∀ w, Mds w → Calls Tryd.prog 6 #[.agg #[.int .u64 (l0 r), .int .u64 (l1 r), .int .u64 (l2 r), .int .u64 (l3 r), .int .u64 (l0 s), .int .u64 (l1 s), .int .u64 (l2 s), .int .u64 (l3 s), .bool o]] w fun e w' => e = .returned (.int .i64 0) ∧ Below w.heap.size w w')) (LF : Hid (∀ w, Mds w → Calls Tryd.prog 7 #[.agg #[.int .u64 (l0 r), .int .u64 (l1 r), .int .u64 (l2 r), .int .u64 (l3 r)], .bool o] w fun e w' => e = .returned (.tuple #[.agg #[.int .u64 (l0 lx), .int .u64 (l1 lx), .int .u64 (l2 lx), .int .u64 (l3 lx), .int .u64 (l0 ly), .int .u64 (l1 ly), .int .u64 (l2 ly), .int .u64 (l3 ly), .bool li], .int .i64 0]) ∧ Below w.heap.size w w')) (MU : Hid (∀ w, Mds w → Cols w → Calls Tryd.prog 8 #[.agg #[.int .u64 (l0 s), .int .u64 (l1 s), .int .u64 (l2 s), .int .u64 (l3 s)], .agg #[.int .u64 (l0 lx), .int .u64 (l1 lx), .int .u64 (l2 lx), .int .u64 (l3 lx), .int .u64 (l0 ly), .int .u64 (l1 ly), .int .u64 (l2 ly), .int .u64 (l3 ly), .bool li]] w fun e w' => e = .returned (.tuple #[.agg #[.int .u64 (l0 tx), .int .u64 (l1 tx), .int .u64 (l2 tx), .int .u64 (l3 tx), .int .u64 (l0 ty), .int .u64 (l1 ty), .int .u64 (l2 ty), .int .u64 (l3 ty), .bool tj], .int .i64 0]) ∧ Below w.heap.size w w')) (NU : Hid (∀ w, Mds w → Calls Tryd.prog 10 #[.agg ((A.map fun z => Value.int .u8 z).toArray)] w fun e w' => e = .returned (.agg #[.int .u64 (l0 dg), .int .u64 (l1 dg), .int .u64 (l2 dg), .int .u64 (l3 dg)]) ∧ Below w.heap.size w w')) (MA : Hid (∀ w, Mds w → Cols w → Calls Tryd.prog 9 #[.agg #[.int .u64 (l0 dg), .int .u64 (l1 dg), .int .u64 (l2 dg), .int .u64 (l3 dg)], .agg #[.int .u64 (l0 r), .int .u64 (l1 r), .int .u64 (l2 r), .int .u64 (l3 r)], .agg #[.int .u64 (l0 X), .int .u64 (l1 X), .int .u64 (l2 X), .int .u64 (l3 X), .int .u64 (l0 Y), .int .u64 (l1 Y), .int .u64 (l2 Y), .int .u64 (l3 Y), .bool j]] w fun e w' => e = .returned (.tuple #[.agg #[.int .u64 (l0 vx), .int .u64 (l1 vx), .int .u64 (l2 vx), .int .u64 (l3 vx), .int .u64 (l0 vy), .int .u64 (l1 vy), .int .u64 (l2 vy), .int .u64 (l3 vy), .bool vj], .int .i64 eh]) ∧ Below w.heap.size w w')) (MG : Hid (∀ w, Mds w → Cols w → Calls Tryd.prog 11 #[.agg #[.int .u64 (l0 dg), .int .u64 (l1 dg), .int .u64 (l2 dg), .int .u64 (l3 dg)]] w fun e w' => e = .returned (.agg #[.int .u64 (l0 tx), .int .u64 (l1 tx), .int .u64 (l2 tx), .int .u64 (l3 tx), .int .u64 (l0 ty), .int .u64 (l1 ty), .int .u64 (l2 ty), .int .u64 (l3 ty), .bool tj]) ∧ Below w.heap.size w w')) (E1 : ∀ w, (Op.equalIn 10000 30 (.agg #[.int .u64 (l0 tx), .int .u64 (l1 tx), .int .u64 (l2 tx), .int .u64 (l3 tx), .int .u64 (l0 ty), .int .u64 (l1 ty), .int .u64 (l2 ty), .int .u64 (l3 ty), .bool tj]) (.agg #[.int .u64 (l0 tx), .int .u64 (l1 tx), .int .u64 (l2 tx), .int .u64 (l3 tx), .int .u64 (l0 ty), .int .u64 (l1 ty), .int .u64 (l2 ty), .int .u64 (l3 ty), .bool tj])).run Tryd.prog w = .ok true w) (E2 : ∀ w, (Op.equalIn 10000 30 (.agg #[.int .u64 (l0 X), .int .u64 (l1 X), .int .u64 (l2 X), .int .u64 (l3 X), .int .u64 (l0 Y), .int .u64 (l1 Y), .int .u64 (l2 Y), .int .u64 (l3 Y), .bool j]) (.agg #[.int .u64 0, .int .u64 0, .int .u64 0, .int .u64 0, .int .u64 0, .int .u64 0, .int .u64 0, .int .u64 0, .bool false])).run Tryd.prog w = .ok true w) (w : World) (hm : Mds w) (hc : Cols w) :
    Calls Tryd.prog 3 #[hashV A, .agg #[.int .u64 (l0 r), .int .u64 (l1 r), .int .u64 (l2 r), .int .u64 (l3 r), .int .u64 (l0 s), .int .u64 (l1 s), .int .u64 (l2 s), .int .u64 (l3 s), .bool o]] w fun e w' => e = .returned (.bool true) ∧ Below w.heap.size w w' := by
  unfold hashV at *
  have ra : ((w.alloc (.cells ((A.map fun z => Value.int .u8 z).toArray) 23)).alloc (.cells #[.int .u64 (l0 r), .int .u64 (l1 r), .int .u64 (l2 r), .int .u64 (l3 r), .int .u64 (l0 s), .int .u64 (l1 s), .int .u64 (l2 s), .int .u64 (l3 s), .bool o] 28)).rangeAt w.heap.size 0 (A.map fun z => Value.int .u8 z) := ((HAt.new hl rfl).alloc _).2
  go_enter Tryd.func3, Tryd.ntmps3
  go_wp2_with (refine wpList_load_mid rfl 23 _ rfl w.heap.size 0 rfl (A.map fun z => Value.int .u8 z) _ ra Tryd.underlying23 rfl (by rw [List.length_map, hl]; kernel_rfl) ?_)
  refine calls_world (fun W => Below w.heap.size w W ∧ Mds W ∧ Cols W ∧ HAt W w.heap.size A ∧ Pnt W (w.heap.size + 1) r s o) ⟨by repeat (first | with_reducible exact Below.refl _ _ | with_reducible refine Below.alloc ?_ (by first | omega | (simp; done) | (simp; omega)) _), (hm.alloc _).alloc _, (Cols.alloc hc _).alloc _, (HAt.new hl rfl).alloc _, Pnt.new (by simp)⟩ ?_
  clear ra
  rintro W ⟨B, hD, hO, hY, hS⟩
  have g1 : w.heap.size ≤ w.heap.size + 1 := by omega
  generalize w.heap.size + 1 = bs at *
  with_reducible refine (RC.out _ hD hO).mono ?_
  rintro e w1 ⟨rfl, hb⟩
  replace B := B.trans (hb.mono B.size)
  replace hD := hD.keep hb; replace hO := hO.keep hb; replace hY := hY.keep hb; replace hS := hS.keep hb
  clear hb W
  have ghS := fun o => (hS.alloc o).cells
  go_wp2_with fail
  refine calls_world (fun W => Below w.heap.size w W ∧ Mds W ∧ Cols W ∧ HAt W w.heap.size A ∧ Pnt W bs r s o ∧ Pnt W w1.heap.size X Y j) ⟨B.alloc B.size _, hD.alloc _, hO.alloc _, hY.alloc _, hS.alloc _, Pnt.new rfl⟩ ?_
  clear B hD hO hY hS ghS
  rintro W ⟨B, hD, hO, hY, hS, hQ⟩
  generalize w1.heap.size = bq at *
  with_reducible refine (CK.out _ hD).mono ?_
  rintro e w2 ⟨rfl, hb⟩
  replace B := B.trans (hb.mono B.size)
  replace hD := hD.keep hb; replace hO := hO.keep hb; replace hY := hY.keep hb; replace hS := hS.keep hb; replace hQ := hQ.keep hb
  clear hb W
  have ghS := hS.cells
  go_wp2_with fail
  refine calls_world (fun W => Below w.heap.size w W ∧ Mds W ∧ Cols W ∧ HAt W w.heap.size A ∧ Pnt W bs r s o ∧ Pnt W bq X Y j) ⟨B, hD, hO, hY, hS, hQ⟩ ?_
  clear B hD hO hY hS hQ ghS
  rintro W ⟨B, hD, hO, hY, hS, hQ⟩
  with_reducible refine (LF.out _ hD).mono ?_
  rintro e w3 ⟨rfl, hb⟩
  replace B := B.trans (hb.mono B.size)
  replace hD := hD.keep hb; replace hO := hO.keep hb; replace hY := hY.keep hb; replace hS := hS.keep hb; replace hQ := hQ.keep hb
  clear hb W
  have ghS := fun o => (hS.alloc o).cells
  go_wp2_with fail
  refine calls_world (fun W => Below w.heap.size w W ∧ Mds W ∧ Cols W ∧ HAt W w.heap.size A ∧ Pnt W bs r s o ∧ Pnt W bq X Y j ∧ Pnt W w3.heap.size lx ly li) ⟨B.alloc B.size _, hD.alloc _, hO.alloc _, hY.alloc _, hS.alloc _, hQ.alloc _, Pnt.new rfl⟩ ?_
  clear B hD hO hY hS hQ ghS
  rintro W ⟨B, hD, hO, hY, hS, hQ, hR⟩
  generalize w3.heap.size = br at *
  with_reducible refine (MU.out _ hD hO).mono ?_
  rintro e w4 ⟨rfl, hb⟩
  replace B := B.trans (hb.mono B.size)
  replace hD := hD.keep hb; replace hO := hO.keep hb; replace hY := hY.keep hb; replace hS := hS.keep hb; replace hQ := hQ.keep hb; replace hR := hR.keep hb
  clear hb W
  go_wp2_with fail
  refine wp_world (fun W => Below w.heap.size w W ∧ Mds W ∧ Cols W ∧ HAt W w.heap.size A ∧ Pnt W bs r s o ∧ Pnt W bq X Y j ∧ Pnt W br lx ly li ∧ Pnt W w4.heap.size tx ty tj) ⟨B.alloc B.size _, hD.alloc _, hO.alloc _, hY.alloc _, hS.alloc _, hQ.alloc _, hR.alloc _, Pnt.new rfl⟩ ?_
  clear B hD hO hY hS hQ hR 
  rintro W ⟨B, hD, hO, hY, hS, hQ, hR, hT⟩
  generalize w4.heap.size = bt at *
  refine put_tail (A := ?AA1) 9 (fun V kk => put9 V kk vx vy vj) (by kernel_rfl) (by kernel_rfl) rfl rfl rfl (alloc_pt _ _ _) (fun V V0 h0 h1 => below_put9 (alloc_below h0 h1) h0.size) (fun V hV => ?HH1) (fun V V0 h0 h1 => ?EE1) (fun V0 V w1 h0 h1 h2 => ?TT1)
  case HH1 =>
    have hDg : ∀ d os, Mds (grow (redrawn V d) os) := fun d os => (hD.keep hV).keep (below_regrown V d os)
    have hOg : ∀ d os, Cols (grow (redrawn V d) os) := fun d os => (hO.keep hV).keep (below_regrown V d os)
    have ghS := (hS.keep hV).grown
    have ghQ := (hQ.keep hV).grown
    have ldY : ∀ w', (∃ p : Regrown, w' = grow (redrawn V p.d) p.os) → w'.rangeAt w.heap.size 0 (A.map fun z => Value.int .u8 z) := by rintro w' ⟨p, rfl⟩; exact ((hY.keep hV).keep (below_regrown V p.d p.os)).2
    unfold Gr
    simp only [List.take_succ_cons, List.take_zero]
    repeat
      first
        | go_big_quiet_skip
        | (go_big_quiet_want; go_big_quiet_op; go_big_quiet_on)
        | (go_big_quiet_want; refine quiet_load_mid 23 _ rfl w.heap.size 0 rfl (A.map fun z => Value.int .u8 z) _ ldY Tryd.underlying23 rfl (by rw [List.length_map, hl]; kernel_rfl) ?_; simp only [Act.put, List.setIfInBounds_toArray, List.set_cons_succ, List.set_cons_zero]; go_big_quiet_on)
        | (go_big_quiet_want
           go_big_quiet_op
           apply Exists.intro
           refine ⟨fun p => ?_, ?_⟩
           · (first | (go_at_call 10; with_reducible exact Calls.regrown_of (NU.out _ (hDg p.d p.os))) | (go_at_call 9; with_reducible exact Calls.regrown_of (MA.out _ (hDg p.d p.os) (hOg p.d p.os))))
           go_big_quiet_on)
    refine wpQuiet_nil ?_
    exact rfl
  case EE1 =>
    obtain ⟨c0, c1, c2, c3, c4, c5, c6, c7, c8⟩ := ((Bk9.new rfl).keep h1).cells
    obtain ⟨f0, f1, f2, f3, f4, f5, f6, f7, f8⟩ := ((Bk9.new rfl).keep h1).free
    unfold put9
    simp [execOp, Act.put, Act.eval, go_sem, c0, c1, c2, c3, c4, c5, c6, c7, c8, f0, f1, f2, f3, f4, f5, f6, f7, f8]
  case TT1 =>
    have hN := (((Bk9.new rfl).keep h1).put9 vx vy vj).keep h2
    have hb := alloc_below h0 h1
    have nhD : V0.heap.size ≠ 0 := Nat.ne_of_gt (Nat.lt_of_lt_of_le hD.lt h0.size)
    have nhO : V0.heap.size ≠ 1 := Nat.ne_of_gt (Nat.lt_of_lt_of_le hO.lt h0.size)
    have nhY : V0.heap.size ≠ w.heap.size := Nat.ne_of_gt (Nat.lt_of_lt_of_le hY.lt h0.size)
    have nhS : V0.heap.size ≠ bs := Nat.ne_of_gt (Nat.lt_of_lt_of_le hS.lt h0.size)
    have nhQ : V0.heap.size ≠ bq := Nat.ne_of_gt (Nat.lt_of_lt_of_le hQ.lt h0.size)
    have nhR : V0.heap.size ≠ br := Nat.ne_of_gt (Nat.lt_of_lt_of_le hR.lt h0.size)
    have nhT : V0.heap.size ≠ bt := Nat.ne_of_gt (Nat.lt_of_lt_of_le hT.lt h0.size)
    have gn : w.heap.size ≤ V0.heap.size := Nat.le_trans B.size h0.size
    have B1 := below_put9 (x' := vx) (y' := vy) (j := vj) (B.trans (hb.mono B.size)) gn
    replace B := B1.trans (h2.mono B1.size)
    replace hD := ((hD.keep hb).put9 nhD).keep h2
    replace hO := ((hO.keep hb).put9 nhO).keep h2
    replace hY := ((hY.keep hb).put9 nhY).keep h2
    replace hS := ((hS.keep hb).put9 nhS).keep h2
    replace hQ := ((hQ.keep hb).put9 nhQ).keep h2
    replace hR := ((hR.keep hb).put9 nhR).keep h2
    replace hT := ((hT.keep hb).put9 nhT).keep h2
    clear hb h0 h1 h2 B1 W gn nhD nhO nhY nhS nhQ nhR nhT
    generalize V0.heap.size = bv at *
    clear V V0
    have ghQ := hQ.cells
    have ghT := hT.cells
    simp only [List.drop_succ_cons, List.drop_zero, Act.put, List.setIfInBounds_toArray, List.set_cons_zero, List.set_cons_succ]
    go_wp2_with fail
    refine wp_world (fun W => Below w.heap.size w W ∧ Mds W ∧ Cols W ∧ HAt W w.heap.size A ∧ Pnt W bs r s o ∧ Pnt W bq X Y j ∧ Pnt W br lx ly li ∧ Pnt W bt tx ty tj ∧ Pnt W bv vx vy vj) ⟨B, hD, hO, hY, hS, hQ, hR, hT, hN⟩ ?_
    clear B hN hD hO hY hS hQ hR hT ghQ ghT
    rintro W ⟨B, hD, hO, hY, hS, hQ, hR, hT, hV⟩
    clear w1
    have ghT := hT.grown
    have ghQ := hQ.grown
    have hDg : ∀ d os, Mds (grow (redrawn W d) os) := fun d os => hD.keep (below_regrown W d os)
    have hOg : ∀ d os, Cols (grow (redrawn W d) os) := fun d os => hO.keep (below_regrown W d os)
    have ldY : ∀ w', (∃ p : Regrown, w' = grow (redrawn W p.d) p.os) → w'.rangeAt w.heap.size 0 (A.map fun z => Value.int .u8 z) := by rintro w' ⟨p, rfl⟩; exact (hY.keep (below_regrown W p.d p.os)).2
    refine wp_region_quiet_below (by kernel_rfl) (by kernel_rfl) ?_
    repeat
      first
        | go_big_quiet_skip
        | (go_big_quiet_want; go_big_quiet_op; go_big_quiet_on)
        | (go_big_quiet_want; refine quiet_load_mid 23 _ rfl w.heap.size 0 rfl (A.map fun z => Value.int .u8 z) _ ldY Tryd.underlying23 rfl (by rw [List.length_map, hl]; kernel_rfl) ?_; simp only [Act.put, List.setIfInBounds_toArray, List.set_cons_succ, List.set_cons_zero]; go_big_quiet_on)
        | (go_big_quiet_want
           go_big_quiet_op
           apply Exists.intro
           refine ⟨fun p => ?_, ?_⟩
           · (first | (go_at_call 10; with_reducible exact Calls.regrown_of (NU.out _ (hDg p.d p.os))) | (go_at_call 11; with_reducible exact Calls.regrown_of (MG.out _ (hDg p.d p.os) (hOg p.d p.os))))
           go_big_quiet_on)
    refine wpQuiet_nil ?_
    rintro w5 ⟨p, rfl⟩
    have hb := below_regrown W p.d p.os
    generalize grow (redrawn W p.d) p.os = w5 at *
    replace B := B.trans (hb.mono B.size)
    replace hD := hD.keep hb; replace hO := hO.keep hb; replace hY := hY.keep hb; replace hS := hS.keep hb; replace hQ := hQ.keep hb; replace hR := hR.keep hb; replace hT := hT.keep hb; replace hV := hV.keep hb
    clear ldY
    clear hb W ghT ghQ hDg hOg
    go_wp2
    simp [bodyPost, results, Tryd.results3, go_sem]
    exact B

set_option maxRecDepth 100000 in
set_option maxHeartbeats 16000000 in
theorem erl_ok65 {r s X Y lx ly tx ty dg X2 Y2 : Int} {o li tj j2 : Bool} {A : List Int} (hl : A.length = 32) (RC : Hid (∀ w, Mds w → Cols w → Calls Tryd.prog 5 #[.agg ((A.map fun z => Value.int .u8 z).toArray), .agg #[.int .u64 (l0 r), .int .u64 (l1 r), .int .u64 (l2 r), .int .u64 (l3 r), .int .u64 (l0 s), .int .u64 (l1 s), .int .u64 (l2 s), .int .u64 (l3 s), .bool o]] w fun e w' => e = .returned (.tuple #[.agg #[.int .u64 (l0 X), .int .u64 (l1 X), .int .u64 (l2 X), .int .u64 (l3 X), .int .u64 (l0 Y), .int .u64 (l1 Y), .int .u64 (l2 Y), .int .u64 (l3 Y), .bool false], .int .i64 0]) ∧ Below w.heap.size w w')) (CK : Hid (∀ w, Mds w → Calls Tryd.prog 6 #[.agg #[.int .u64 (l0 r), .int .u64 (l1 r), .int .u64 (l2 r), .int .u64 (l3 r), .int .u64 (l0 s), .int .u64 (l1 s), .int .u64 (l2 s), .int .u64 (l3 s), .bool o]] w fun e w' => e = .returned (.int .i64 0) ∧ Below w.heap.size w w')) (LF : Hid (∀ w, Mds w → Calls Tryd.prog 7 #[.agg #[.int .u64 (l0 r), .int .u64 (l1 r), .int .u64 (l2 r), .int .u64 (l3 r)], .bool o] w fun e w' => e = .returned (.tuple #[.agg #[.int .u64 (l0 lx), .int .u64 (l1 lx), .int .u64 (l2 lx), .int .u64 (l3 lx), .int .u64 (l0 ly), .int .u64 (l1 ly), .int .u64 (l2 ly), .int .u64 (l3 ly), .bool li], .int .i64 0]) ∧ Below w.heap.size w w')) (MU : Hid (∀ w, Mds w → Cols w → Calls Tryd.prog 8 #[.agg #[.int .u64 (l0 s), .int .u64 (l1 s), .int .u64 (l2 s), .int .u64 (l3 s)], .agg #[.int .u64 (l0 lx), .int .u64 (l1 lx), .int .u64 (l2 lx), .int .u64 (l3 lx), .int .u64 (l0 ly), .int .u64 (l1 ly), .int .u64 (l2 ly), .int .u64 (l3 ly), .bool li]] w fun e w' => e = .returned (.tuple #[.agg #[.int .u64 (l0 tx), .int .u64 (l1 tx), .int .u64 (l2 tx), .int .u64 (l3 tx), .int .u64 (l0 ty), .int .u64 (l1 ty), .int .u64 (l2 ty), .int .u64 (l3 ty), .bool tj], .int .i64 0]) ∧ Below w.heap.size w w')) (NU : Hid (∀ w, Mds w → Calls Tryd.prog 10 #[.agg ((A.map fun z => Value.int .u8 z).toArray)] w fun e w' => e = .returned (.agg #[.int .u64 (l0 dg), .int .u64 (l1 dg), .int .u64 (l2 dg), .int .u64 (l3 dg)]) ∧ Below w.heap.size w w')) (MA : Hid (∀ w, Mds w → Cols w → Calls Tryd.prog 9 #[.agg #[.int .u64 (l0 dg), .int .u64 (l1 dg), .int .u64 (l2 dg), .int .u64 (l3 dg)], .agg #[.int .u64 (l0 r), .int .u64 (l1 r), .int .u64 (l2 r), .int .u64 (l3 r)], .agg #[.int .u64 (l0 X), .int .u64 (l1 X), .int .u64 (l2 X), .int .u64 (l3 X), .int .u64 (l0 Y), .int .u64 (l1 Y), .int .u64 (l2 Y), .int .u64 (l3 Y), .bool false]] w fun e w' => e = .returned (.tuple #[.agg #[.int .u64 (l0 tx), .int .u64 (l1 tx), .int .u64 (l2 tx), .int .u64 (l3 tx), .int .u64 (l0 ty), .int .u64 (l1 ty), .int .u64 (l2 ty), .int .u64 (l3 ty), .bool tj], .int .i64 0]) ∧ Below w.heap.size w w')) (EL : ∀ w, (Op.equalIn 10000 30 (.agg #[.int .u64 (l0 tx), .int .u64 (l1 tx), .int .u64 (l2 tx), .int .u64 (l3 tx), .int .u64 (l0 ty), .int .u64 (l1 ty), .int .u64 (l2 ty), .int .u64 (l3 ty), .bool tj]) (.agg #[.int .u64 (l0 tx), .int .u64 (l1 tx), .int .u64 (l2 tx), .int .u64 (l3 tx), .int .u64 (l0 ty), .int .u64 (l1 ty), .int .u64 (l2 ty), .int .u64 (l3 ty), .bool tj])).run Tryd.prog w = .ok true w) (VE : Hid (∀ w, Mds w → Cols w → Calls Tryd.prog 12 #[.agg #[.int .u64 (l0 X), .int .u64 (l1 X), .int .u64 (l2 X), .int .u64 (l3 X), .int .u64 (l0 Y), .int .u64 (l1 Y), .int .u64 (l2 Y), .int .u64 (l3 Y), .bool false], .agg ((A.map fun z => Value.int .u8 z).toArray), .agg #[.int .u64 (l0 r), .int .u64 (l1 r), .int .u64 (l2 r), .int .u64 (l3 r), .int .u64 (l0 s), .int .u64 (l1 s), .int .u64 (l2 s), .int .u64 (l3 s), .bool o]] w fun e w' => e = .returned (.tuple #[.bool true, .int .i64 0]) ∧ Below w.heap.size w w')) (RT : Hid (∀ w, Mds w → Cols w → Calls Tryd.prog 5 #[.agg ((A.map fun z => Value.int .u8 z).toArray), .agg #[.int .u64 (l0 r), .int .u64 (l1 r), .int .u64 (l2 r), .int .u64 (l3 r), .int .u64 (l0 s), .int .u64 (l1 s), .int .u64 (l2 s), .int .u64 (l3 s), .bool (!o)]] w fun e w' => e = .returned (.tuple #[.agg #[.int .u64 (l0 X2), .int .u64 (l1 X2), .int .u64 (l2 X2), .int .u64 (l3 X2), .int .u64 (l0 Y2), .int .u64 (l1 Y2), .int .u64 (l2 Y2), .int .u64 (l3 Y2), .bool j2], .int .i64 65]) ∧ Below w.heap.size w w')) (w : World) (hm : Mds w) (hc : Cols w) :
    Calls Tryd.prog 3 #[hashV A, .agg #[.int .u64 (l0 r), .int .u64 (l1 r), .int .u64 (l2 r), .int .u64 (l3 r), .int .u64 (l0 s), .int .u64 (l1 s), .int .u64 (l2 s), .int .u64 (l3 s), .bool o]] w fun e w' => e = .returned (.bool true) ∧ Below w.heap.size w w' := by
  unfold hashV at *
  have ra : ((w.alloc (.cells ((A.map fun z => Value.int .u8 z).toArray) 23)).alloc (.cells #[.int .u64 (l0 r), .int .u64 (l1 r), .int .u64 (l2 r), .int .u64 (l3 r), .int .u64 (l0 s), .int .u64 (l1 s), .int .u64 (l2 s), .int .u64 (l3 s), .bool o] 28)).rangeAt w.heap.size 0 (A.map fun z => Value.int .u8 z) := ((HAt.new hl rfl).alloc _).2
  go_enter Tryd.func3, Tryd.ntmps3
  go_wp2_with (refine wpList_load_mid rfl 23 _ rfl w.heap.size 0 rfl (A.map fun z => Value.int .u8 z) _ ra Tryd.underlying23 rfl (by rw [List.length_map, hl]; kernel_rfl) ?_)
  refine calls_world (fun W => Below w.heap.size w W ∧ Mds W ∧ Cols W ∧ HAt W w.heap.size A ∧ Pnt W (w.heap.size + 1) r s o) ⟨by repeat (first | with_reducible exact Below.refl _ _ | with_reducible refine Below.alloc ?_ (by first | omega | (simp; done) | (simp; omega)) _), (hm.alloc _).alloc _, (Cols.alloc hc _).alloc _, (HAt.new hl rfl).alloc _, Pnt.new (by simp)⟩ ?_
  clear ra
  rintro W ⟨B, hD, hO, hY, hS⟩
  have g1 : w.heap.size ≤ w.heap.size + 1 := by omega
  generalize w.heap.size + 1 = bs at *
  with_reducible refine (RC.out _ hD hO).mono ?_
  rintro e w1 ⟨rfl, hb⟩
  replace B := B.trans (hb.mono B.size)
  replace hD := hD.keep hb; replace hO := hO.keep hb; replace hY := hY.keep hb; replace hS := hS.keep hb
  clear hb W
  have ghS := fun o => (hS.alloc o).cells
  go_wp2_with fail
  refine calls_world (fun W => Below w.heap.size w W ∧ Mds W ∧ Cols W ∧ HAt W w.heap.size A ∧ Pnt W bs r s o ∧ Pnt W w1.heap.size X Y false) ⟨B.alloc B.size _, hD.alloc _, hO.alloc _, hY.alloc _, hS.alloc _, Pnt.new rfl⟩ ?_
  clear B hD hO hY hS ghS
  rintro W ⟨B, hD, hO, hY, hS, hQ⟩
  generalize w1.heap.size = bq at *
  with_reducible refine (CK.out _ hD).mono ?_
  rintro e w2 ⟨rfl, hb⟩
  replace B := B.trans (hb.mono B.size)
  replace hD := hD.keep hb; replace hO := hO.keep hb; replace hY := hY.keep hb; replace hS := hS.keep hb; replace hQ := hQ.keep hb
  clear hb W
  have ghS := hS.cells
  go_wp2_with fail
  refine calls_world (fun W => Below w.heap.size w W ∧ Mds W ∧ Cols W ∧ HAt W w.heap.size A ∧ Pnt W bs r s o ∧ Pnt W bq X Y false) ⟨B, hD, hO, hY, hS, hQ⟩ ?_
  clear B hD hO hY hS hQ ghS
  rintro W ⟨B, hD, hO, hY, hS, hQ⟩
  with_reducible refine (LF.out _ hD).mono ?_
  rintro e w3 ⟨rfl, hb⟩
  replace B := B.trans (hb.mono B.size)
  replace hD := hD.keep hb; replace hO := hO.keep hb; replace hY := hY.keep hb; replace hS := hS.keep hb; replace hQ := hQ.keep hb
  clear hb W
  have ghS := fun o => (hS.alloc o).cells
  go_wp2_with fail
  refine calls_world (fun W => Below w.heap.size w W ∧ Mds W ∧ Cols W ∧ HAt W w.heap.size A ∧ Pnt W bs r s o ∧ Pnt W bq X Y false ∧ Pnt W w3.heap.size lx ly li) ⟨B.alloc B.size _, hD.alloc _, hO.alloc _, hY.alloc _, hS.alloc _, hQ.alloc _, Pnt.new rfl⟩ ?_
  clear B hD hO hY hS hQ ghS
  rintro W ⟨B, hD, hO, hY, hS, hQ, hR⟩
  generalize w3.heap.size = br at *
  with_reducible refine (MU.out _ hD hO).mono ?_
  rintro e w4 ⟨rfl, hb⟩
  replace B := B.trans (hb.mono B.size)
  replace hD := hD.keep hb; replace hO := hO.keep hb; replace hY := hY.keep hb; replace hS := hS.keep hb; replace hQ := hQ.keep hb; replace hR := hR.keep hb
  clear hb W
  go_wp2_with fail
  refine wp_world (fun W => Below w.heap.size w W ∧ Mds W ∧ Cols W ∧ HAt W w.heap.size A ∧ Pnt W bs r s o ∧ Pnt W bq X Y false ∧ Pnt W br lx ly li ∧ Pnt W w4.heap.size tx ty tj) ⟨B.alloc B.size _, hD.alloc _, hO.alloc _, hY.alloc _, hS.alloc _, hQ.alloc _, hR.alloc _, Pnt.new rfl⟩ ?_
  clear B hD hO hY hS hQ hR 
  rintro W ⟨B, hD, hO, hY, hS, hQ, hR, hT⟩
  generalize w4.heap.size = bt at *
  refine put_tail (A := ?AA1) 9 (fun V kk => put9 V kk tx ty tj) (by kernel_rfl) (by kernel_rfl) rfl rfl rfl (alloc_pt _ _ _) (fun V V0 h0 h1 => below_put9 (alloc_below h0 h1) h0.size) (fun V hV => ?HH1) (fun V V0 h0 h1 => ?EE1) (fun V0 V w1 h0 h1 h2 => ?TT1)
  case HH1 =>
    have hDg : ∀ d os, Mds (grow (redrawn V d) os) := fun d os => (hD.keep hV).keep (below_regrown V d os)
    have hOg : ∀ d os, Cols (grow (redrawn V d) os) := fun d os => (hO.keep hV).keep (below_regrown V d os)
    have ghS := (hS.keep hV).grown
    have ghQ := (hQ.keep hV).grown
    have ldY : ∀ w', (∃ p : Regrown, w' = grow (redrawn V p.d) p.os) → w'.rangeAt w.heap.size 0 (A.map fun z => Value.int .u8 z) := by rintro w' ⟨p, rfl⟩; exact ((hY.keep hV).keep (below_regrown V p.d p.os)).2
    unfold Gr
    simp only [List.take_succ_cons, List.take_zero]
    repeat
      first
        | go_big_quiet_skip
        | (go_big_quiet_want; go_big_quiet_op; go_big_quiet_on)
        | (go_big_quiet_want; refine quiet_load_mid 23 _ rfl w.heap.size 0 rfl (A.map fun z => Value.int .u8 z) _ ldY Tryd.underlying23 rfl (by rw [List.length_map, hl]; kernel_rfl) ?_; simp only [Act.put, List.setIfInBounds_toArray, List.set_cons_succ, List.set_cons_zero]; go_big_quiet_on)
        | (go_big_quiet_want
           go_big_quiet_op
           apply Exists.intro
           refine ⟨fun p => ?_, ?_⟩
           · (first | (go_at_call 10; with_reducible exact Calls.regrown_of (NU.out _ (hDg p.d p.os))) | (go_at_call 9; with_reducible exact Calls.regrown_of (MA.out _ (hDg p.d p.os) (hOg p.d p.os))))
           go_big_quiet_on)
    refine wpQuiet_nil ?_
    exact rfl
  case EE1 =>
    obtain ⟨c0, c1, c2, c3, c4, c5, c6, c7, c8⟩ := ((Bk9.new rfl).keep h1).cells
    obtain ⟨f0, f1, f2, f3, f4, f5, f6, f7, f8⟩ := ((Bk9.new rfl).keep h1).free
    unfold put9
    simp [execOp, Act.put, Act.eval, go_sem, c0, c1, c2, c3, c4, c5, c6, c7, c8, f0, f1, f2, f3, f4, f5, f6, f7, f8]
  case TT1 =>
    have hN := (((Bk9.new rfl).keep h1).put9 tx ty tj).keep h2
    have hb := alloc_below h0 h1
    have nhD : V0.heap.size ≠ 0 := Nat.ne_of_gt (Nat.lt_of_lt_of_le hD.lt h0.size)
    have nhO : V0.heap.size ≠ 1 := Nat.ne_of_gt (Nat.lt_of_lt_of_le hO.lt h0.size)
    have nhY : V0.heap.size ≠ w.heap.size := Nat.ne_of_gt (Nat.lt_of_lt_of_le hY.lt h0.size)
    have nhS : V0.heap.size ≠ bs := Nat.ne_of_gt (Nat.lt_of_lt_of_le hS.lt h0.size)
    have nhQ : V0.heap.size ≠ bq := Nat.ne_of_gt (Nat.lt_of_lt_of_le hQ.lt h0.size)
    have nhR : V0.heap.size ≠ br := Nat.ne_of_gt (Nat.lt_of_lt_of_le hR.lt h0.size)
    have nhT : V0.heap.size ≠ bt := Nat.ne_of_gt (Nat.lt_of_lt_of_le hT.lt h0.size)
    have gn : w.heap.size ≤ V0.heap.size := Nat.le_trans B.size h0.size
    have B1 := below_put9 (x' := tx) (y' := ty) (j := tj) (B.trans (hb.mono B.size)) gn
    replace B := B1.trans (h2.mono B1.size)
    replace hD := ((hD.keep hb).put9 nhD).keep h2
    replace hO := ((hO.keep hb).put9 nhO).keep h2
    replace hY := ((hY.keep hb).put9 nhY).keep h2
    replace hS := ((hS.keep hb).put9 nhS).keep h2
    replace hQ := ((hQ.keep hb).put9 nhQ).keep h2
    replace hR := ((hR.keep hb).put9 nhR).keep h2
    replace hT := ((hT.keep hb).put9 nhT).keep h2
    clear hb h0 h1 h2 B1 W gn nhD nhO nhY nhS nhQ nhR nhT
    generalize V0.heap.size = bv at *
    clear V V0
    have gN := hN.cells; have ghS := hS.cells; have ra := hY.2
    have ghQ := hQ.cells
    have ghT := hT.cells
    simp only [List.drop_succ_cons, List.drop_zero, Act.put, List.setIfInBounds_toArray, List.set_cons_zero, List.set_cons_succ]
    go_wp2_with (refine wpList_load_mid rfl 23 _ rfl w.heap.size 0 rfl (A.map fun z => Value.int .u8 z) _ ra Tryd.underlying23 rfl (by rw [List.length_map, hl]; kernel_rfl) ?_)
    refine calls_world (fun W => Below w.heap.size w W ∧ Mds W ∧ Cols W ∧ HAt W w.heap.size A ∧ Pnt W bs r s o ∧ Pnt W bq X Y false ∧ Pnt W br lx ly li ∧ Pnt W bt tx ty tj ∧ Pnt W bv tx ty tj) ⟨B, hD, hO, hY, hS, hQ, hR, hT, hN⟩ ?_
    clear B hN gN ghS ra hD hO hY hS hQ hR hT ghQ ghT
    rintro W ⟨B, hD, hO, hY, hS, hQ, hR, hT, hV⟩
    clear w1
    clear hR hT hV
    with_reducible refine (VE.out _ hD hO).mono ?_
    rintro e w9 ⟨rfl, hb⟩
    replace B := B.trans (hb.mono B.size)
    replace hD := hD.keep hb; replace hO := hO.keep hb; replace hY := hY.keep hb; replace hS := hS.keep hb; replace hQ := hQ.keep hb
    clear hb W
    have gS0 := hS.cells
    have gS1 := fun a => (hS.alloc a).cells
    have ra2 := fun a => (hY.alloc a).2
    have ls := hS.lt
    have ns : w9.heap.size ≠ bs := by omega
    have ns2 := ns.symm
    go_wp2_with (refine wpList_load_mid rfl 23 _ rfl w.heap.size 0 rfl (A.map fun z => Value.int .u8 z) _ (ra2 _) Tryd.underlying23 rfl (by rw [List.length_map, hl]; kernel_rfl) ?_)
    refine calls_world (fun W => Below w.heap.size w W ∧ Mds W ∧ Cols W ∧ Pnt W bq X Y false) ⟨B.alloc B.size _, hD.alloc _, Cols.alloc hO _, hQ.alloc _⟩ ?_
    clear B hD hO hQ hS hY gS0 gS1 ra2 ls ns ns2
    rintro W ⟨B, hD, hO, hQ⟩
    generalize w9.heap.size = bz at *
    clear w9
    with_reducible refine (RT.out _ hD hO).mono ?_
    rintro e w8 ⟨rfl, hb⟩
    replace B := B.trans (hb.mono B.size)
    replace hD := hD.keep hb; replace hO := hO.keep hb; replace hQ := hQ.keep hb
    clear hb W hD hO
    have gQ := fun o => (hQ.alloc o).cells
    have BB : Hid (∀ o, Below w.heap.size w (w8.alloc o)) := fun o => B.alloc B.size o
    clear B hQ
    go_wp2
    simp [bodyPost, results, Tryd.results3, go_sem]
    exact BB.out _

set_option maxRecDepth 100000 in
set_option maxHeartbeats 16000000 in
theorem erl_ok0 {r s X Y lx ly tx ty dg X2 Y2 : Int} {o li tj j2 : Bool} {A : List Int} (hl : A.length = 32) (RC : Hid (∀ w, Mds w → Cols w → Calls Tryd.prog 5 #[.agg ((A.map fun z => Value.int .u8 z).toArray), .agg #[.int .u64 (l0 r), .int .u64 (l1 r), .int .u64 (l2 r), .int .u64 (l3 r), .int .u64 (l0 s), .int .u64 (l1 s), .int .u64 (l2 s), .int .u64 (l3 s), .bool o]] w fun e w' => e = .returned (.tuple #[.agg #[.int .u64 (l0 X), .int .u64 (l1 X), .int .u64 (l2 X), .int .u64 (l3 X), .int .u64 (l0 Y), .int .u64 (l1 Y), .int .u64 (l2 Y), .int .u64 (l3 Y), .bool false], .int .i64 0]) ∧ Below w.heap.size w w')) (CK : Hid (∀ w, Mds w → Calls Tryd.prog 6 #[.agg #[.int .u64 (l0 r), .int .u64 (l1 r), .int .u64 (l2 r), .int .u64 (l3 r), .int .u64 (l0 s), .int .u64 (l1 s), .int .u64 (l2 s), .int .u64 (l3 s), .bool o]] w fun e w' => e = .returned (.int .i64 0) ∧ Below w.heap.size w w')) (LF : Hid (∀ w, Mds w → Calls Tryd.prog 7 #[.agg #[.int .u64 (l0 r), .int .u64 (l1 r), .int .u64 (l2 r), .int .u64 (l3 r)], .bool o] w fun e w' => e = .returned (.tuple #[.agg #[.int .u64 (l0 lx), .int .u64 (l1 lx), .int .u64 (l2 lx), .int .u64 (l3 lx), .int .u64 (l0 ly), .int .u64 (l1 ly), .int .u64 (l2 ly), .int .u64 (l3 ly), .bool li], .int .i64 0]) ∧ Below w.heap.size w w')) (MU : Hid (∀ w, Mds w → Cols w → Calls Tryd.prog 8 #[.agg #[.int .u64 (l0 s), .int .u64 (l1 s), .int .u64 (l2 s), .int .u64 (l3 s)], .agg #[.int .u64 (l0 lx), .int .u64 (l1 lx), .int .u64 (l2 lx), .int .u64 (l3 lx), .int .u64 (l0 ly), .int .u64 (l1 ly), .int .u64 (l2 ly), .int .u64 (l3 ly), .bool li]] w fun e w' => e = .returned (.tuple #[.agg #[.int .u64 (l0 tx), .int .u64 (l1 tx), .int .u64 (l2 tx), .int .u64 (l3 tx), .int .u64 (l0 ty), .int .u64 (l1 ty), .int .u64 (l2 ty), .int .u64 (l3 ty), .bool tj], .int .i64 0]) ∧ Below w.heap.size w w')) (NU : Hid (∀ w, Mds w → Calls Tryd.prog 10 #[.agg ((A.map fun z => Value.int .u8 z).toArray)] w fun e w' => e = .returned (.agg #[.int .u64 (l0 dg), .int .u64 (l1 dg), .int .u64 (l2 dg), .int .u64 (l3 dg)]) ∧ Below w.heap.size w w')) (MA : Hid (∀ w, Mds w → Cols w → Calls Tryd.prog 9 #[.agg #[.int .u64 (l0 dg), .int .u64 (l1 dg), .int .u64 (l2 dg), .int .u64 (l3 dg)], .agg #[.int .u64 (l0 r), .int .u64 (l1 r), .int .u64 (l2 r), .int .u64 (l3 r)], .agg #[.int .u64 (l0 X), .int .u64 (l1 X), .int .u64 (l2 X), .int .u64 (l3 X), .int .u64 (l0 Y), .int .u64 (l1 Y), .int .u64 (l2 Y), .int .u64 (l3 Y), .bool false]] w fun e w' => e = .returned (.tuple #[.agg #[.int .u64 (l0 tx), .int .u64 (l1 tx), .int .u64 (l2 tx), .int .u64 (l3 tx), .int .u64 (l0 ty), .int .u64 (l1 ty), .int .u64 (l2 ty), .int .u64 (l3 ty), .bool tj], .int .i64 0]) ∧ Below w.heap.size w w')) (EL : ∀ w, (Op.equalIn 10000 30 (.agg #[.int .u64 (l0 tx), .int .u64 (l1 tx), .int .u64 (l2 tx), .int .u64 (l3 tx), .int .u64 (l0 ty), .int .u64 (l1 ty), .int .u64 (l2 ty), .int .u64 (l3 ty), .bool tj]) (.agg #[.int .u64 (l0 tx), .int .u64 (l1 tx), .int .u64 (l2 tx), .int .u64 (l3 tx), .int .u64 (l0 ty), .int .u64 (l1 ty), .int .u64 (l2 ty), .int .u64 (l3 ty), .bool tj])).run Tryd.prog w = .ok true w) (VE : Hid (∀ w, Mds w → Cols w → Calls Tryd.prog 12 #[.agg #[.int .u64 (l0 X), .int .u64 (l1 X), .int .u64 (l2 X), .int .u64 (l3 X), .int .u64 (l0 Y), .int .u64 (l1 Y), .int .u64 (l2 Y), .int .u64 (l3 Y), .bool false], .agg ((A.map fun z => Value.int .u8 z).toArray), .agg #[.int .u64 (l0 r), .int .u64 (l1 r), .int .u64 (l2 r), .int .u64 (l3 r), .int .u64 (l0 s), .int .u64 (l1 s), .int .u64 (l2 s), .int .u64 (l3 s), .bool o]] w fun e w' => e = .returned (.tuple #[.bool true, .int .i64 0]) ∧ Below w.heap.size w w')) (RT : Hid (∀ w, Mds w → Cols w → Calls Tryd.prog 5 #[.agg ((A.map fun z => Value.int .u8 z).toArray), .agg #[.int .u64 (l0 r), .int .u64 (l1 r), .int .u64 (l2 r), .int .u64 (l3 r), .int .u64 (l0 s), .int .u64 (l1 s), .int .u64 (l2 s), .int .u64 (l3 s), .bool (!o)]] w fun e w' => e = .returned (.tuple #[.agg #[.int .u64 (l0 X2), .int .u64 (l1 X2), .int .u64 (l2 X2), .int .u64 (l3 X2), .int .u64 (l0 Y2), .int .u64 (l1 Y2), .int .u64 (l2 Y2), .int .u64 (l3 Y2), .bool j2], .int .i64 0]) ∧ Below w.heap.size w w')) (EO : ∀ w, (Op.equalIn 10000 30 (.agg #[.int .u64 (l0 X2), .int .u64 (l1 X2), .int .u64 (l2 X2), .int .u64 (l3 X2), .int .u64 (l0 Y2), .int .u64 (l1 Y2), .int .u64 (l2 Y2), .int .u64 (l3 Y2), .bool j2]) (.agg #[.int .u64 (l0 X), .int .u64 (l1 X), .int .u64 (l2 X), .int .u64 (l3 X), .int .u64 (l0 Y), .int .u64 (l1 Y), .int .u64 (l2 Y), .int .u64 (l3 Y), .bool false])).run Tryd.prog w = .ok false w) (w : World) (hm : Mds w) (hc : Cols w) :
    Calls Tryd.prog 3 #[hashV A, .agg #[.int .u64 (l0 r), .int .u64 (l1 r), .int .u64 (l2 r), .int .u64 (l3 r), .int .u64 (l0 s), .int .u64 (l1 s), .int .u64 (l2 s), .int .u64 (l3 s), .bool o]] w fun e w' => e = .returned (.bool true) ∧ Below w.heap.size w w' := by
  unfold hashV at *
  have ra : ((w.alloc (.cells ((A.map fun z => Value.int .u8 z).toArray) 23)).alloc (.cells #[.int .u64 (l0 r), .int .u64 (l1 r), .int .u64 (l2 r), .int .u64 (l3 r), .int .u64 (l0 s), .int .u64 (l1 s), .int .u64 (l2 s), .int .u64 (l3 s), .bool o] 28)).rangeAt w.heap.size 0 (A.map fun z => Value.int .u8 z) := ((HAt.new hl rfl).alloc _).2
  go_enter Tryd.func3, Tryd.ntmps3
  go_wp2_with (refine wpList_load_mid rfl 23 _ rfl w.heap.size 0 rfl (A.map fun z => Value.int .u8 z) _ ra Tryd.underlying23 rfl (by rw [List.length_map, hl]; kernel_rfl) ?_)
  refine calls_world (fun W => Below w.heap.size w W ∧ Mds W ∧ Cols W ∧ HAt W w.heap.size A ∧ Pnt W (w.heap.size + 1) r s o) ⟨by repeat (first | with_reducible exact Below.refl _ _ | with_reducible refine Below.alloc ?_ (by first | omega | (simp; done) | (simp; omega)) _), (hm.alloc _).alloc _, (Cols.alloc hc _).alloc _, (HAt.new hl rfl).alloc _, Pnt.new (by simp)⟩ ?_
  clear ra
  rintro W ⟨B, hD, hO, hY, hS⟩
  have g1 : w.heap.size ≤ w.heap.size + 1 := by omega
  generalize w.heap.size + 1 = bs at *
  with_reducible refine (RC.out _ hD hO).mono ?_
  rintro e w1 ⟨rfl, hb⟩
  replace B := B.trans (hb.mono B.size)
  replace hD := hD.keep hb; replace hO := hO.keep hb; replace hY := hY.keep hb; replace hS := hS.keep hb
  clear hb W
  have ghS := fun o => (hS.alloc o).cells
  go_wp2_with fail
  refine calls_world (fun W => Below w.heap.size w W ∧ Mds W ∧ Cols W ∧ HAt W w.heap.size A ∧ Pnt W bs r s o ∧ Pnt W w1.heap.size X Y false) ⟨B.alloc B.size _, hD.alloc _, hO.alloc _, hY.alloc _, hS.alloc _, Pnt.new rfl⟩ ?_
  clear B hD hO hY hS ghS
  rintro W ⟨B, hD, hO, hY, hS, hQ⟩
  generalize w1.heap.size = bq at *
  with_reducible refine (CK.out _ hD).mono ?_
  rintro e w2 ⟨rfl, hb⟩
  replace B := B.trans (hb.mono B.size)
  replace hD := hD.keep hb; replace hO := hO.keep hb; replace hY := hY.keep hb; replace hS := hS.keep hb; replace hQ := hQ.keep hb
  clear hb W
  have ghS := hS.cells
  go_wp2_with fail
  refine calls_world (fun W => Below w.heap.size w W ∧ Mds W ∧ Cols W ∧ HAt W w.heap.size A ∧ Pnt W bs r s o ∧ Pnt W bq X Y false) ⟨B, hD, hO, hY, hS, hQ⟩ ?_
  clear B hD hO hY hS hQ ghS
  rintro W ⟨B, hD, hO, hY, hS, hQ⟩
  with_reducible refine (LF.out _ hD).mono ?_
  rintro e w3 ⟨rfl, hb⟩
  replace B := B.trans (hb.mono B.size)
  replace hD := hD.keep hb; replace hO := hO.keep hb; replace hY := hY.keep hb; replace hS := hS.keep hb; replace hQ := hQ.keep hb
  clear hb W
  have ghS := fun o => (hS.alloc o).cells
  go_wp2_with fail
  refine calls_world (fun W => Below w.heap.size w W ∧ Mds W ∧ Cols W ∧ HAt W w.heap.size A ∧ Pnt W bs r s o ∧ Pnt W bq X Y false ∧ Pnt W w3.heap.size lx ly li) ⟨B.alloc B.size _, hD.alloc _, hO.alloc _, hY.alloc _, hS.alloc _, hQ.alloc _, Pnt.new rfl⟩ ?_
  clear B hD hO hY hS hQ ghS
  rintro W ⟨B, hD, hO, hY, hS, hQ, hR⟩
  generalize w3.heap.size = br at *
  with_reducible refine (MU.out _ hD hO).mono ?_
  rintro e w4 ⟨rfl, hb⟩
  replace B := B.trans (hb.mono B.size)
  replace hD := hD.keep hb; replace hO := hO.keep hb; replace hY := hY.keep hb; replace hS := hS.keep hb; replace hQ := hQ.keep hb; replace hR := hR.keep hb
  clear hb W
  go_wp2_with fail
  refine wp_world (fun W => Below w.heap.size w W ∧ Mds W ∧ Cols W ∧ HAt W w.heap.size A ∧ Pnt W bs r s o ∧ Pnt W bq X Y false ∧ Pnt W br lx ly li ∧ Pnt W w4.heap.size tx ty tj) ⟨B.alloc B.size _, hD.alloc _, hO.alloc _, hY.alloc _, hS.alloc _, hQ.alloc _, hR.alloc _, Pnt.new rfl⟩ ?_
  clear B hD hO hY hS hQ hR 
  rintro W ⟨B, hD, hO, hY, hS, hQ, hR, hT⟩
  generalize w4.heap.size = bt at *
  refine put_tail (A := ?AA1) 9 (fun V kk => put9 V kk tx ty tj) (by kernel_rfl) (by kernel_rfl) rfl rfl rfl (alloc_pt _ _ _) (fun V V0 h0 h1 => below_put9 (alloc_below h0 h1) h0.size) (fun V hV => ?HH1) (fun V V0 h0 h1 => ?EE1) (fun V0 V w1 h0 h1 h2 => ?TT1)
  case HH1 =>
    have hDg : ∀ d os, Mds (grow (redrawn V d) os) := fun d os => (hD.keep hV).keep (below_regrown V d os)
    have hOg : ∀ d os, Cols (grow (redrawn V d) os) := fun d os => (hO.keep hV).keep (below_regrown V d os)
    have ghS := (hS.keep hV).grown
    have ghQ := (hQ.keep hV).grown
    have ldY : ∀ w', (∃ p : Regrown, w' = grow (redrawn V p.d) p.os) → w'.rangeAt w.heap.size 0 (A.map fun z => Value.int .u8 z) := by rintro w' ⟨p, rfl⟩; exact ((hY.keep hV).keep (below_regrown V p.d p.os)).2
    unfold Gr
    simp only [List.take_succ_cons, List.take_zero]
    repeat
      first
        | go_big_quiet_skip
        | (go_big_quiet_want; go_big_quiet_op; go_big_quiet_on)
        | (go_big_quiet_want; refine quiet_load_mid 23 _ rfl w.heap.size 0 rfl (A.map fun z => Value.int .u8 z) _ ldY Tryd.underlying23 rfl (by rw [List.length_map, hl]; kernel_rfl) ?_; simp only [Act.put, List.setIfInBounds_toArray, List.set_cons_succ, List.set_cons_zero]; go_big_quiet_on)
        | (go_big_quiet_want
           go_big_quiet_op
           apply Exists.intro
           refine ⟨fun p => ?_, ?_⟩
           · (first | (go_at_call 10; with_reducible exact Calls.regrown_of (NU.out _ (hDg p.d p.os))) | (go_at_call 9; with_reducible exact Calls.regrown_of (MA.out _ (hDg p.d p.os) (hOg p.d p.os))))
           go_big_quiet_on)
    refine wpQuiet_nil ?_
    exact rfl
  case EE1 =>
    obtain ⟨c0, c1, c2, c3, c4, c5, c6, c7, c8⟩ := ((Bk9.new rfl).keep h1).cells
    obtain ⟨f0, f1, f2, f3, f4, f5, f6, f7, f8⟩ := ((Bk9.new rfl).keep h1).free
    unfold put9
    simp [execOp, Act.put, Act.eval, go_sem, c0, c1, c2, c3, c4, c5, c6, c7, c8, f0, f1, f2, f3, f4, f5, f6, f7, f8]
  case TT1 =>
    have hN := (((Bk9.new rfl).keep h1).put9 tx ty tj).keep h2
    have hb := alloc_below h0 h1
    have nhD : V0.heap.size ≠ 0 := Nat.ne_of_gt (Nat.lt_of_lt_of_le hD.lt h0.size)
    have nhO : V0.heap.size ≠ 1 := Nat.ne_of_gt (Nat.lt_of_lt_of_le hO.lt h0.size)
    have nhY : V0.heap.size ≠ w.heap.size := Nat.ne_of_gt (Nat.lt_of_lt_of_le hY.lt h0.size)
    have nhS : V0.heap.size ≠ bs := Nat.ne_of_gt (Nat.lt_of_lt_of_le hS.lt h0.size)
    have nhQ : V0.heap.size ≠ bq := Nat.ne_of_gt (Nat.lt_of_lt_of_le hQ.lt h0.size)
    have nhR : V0.heap.size ≠ br := Nat.ne_of_gt (Nat.lt_of_lt_of_le hR.lt h0.size)
    have nhT : V0.heap.size ≠ bt := Nat.ne_of_gt (Nat.lt_of_lt_of_le hT.lt h0.size)
    have gn : w.heap.size ≤ V0.heap.size := Nat.le_trans B.size h0.size
    have B1 := below_put9 (x' := tx) (y' := ty) (j := tj) (B.trans (hb.mono B.size)) gn
    replace B := B1.trans (h2.mono B1.size)
    replace hD := ((hD.keep hb).put9 nhD).keep h2
    replace hO := ((hO.keep hb).put9 nhO).keep h2
    replace hY := ((hY.keep hb).put9 nhY).keep h2
    replace hS := ((hS.keep hb).put9 nhS).keep h2
    replace hQ := ((hQ.keep hb).put9 nhQ).keep h2
    replace hR := ((hR.keep hb).put9 nhR).keep h2
    replace hT := ((hT.keep hb).put9 nhT).keep h2
    clear hb h0 h1 h2 B1 W gn nhD nhO nhY nhS nhQ nhR nhT
    generalize V0.heap.size = bv at *
    clear V V0
    have gN := hN.cells; have ghS := hS.cells; have ra := hY.2
    have ghQ := hQ.cells
    have ghT := hT.cells
    simp only [List.drop_succ_cons, List.drop_zero, Act.put, List.setIfInBounds_toArray, List.set_cons_zero, List.set_cons_succ]
    go_wp2_with (refine wpList_load_mid rfl 23 _ rfl w.heap.size 0 rfl (A.map fun z => Value.int .u8 z) _ ra Tryd.underlying23 rfl (by rw [List.length_map, hl]; kernel_rfl) ?_)
    refine calls_world (fun W => Below w.heap.size w W ∧ Mds W ∧ Cols W ∧ HAt W w.heap.size A ∧ Pnt W bs r s o ∧ Pnt W bq X Y false ∧ Pnt W br lx ly li ∧ Pnt W bt tx ty tj ∧ Pnt W bv tx ty tj) ⟨B, hD, hO, hY, hS, hQ, hR, hT, hN⟩ ?_
    clear B hN gN ghS ra hD hO hY hS hQ hR hT ghQ ghT
    rintro W ⟨B, hD, hO, hY, hS, hQ, hR, hT, hV⟩
    clear w1
    clear hR hT hV
    with_reducible refine (VE.out _ hD hO).mono ?_
    rintro e w9 ⟨rfl, hb⟩
    replace B := B.trans (hb.mono B.size)
    replace hD := hD.keep hb; replace hO := hO.keep hb; replace hY := hY.keep hb; replace hS := hS.keep hb; replace hQ := hQ.keep hb
    clear hb W
    have gS0 := hS.cells
    have gS1 := fun a => (hS.alloc a).cells
    have ra2 := fun a => (hY.alloc a).2
    have ls := hS.lt
    have ns : w9.heap.size ≠ bs := by omega
    have ns2 := ns.symm
    go_wp2_with (refine wpList_load_mid rfl 23 _ rfl w.heap.size 0 rfl (A.map fun z => Value.int .u8 z) _ (ra2 _) Tryd.underlying23 rfl (by rw [List.length_map, hl]; kernel_rfl) ?_)
    refine calls_world (fun W => Below w.heap.size w W ∧ Mds W ∧ Cols W ∧ Pnt W bq X Y false) ⟨B.alloc B.size _, hD.alloc _, Cols.alloc hO _, hQ.alloc _⟩ ?_
    clear B hD hO hQ hS hY gS0 gS1 ra2 ls ns ns2
    rintro W ⟨B, hD, hO, hQ⟩
    generalize w9.heap.size = bz at *
    clear w9
    with_reducible refine (RT.out _ hD hO).mono ?_
    rintro e w8 ⟨rfl, hb⟩
    replace B := B.trans (hb.mono B.size)
    replace hD := hD.keep hb; replace hO := hO.keep hb; replace hQ := hQ.keep hb
    clear hb W hD hO
    have gQ := fun o => (hQ.alloc o).cells
    have BB : Hid (∀ o, Below w.heap.size w (w8.alloc o)) := fun o => B.alloc B.size o
    clear B hQ
    go_wp2
    simp [bodyPost, results, Tryd.results3, go_sem]
    exact BB.out _
end Go.Proofs.YtjhongkmempepaaDoor
