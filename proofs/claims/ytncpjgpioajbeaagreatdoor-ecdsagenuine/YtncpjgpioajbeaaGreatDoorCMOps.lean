import Derived.Test.YtncpjgpioajbeaaGreatDoorCBlend
import Derived.Test.YtncpjgpioajbeaaGreatDoorCRep
namespace Go.Proofs.YtncpjgpioajbeaaGreatDoor
open Go.RowKit Go.Sort

theorem cblend_any {a b x y : Int} {i : Bool} (ha : Num a) (hb : Num b) (hv : Vd x y i) : Hid (∀ w, Mds w → Cols w → Calls Tryz.prog 29 #[.agg #[.int .u64 (l0 a), .int .u64 (l1 a), .int .u64 (l2 a), .int .u64 (l3 a)], .agg #[.int .u64 (l0 b), .int .u64 (l1 b), .int .u64 (l2 b), .int .u64 (l3 b)], .agg #[.int .u64 (l0 x), .int .u64 (l1 x), .int .u64 (l2 x), .int .u64 (l3 x), .int .u64 (l0 y), .int .u64 (l1 y), .int .u64 (l2 y), .int .u64 (l3 y), .bool i]] w fun e w' => ∃ x' y' z', EC.Low x' ∧ EC.Low y' ∧ EC.Low z' ∧ (J3 x' y' z').pt = (EC.smul a.toNat EC.gJ.pt).add (EC.smul b.toNat (ptOf x y i)) ∧ e = .returned (.agg #[.int .u64 (l0 x'), .int .u64 (l1 x'), .int .u64 (l2 x'), .int .u64 (l3 x'), .int .u64 (l0 y'), .int .u64 (l1 y'), .int .u64 (l2 y'), .int .u64 (l3 y'), .int .u64 (l0 z'), .int .u64 (l1 z'), .int .u64 (l2 z'), .int .u64 (l3 z')]) ∧ Below w.heap.size w w') := fun w hm hc => by
  obtain ⟨t, f, CW, h0, hf⟩ := cmult_seq hv
  exact cblend_walk hb hv (fun k => ⟨(hf k).1, (hf k).2.1⟩) (fun w hm => cmulti_walk CW h0 (fun k w hm => (hf k).2.2 w hm) w hm) ha w hm hc

set_option maxRecDepth 100000 in
set_option maxHeartbeats 4000000 in
theorem cmuladd_walk {a b x y x' y' : Int} {i j : Bool} {p : EC.Pt} (C0 : Hid (∀ w, Mds w → Calls Tryz.prog 52 #[.agg #[.int .u64 (l0 x), .int .u64 (l1 x), .int .u64 (l2 x), .int .u64 (l3 x), .int .u64 (l0 y), .int .u64 (l1 y), .int .u64 (l2 y), .int .u64 (l3 y), .bool i]] w fun e w' => e = .returned (.bool true) ∧ Below w.heap.size w w')) (CB : Hid (∀ w, Mds w → Cols w → Calls Tryz.prog 29 #[.agg #[.int .u64 (l0 a), .int .u64 (l1 a), .int .u64 (l2 a), .int .u64 (l3 a)], .agg #[.int .u64 (l0 b), .int .u64 (l1 b), .int .u64 (l2 b), .int .u64 (l3 b)], .agg #[.int .u64 (l0 x), .int .u64 (l1 x), .int .u64 (l2 x), .int .u64 (l3 x), .int .u64 (l0 y), .int .u64 (l1 y), .int .u64 (l2 y), .int .u64 (l3 y), .bool i]] w fun e w' => ∃ x' y' z', EC.Low x' ∧ EC.Low y' ∧ EC.Low z' ∧ (J3 x' y' z').pt = p ∧ e = .returned (.agg #[.int .u64 (l0 x'), .int .u64 (l1 x'), .int .u64 (l2 x'), .int .u64 (l3 x'), .int .u64 (l0 y'), .int .u64 (l1 y'), .int .u64 (l2 y'), .int .u64 (l3 y'), .int .u64 (l0 z'), .int .u64 (l1 z'), .int .u64 (l2 z'), .int .u64 (l3 z')]) ∧ Below w.heap.size w w')) (HJ : Hid (Vd x' y' j ∧ ptOf x' y' j = p)) (w : World) (hm : Mds w) (hc : Cols w) :
    Calls Tryz.prog 26 #[.agg #[.int .u64 (l0 a), .int .u64 (l1 a), .int .u64 (l2 a), .int .u64 (l3 a)], .agg #[.int .u64 (l0 b), .int .u64 (l1 b), .int .u64 (l2 b), .int .u64 (l3 b)], .agg #[.int .u64 (l0 x), .int .u64 (l1 x), .int .u64 (l2 x), .int .u64 (l3 x), .int .u64 (l0 y), .int .u64 (l1 y), .int .u64 (l2 y), .int .u64 (l3 y), .bool i]] w fun e w' => e = .returned (.tuple #[.agg #[.int .u64 (l0 x'), .int .u64 (l1 x'), .int .u64 (l2 x'), .int .u64 (l3 x'), .int .u64 (l0 y'), .int .u64 (l1 y'), .int .u64 (l2 y'), .int .u64 (l3 y'), .bool j], .int .i64 0]) ∧ Below w.heap.size w w' := by
  go_enter Tryz.func26, Tryz.ntmps26
  go_wp2_with fail
  refine calls_world (fun W => Below w.heap.size w W ∧ Mds W ∧ Cols W ∧ Nm W w.heap.size a ∧ Nm W (w.heap.size + 1) b ∧ Pnt W (w.heap.size + 1 + 1) x y i ∧ Bk9 W (w.heap.size + 1 + 1 + 1))
    ⟨by repeat (first | with_reducible exact Below.refl _ _ | with_reducible refine Below.alloc ?_ (by first | omega | (simp; done) | (simp; omega)) _), (((hm.alloc _).alloc _).alloc _).alloc _, (((Pts.alloc hc _).alloc _).alloc _).alloc _, (((Cl.new _ rfl rfl).alloc _).alloc _).alloc _, ((Cl.new _ (by simp) rfl).alloc _).alloc _, (Pnt.new (by simp)).alloc _, Bk9.new (by simp)⟩ ?_
  rintro W ⟨B, hD, hC, hA, hB, hQ, hR⟩
  have o3 : w.heap.size ≤ w.heap.size + 1 + 1 + 1 := by omega
  generalize w.heap.size + 1 + 1 + 1 = br at *
  generalize w.heap.size + 1 + 1 = bq at *
  generalize w.heap.size + 1 = bb at *
  with_reducible refine (C0.out _ hD).mono ?_
  rintro e w1 ⟨rfl, hb⟩
  replace B := B.trans (hb.mono B.size)
  replace hD := hD.keep hb; replace hC := Pts.keep hC hb; replace hA := hA.keep hb; replace hB := hB.keep hb; replace hQ := hQ.keep hb; replace hR := hR.keep hb
  clear hb W
  have gA := hA.cells; have gB := hB.cells; have gQ := hQ.cells
  go_wp2_with fail
  refine calls_world (fun W => Below w.heap.size w W ∧ Mds W ∧ Cols W ∧ Bk9 W br) ⟨B, hD, hC, hR⟩ ?_
  clear B hD hC hA hB hQ hR gA gB gQ
  rintro W ⟨B, hD, hC, hR⟩
  clear w1
  with_reducible refine (CB.out _ hD hC).mono ?_
  rintro e w1 ⟨tx, ty, tz, s1, s2, s3, ep, rfl, hb⟩
  replace B := B.trans (hb.mono B.size)
  replace hD := hD.keep hb; replace hR := hR.keep hb
  clear hb W hC CB
  obtain ⟨px, py, pi, u1, u2, u3, u4, CP⟩ := cpoint_J s1 s2 s3
  have hvd : Vd px py pi := by
    have hon : EC.On (ptOf px py pi) := by rw [u4, ep, ← HJ.out.2]; exact HJ.out.1.on
    cases pi with
    | true => exact u3 rfl
    | false => exact ⟨u1, u2, hon⟩
  obtain ⟨rfl, rfl, rfl⟩ := hvd.inj HJ.out.1 (by rw [u4, ep, HJ.out.2])
  have CPH : Hid (∀ w, Mds w → Calls Tryz.prog 30 #[.agg #[.int .u64 (l0 tx), .int .u64 (l1 tx), .int .u64 (l2 tx), .int .u64 (l3 tx), .int .u64 (l0 ty), .int .u64 (l1 ty), .int .u64 (l2 ty), .int .u64 (l3 ty), .int .u64 (l0 tz), .int .u64 (l1 tz), .int .u64 (l2 tz), .int .u64 (l3 tz)]] w fun e w' => e = .returned (.agg #[.int .u64 (l0 px), .int .u64 (l1 px), .int .u64 (l2 px), .int .u64 (l3 px), .int .u64 (l0 py), .int .u64 (l1 py), .int .u64 (l2 py), .int .u64 (l3 py), .bool pi]) ∧ Below w.heap.size w w') := CP
  clear CP u1 u2 u3 u4 hvd s1 s2 s3 ep
  go_wp2_with fail
  refine calls_world (fun W => Below w.heap.size w W ∧ Mds W ∧ Bk9 W br) ⟨B, hD, hR⟩ ?_
  clear B hD hR
  rintro W ⟨B, hD, hR⟩
  clear w1
  with_reducible refine (CPH.out _ hD).mono ?_
  rintro e w1 ⟨rfl, hb⟩
  replace B := B.trans (hb.mono B.size)
  replace hR := hR.keep hb
  clear hb W hD CPH
  have gR := hR.cells; have fR := hR.free
  go_wp2
  simp [bodyPost, results, Tryz.results26, go_sem, gR]
  repeat (first | with_reducible exact B | with_reducible refine Below.setCell ?_ o3 _)

theorem cmuladd_any {a b x y x' y' : Int} {i j : Bool} (ha : Num a) (hb : Num b) (hv : Vd x y i) (hj : Vd x' y' j) (ej : ptOf x' y' j = (EC.smul a.toNat EC.gJ.pt).add (EC.smul b.toNat (ptOf x y i))) (w : World) (hm : Mds w) (hc : Cols w) :
    Calls Tryz.prog 26 #[.agg #[.int .u64 (l0 a), .int .u64 (l1 a), .int .u64 (l2 a), .int .u64 (l3 a)], .agg #[.int .u64 (l0 b), .int .u64 (l1 b), .int .u64 (l2 b), .int .u64 (l3 b)], .agg #[.int .u64 (l0 x), .int .u64 (l1 x), .int .u64 (l2 x), .int .u64 (l3 x), .int .u64 (l0 y), .int .u64 (l1 y), .int .u64 (l2 y), .int .u64 (l3 y), .bool i]] w fun e w' => e = .returned (.tuple #[.agg #[.int .u64 (l0 x'), .int .u64 (l1 x'), .int .u64 (l2 x'), .int .u64 (l3 x'), .int .u64 (l0 y'), .int .u64 (l1 y'), .int .u64 (l2 y'), .int .u64 (l3 y'), .bool j], .int .i64 0]) ∧ Below w.heap.size w w' :=
  cmuladd_walk (con_yes hv) (cblend_any ha hb hv) ⟨hj, ej⟩ w hm hc

set_option maxRecDepth 100000 in
set_option maxHeartbeats 4000000 in
theorem cmulg_walk {k x' y' : Int} {j : Bool} {p : EC.Pt} (CB : Hid (∀ w, Mds w → Cols w → Calls Tryz.prog 29 #[.agg #[.int .u64 (l0 k), .int .u64 (l1 k), .int .u64 (l2 k), .int .u64 (l3 k)], .agg #[.int .u64 0, .int .u64 0, .int .u64 0, .int .u64 0], .agg #[.int .u64 0, .int .u64 0, .int .u64 0, .int .u64 0, .int .u64 0, .int .u64 0, .int .u64 0, .int .u64 0, .bool true]] w fun e w' => ∃ x' y' z', EC.Low x' ∧ EC.Low y' ∧ EC.Low z' ∧ (J3 x' y' z').pt = p ∧ e = .returned (.agg #[.int .u64 (l0 x'), .int .u64 (l1 x'), .int .u64 (l2 x'), .int .u64 (l3 x'), .int .u64 (l0 y'), .int .u64 (l1 y'), .int .u64 (l2 y'), .int .u64 (l3 y'), .int .u64 (l0 z'), .int .u64 (l1 z'), .int .u64 (l2 z'), .int .u64 (l3 z')]) ∧ Below w.heap.size w w')) (HJ : Hid (Vd x' y' j ∧ ptOf x' y' j = p)) (w : World) (hm : Mds w) (hc : Cols w) :
    Calls Tryz.prog 10 #[.agg #[.int .u64 (l0 k), .int .u64 (l1 k), .int .u64 (l2 k), .int .u64 (l3 k)]] w fun e w' => e = .returned (.agg #[.int .u64 (l0 x'), .int .u64 (l1 x'), .int .u64 (l2 x'), .int .u64 (l3 x'), .int .u64 (l0 y'), .int .u64 (l1 y'), .int .u64 (l2 y'), .int .u64 (l3 y'), .bool j]) ∧ Below w.heap.size w w' := by
  go_enter Tryz.func10, Tryz.ntmps10
  go_wp2_with fail
  refine calls_world (fun W => Below w.heap.size w W ∧ Mds W ∧ Cols W ∧ Bk9 W (w.heap.size + 1)) ⟨by repeat (first | with_reducible exact Below.refl _ _ | with_reducible refine Below.alloc ?_ (by first | omega | (simp; done) | (simp; omega)) _), (hm.alloc _).alloc _, (Pts.alloc hc _).alloc _, Bk9.new (by simp)⟩ ?_
  rintro W ⟨B, hD, hC, hR⟩
  have o3 : w.heap.size ≤ w.heap.size + 1 := by omega
  generalize w.heap.size + 1 = br at *
  with_reducible refine (CB.out _ hD hC).mono ?_
  rintro e w1 ⟨tx, ty, tz, s1, s2, s3, ep, rfl, hb⟩
  replace B := B.trans (hb.mono B.size)
  replace hD := hD.keep hb; replace hR := hR.keep hb
  clear hb W hC CB
  obtain ⟨px, py, pi, u1, u2, u3, u4, CP⟩ := cpoint_J s1 s2 s3
  have hvd : Vd px py pi := by
    have hon : EC.On (ptOf px py pi) := by rw [u4, ep, ← HJ.out.2]; exact HJ.out.1.on
    cases pi with
    | true => exact u3 rfl
    | false => exact ⟨u1, u2, hon⟩
  obtain ⟨rfl, rfl, rfl⟩ := hvd.inj HJ.out.1 (by rw [u4, ep, HJ.out.2])
  have CPH : Hid (∀ w, Mds w → Calls Tryz.prog 30 #[.agg #[.int .u64 (l0 tx), .int .u64 (l1 tx), .int .u64 (l2 tx), .int .u64 (l3 tx), .int .u64 (l0 ty), .int .u64 (l1 ty), .int .u64 (l2 ty), .int .u64 (l3 ty), .int .u64 (l0 tz), .int .u64 (l1 tz), .int .u64 (l2 tz), .int .u64 (l3 tz)]] w fun e w' => e = .returned (.agg #[.int .u64 (l0 px), .int .u64 (l1 px), .int .u64 (l2 px), .int .u64 (l3 px), .int .u64 (l0 py), .int .u64 (l1 py), .int .u64 (l2 py), .int .u64 (l3 py), .bool pi]) ∧ Below w.heap.size w w') := CP
  clear CP u1 u2 u3 u4 hvd s1 s2 s3 ep
  go_wp2_with fail
  refine calls_world (fun W => Below w.heap.size w W ∧ Mds W ∧ Bk9 W br) ⟨B, hD, hR⟩ ?_
  clear B hD hR
  rintro W ⟨B, hD, hR⟩
  clear w1
  with_reducible refine (CPH.out _ hD).mono ?_
  rintro e w1 ⟨rfl, hb⟩
  replace B := B.trans (hb.mono B.size)
  replace hR := hR.keep hb
  clear hb W hD CPH
  have gR := hR.cells; have fR := hR.free
  go_wp2
  simp [bodyPost, results, Tryz.results10, go_sem, gR]
  repeat (first | with_reducible exact B | with_reducible refine Below.setCell ?_ o3 _)

theorem cmulg_any {k x' y' : Int} {j : Bool} (hk : Num k) (hj : Vd x' y' j) (ej : ptOf x' y' j = EC.smul k.toNat EC.gJ.pt) (w : World) (hm : Mds w) (hc : Cols w) :
    Calls Tryz.prog 10 #[.agg #[.int .u64 (l0 k), .int .u64 (l1 k), .int .u64 (l2 k), .int .u64 (l3 k)]] w fun e w' => e = .returned (.agg #[.int .u64 (l0 x'), .int .u64 (l1 x'), .int .u64 (l2 x'), .int .u64 (l3 x'), .int .u64 (l0 y'), .int .u64 (l1 y'), .int .u64 (l2 y'), .int .u64 (l3 y'), .bool j]) ∧ Below w.heap.size w w' := by
  obtain ⟨z0, z1, z2, z3⟩ := zero_limbs
  have CB := fun w hm hc => (cblend_any (b := 0) (x := 0) (y := 0) (i := true) hk ⟨by decide, by decide⟩ ⟨rfl, rfl⟩).out w hm hc
  simp only [z0, z1, z2, z3] at CB
  exact cmulg_walk CB ⟨hj, by rw [ej]; exact (EC.add_o _).symm⟩ w hm hc
end Go.Proofs.YtncpjgpioajbeaaGreatDoor
