import Derived.Test.YtncpjgpioajbeaaGreatDoorCRMul
import Derived.Test.YtncpjgpioajbeaaGreatDoorCRep
import Derived.Test.YtncpjgpioajbeaaGreatDoorQAlloc
namespace Go.Proofs.YtncpjgpioajbeaaGreatDoor
open Go.RowKit Go.Sort

set_option maxHeartbeats 2000000 in
theorem r5g_any (w : World) : Calls Tryz.prog 124 #[] w fun e w' => e = .returned (.agg #[.int .u64 (l0 gX), .int .u64 (l1 gX), .int .u64 (l2 gX), .int .u64 (l3 gX), .int .u64 (l0 gY), .int .u64 (l1 gY), .int .u64 (l2 gY), .int .u64 (l3 gY), .bool false]) ∧ Below w.heap.size w w' := by
  obtain ⟨r0, r1, r2, r3, r4, r5, r6, r7⟩ := g_limbs
  rw [r0, r1, r2, r3, r4, r5, r6, r7]
  clear r0 r1 r2 r3 r4 r5 r6 r7
  go_enter Tryz.func124, Tryz.ntmps124
  go_wp2
  simp [bodyPost, results, Tryz.results124, go_sem]
  repeat (first | with_reducible exact Below.refl _ _ | with_reducible refine Below.alloc ?_ (by first | omega | (simp; done) | (simp; omega)) _ | with_reducible refine Below.setCell ?_ (by first | omega | (simp; done) | (simp; omega)) _)
set_option maxRecDepth 100000 in
set_option maxHeartbeats 8000000 in
theorem r5mulg_walk {b x' y' : Int} {j : Bool} {t : T3} (CG : Hid (∀ w, Calls Tryz.prog 124 #[] w fun e w' => e = .returned (.agg #[.int .u64 (l0 gX), .int .u64 (l1 gX), .int .u64 (l2 gX), .int .u64 (l3 gX), .int .u64 (l0 gY), .int .u64 (l1 gY), .int .u64 (l2 gY), .int .u64 (l3 gY), .bool false]) ∧ Below w.heap.size w w')) (C2 : Hid (∀ w, Calls Tryz.prog 123 #[.agg #[.int .u64 (l0 b), .int .u64 (l1 b), .int .u64 (l2 b), .int .u64 (l3 b)], .agg #[.int .u64 (l0 gX), .int .u64 (l1 gX), .int .u64 (l2 gX), .int .u64 (l3 gX), .int .u64 (l0 gY), .int .u64 (l1 gY), .int .u64 (l2 gY), .int .u64 (l3 gY), .bool false]] w fun e w' => e = .returned (.agg #[.int .u64 (l0 t.x), .int .u64 (l1 t.x), .int .u64 (l2 t.x), .int .u64 (l3 t.x), .int .u64 (l0 t.y), .int .u64 (l1 t.y), .int .u64 (l2 t.y), .int .u64 (l3 t.y), .int .u64 (l0 t.z), .int .u64 (l1 t.z), .int .u64 (l2 t.z), .int .u64 (l3 t.z)]) ∧ Below w.heap.size w w')) (C4 : Hid (∀ w, Calls Tryz.prog 122 #[.agg #[.int .u64 (l0 t.x), .int .u64 (l1 t.x), .int .u64 (l2 t.x), .int .u64 (l3 t.x), .int .u64 (l0 t.y), .int .u64 (l1 t.y), .int .u64 (l2 t.y), .int .u64 (l3 t.y), .int .u64 (l0 t.z), .int .u64 (l1 t.z), .int .u64 (l2 t.z), .int .u64 (l3 t.z)]] w fun e w' => e = .returned (.agg #[.int .u64 (l0 x'), .int .u64 (l1 x'), .int .u64 (l2 x'), .int .u64 (l3 x'), .int .u64 (l0 y'), .int .u64 (l1 y'), .int .u64 (l2 y'), .int .u64 (l3 y'), .bool j]) ∧ Below w.heap.size w w')) (w : World) :
    Calls Tryz.prog 99 #[.agg #[.int .u64 (l0 b), .int .u64 (l1 b), .int .u64 (l2 b), .int .u64 (l3 b)]] w fun e w' => e = .returned (.agg #[.int .u64 (l0 x'), .int .u64 (l1 x'), .int .u64 (l2 x'), .int .u64 (l3 x'), .int .u64 (l0 y'), .int .u64 (l1 y'), .int .u64 (l2 y'), .int .u64 (l3 y'), .bool j]) ∧ Below w.heap.size w w' := by
  go_enter Tryz.func99, Tryz.ntmps99
  go_wp2_with fail
  refine wp_world (fun W => Below w.heap.size w W ∧ Nm W w.heap.size b ∧ Bk9 W (w.heap.size + 1)) ⟨by repeat (first | with_reducible exact Below.refl _ _ | with_reducible refine Below.alloc ?_ (by first | omega | (simp; done) | (simp; omega)) _), Nm.alloc (Cl.new _ rfl rfl) _, Bk9.new (by simp)⟩ ?_
  rintro W ⟨B, hB, hR⟩
  have o3 : w.heap.size ≤ w.heap.size + 1 := by omega
  generalize w.heap.size + 1 = br at *
  have ghB := hB.grown
  refine below_tail 4 (by kernel_rfl) (by kernel_rfl) ?_
  simp only [List.take_succ_cons, List.take_zero, List.drop_succ_cons, List.drop_zero]
  repeat
    first
      | go_big_quiet_skip
      | (go_big_quiet_want; go_big_quiet_op; go_big_quiet_on)
      | (go_big_quiet_want
         go_big_quiet_op
         apply Exists.intro
         refine ⟨fun p => ?_, ?_⟩
         · (first | (go_at_call 124; with_reducible exact Calls.regrown_of (CG.out _)) | (go_at_call 123; with_reducible exact Calls.regrown_of (C2.out _)) | (go_at_call 122; with_reducible exact Calls.regrown_of (C4.out _)))
         go_big_quiet_on)
  refine wpQuiet_nil ?_
  rintro w1 ⟨p, rfl⟩
  have hb := below_regrown W p.d p.os
  generalize grow (redrawn W p.d) p.os = w1 at *
  replace B := B.trans (hb.mono B.size)
  replace hB := hB.keep hb; replace hR := hR.keep hb
  clear hb W ghB 
  clear hB
  have gR := hR.cells; have fR := hR.free
  go_wp2
  simp [bodyPost, results, Tryz.results99, go_sem, gR]
  repeat (first | with_reducible exact B | with_reducible refine Below.setCell ?_ o3 _)

theorem gX_pt : ptOf gX gY false = EC.gJ.pt := by
  rw [EC.gJ_pt]
  show EC.Pt.a (EC.fp gX) (EC.fp gY) = _
  rw [show EC.fp gX = EC.gJ.x by decide +kernel, show EC.fp gY = EC.gJ.y by decide +kernel]
theorem r5point_vd {t : T3} (hl : t.Low) {x' y' : Int} {j : Bool} (hj : Vd x' y' j) (ej : ptOf x' y' j = t.j.pt) : Hid (∀ w, Calls Tryz.prog 122 #[.agg #[.int .u64 (l0 t.x), .int .u64 (l1 t.x), .int .u64 (l2 t.x), .int .u64 (l3 t.x), .int .u64 (l0 t.y), .int .u64 (l1 t.y), .int .u64 (l2 t.y), .int .u64 (l3 t.y), .int .u64 (l0 t.z), .int .u64 (l1 t.z), .int .u64 (l2 t.z), .int .u64 (l3 t.z)]] w fun e w' => e = .returned (.agg #[.int .u64 (l0 x'), .int .u64 (l1 x'), .int .u64 (l2 x'), .int .u64 (l3 x'), .int .u64 (l0 y'), .int .u64 (l1 y'), .int .u64 (l2 y'), .int .u64 (l3 y'), .bool j]) ∧ Below w.heap.size w w') := by
  obtain ⟨px, py, pi, u1, u2, u3, u4, CP⟩ := r5point_J hl.1 hl.2.1 hl.2.2
  have e : ptOf px py pi = ptOf x' y' j := by rw [u4, ej]; rfl
  have hvd : Vd px py pi := by
    have hon : EC.On (ptOf px py pi) := by rw [e]; exact hj.on
    cases pi with
    | true => exact u3 rfl
    | false => exact ⟨u1, u2, hon⟩
  obtain ⟨rfl, rfl, rfl⟩ := hvd.inj hj e
  exact CP
theorem r5mulg_any {b x' y' : Int} {j : Bool} (hb : Num b) (hj : Vd x' y' j) (ej : ptOf x' y' j = EC.smul b.toNat EC.gJ.pt) (w : World) :
    Calls Tryz.prog 99 #[.agg #[.int .u64 (l0 b), .int .u64 (l1 b), .int .u64 (l2 b), .int .u64 (l3 b)]] w fun e w' => e = .returned (.agg #[.int .u64 (l0 x'), .int .u64 (l1 x'), .int .u64 (l2 x'), .int .u64 (l3 x'), .int .u64 (l0 y'), .int .u64 (l1 y'), .int .u64 (l2 y'), .int .u64 (l3 y'), .bool j]) ∧ Below w.heap.size w w' := by
  obtain ⟨t, lt, et, Ct⟩ := r5multiple_any hb g_valid
  exact r5mulg_walk (fun w => r5g_any w) Ct (r5point_vd lt hj (by rw [ej, et, gX_pt])) w
end Go.Proofs.YtncpjgpioajbeaaGreatDoor
