import Derived.Test.YtncpjgpioajbeaaGreatDoorR6N
import Derived.Test.YtncpjgpioajbeaaGreatDoorESWA
import Derived.Test.YtncpjgpioajbeaaGreatDoorERec
namespace Go.Proofs.YtncpjgpioajbeaaGreatDoor
open Go.RowKit Go.Sort

theorem Bk9.put4 {W : World} {b b' : Nat} {n : Int} (h : Bk9 W b) (ne : b' ≠ b) : Bk9 (Go.Proofs.YtncpjgpioajbeaaGreatDoor.put4 W b' n) b := by
  unfold Go.Proofs.YtncpjgpioajbeaaGreatDoor.put4
  exact h.set4 ne _ _ _ _
/-- A signature in a block that may be written. -/
def Pvr (W : World) (b : Nat) (x y : Int) (i : Bool) : Prop := Pnt W b x y i ∧ Loose W b 9
theorem Pvr.lt {W : World} {b : Nat} {x y : Int} {i : Bool} (h : Pvr W b x y i) : b < W.heap.size := h.1.lt
theorem Pvr.keep {W w1 : World} {b : Nat} {x y : Int} {i : Bool} (h : Pvr W b x y i) (hb : Below W.heap.size W w1) : Pvr w1 b x y i := ⟨h.1.keep hb, h.2.keep hb h.lt⟩
theorem Pvr.put4 {W : World} {b b' : Nat} {x y n : Int} {i : Bool} (h : Pvr W b x y i) (ne : b' ≠ b) : Pvr (Go.Proofs.YtncpjgpioajbeaaGreatDoor.put4 W b' n) b x y i := ⟨h.1.put4 ne, by
  unfold Go.Proofs.YtncpjgpioajbeaaGreatDoor.put4
  exact (((h.2.set _ _).set _ _).set _ _).set _ _⟩
theorem Pvr.new {W : World} {b : Nat} {t : TypeId} {x y : Int} {i : Bool} (e : b = W.heap.size) : Pvr (W.alloc (.cells #[.int .u64 (l0 x), .int .u64 (l1 x), .int .u64 (l2 x), .int .u64 (l3 x), .int .u64 (l0 y), .int .u64 (l1 y), .int .u64 (l2 y), .int .u64 (l3 y), .bool i] t)) b x y i := ⟨Pnt.new e, loose_new (by simp [e])⟩

set_option maxRecDepth 100000 in
set_option maxHeartbeats 8000000 in
theorem r6tb_key0 {key non : Int} {A : List Int} {vb : Bool} (hl : A.length = 32) (F1 : Hid (∀ w, Calls Tryz.prog 31 #[.agg #[.int .u64 (l0 key), .int .u64 (l1 key), .int .u64 (l2 key), .int .u64 (l3 key)]] w fun e w' => e = .returned (.bool false) ∧ Below w.heap.size w w')) (F2 : Hid (∀ w, Calls Tryz.prog 31 #[.agg #[.int .u64 (l0 non), .int .u64 (l1 non), .int .u64 (l2 non), .int .u64 (l3 non)]] w fun e w' => e = .returned (.bool vb) ∧ Below w.heap.size w w')) (w : World) :
    Calls Tryz.prog 68 #[.agg #[.int .u64 (l0 key), .int .u64 (l1 key), .int .u64 (l2 key), .int .u64 (l3 key)], .agg #[.int .u64 (l0 non), .int .u64 (l1 non), .int .u64 (l2 non), .int .u64 (l3 non)], hashV A] w fun e w' => e = .returned (.tuple #[.agg #[.int .u64 (l0 0), .int .u64 (l1 0), .int .u64 (l2 0), .int .u64 (l3 0), .int .u64 (l0 0), .int .u64 (l1 0), .int .u64 (l2 0), .int .u64 (l3 0), .bool false], .int .i64 60]) ∧ Below w.heap.size w w' := by
  obtain ⟨z0, z1, z2, z3⟩ := zero_limbs
  rw [z0, z1, z2, z3]
  clear z0 z1 z2 z3
  unfold hashV at *
  go_enter Tryz.func68, Tryz.ntmps68
  go_wp2_with fail
  refine calls_world (fun W => Below w.heap.size w W ∧ Nm W w.heap.size key ∧ Nm W (w.heap.size + 1) non ∧ HAt W (w.heap.size + 1 + 1) A ∧ Bk9 W (w.heap.size + 1 + 1 + 1)) ⟨by repeat (first | with_reducible exact Below.refl _ _ | with_reducible refine Below.alloc ?_ (by first | omega | (simp; done) | (simp; omega)) _), ((Nm.alloc (Cl.new _ rfl rfl) _).alloc _).alloc _, (Nm.alloc (Cl.new _ (by simp) rfl) _).alloc _, (HAt.new hl (by simp)).alloc _, Bk9.new (by simp)⟩ ?_
  rintro W ⟨B, hK, hE, hY, hR⟩
  have o3 : w.heap.size ≤ w.heap.size + 1 + 1 + 1 := by omega
  generalize w.heap.size + 1 + 1 + 1 = br at *
  generalize w.heap.size + 1 + 1 = bd at *
  generalize w.heap.size + 1 = bn at *
  with_reducible refine (F1.out _).mono ?_
  rintro e w1 ⟨rfl, hb⟩
  replace B := B.trans (hb.mono B.size)
  replace hK := hK.keep hb; replace hE := hE.keep hb; replace hY := hY.keep hb; replace hR := hR.keep hb
  clear hb W
  have ghE := hE.cells
  go_wp2_with fail
  refine calls_world (fun W => Below w.heap.size w W ∧ Nm W w.heap.size key ∧ Nm W bn non ∧ HAt W bd A ∧ Bk9 W br) ⟨B, hK, hE, hY, hR⟩ ?_
  clear B hK hE hY hR ghE
  rintro W ⟨B, hK, hE, hY, hR⟩
  with_reducible refine (F2.out _).mono ?_
  rintro e w9 ⟨rfl, hb⟩
  replace B := B.trans (hb.mono B.size)
  replace hK := hK.keep hb; replace hE := hE.keep hb; replace hY := hY.keep hb; replace hR := hR.keep hb
  clear hb W hK hE hY
  have gR := hR.cells; have fR := hR.free
  go_wp2
  simp [bodyPost, results, Tryz.results68, go_sem, gR]
  repeat (first | with_reducible exact B | with_reducible refine Below.setCell ?_ o3 _)

set_option maxRecDepth 100000 in
set_option maxHeartbeats 8000000 in
theorem r6tb_key1 {key non : Int} {A : List Int} (hl : A.length = 32) (F1 : Hid (∀ w, Calls Tryz.prog 31 #[.agg #[.int .u64 (l0 key), .int .u64 (l1 key), .int .u64 (l2 key), .int .u64 (l3 key)]] w fun e w' => e = .returned (.bool true) ∧ Below w.heap.size w w')) (F2 : Hid (∀ w, Calls Tryz.prog 31 #[.agg #[.int .u64 (l0 non), .int .u64 (l1 non), .int .u64 (l2 non), .int .u64 (l3 non)]] w fun e w' => e = .returned (.bool false) ∧ Below w.heap.size w w')) (w : World) :
    Calls Tryz.prog 68 #[.agg #[.int .u64 (l0 key), .int .u64 (l1 key), .int .u64 (l2 key), .int .u64 (l3 key)], .agg #[.int .u64 (l0 non), .int .u64 (l1 non), .int .u64 (l2 non), .int .u64 (l3 non)], hashV A] w fun e w' => e = .returned (.tuple #[.agg #[.int .u64 (l0 0), .int .u64 (l1 0), .int .u64 (l2 0), .int .u64 (l3 0), .int .u64 (l0 0), .int .u64 (l1 0), .int .u64 (l2 0), .int .u64 (l3 0), .bool false], .int .i64 60]) ∧ Below w.heap.size w w' := by
  obtain ⟨z0, z1, z2, z3⟩ := zero_limbs
  rw [z0, z1, z2, z3]
  clear z0 z1 z2 z3
  unfold hashV at *
  go_enter Tryz.func68, Tryz.ntmps68
  go_wp2_with fail
  refine calls_world (fun W => Below w.heap.size w W ∧ Nm W w.heap.size key ∧ Nm W (w.heap.size + 1) non ∧ HAt W (w.heap.size + 1 + 1) A ∧ Bk9 W (w.heap.size + 1 + 1 + 1)) ⟨by repeat (first | with_reducible exact Below.refl _ _ | with_reducible refine Below.alloc ?_ (by first | omega | (simp; done) | (simp; omega)) _), ((Nm.alloc (Cl.new _ rfl rfl) _).alloc _).alloc _, (Nm.alloc (Cl.new _ (by simp) rfl) _).alloc _, (HAt.new hl (by simp)).alloc _, Bk9.new (by simp)⟩ ?_
  rintro W ⟨B, hK, hE, hY, hR⟩
  have o3 : w.heap.size ≤ w.heap.size + 1 + 1 + 1 := by omega
  generalize w.heap.size + 1 + 1 + 1 = br at *
  generalize w.heap.size + 1 + 1 = bd at *
  generalize w.heap.size + 1 = bn at *
  with_reducible refine (F1.out _).mono ?_
  rintro e w1 ⟨rfl, hb⟩
  replace B := B.trans (hb.mono B.size)
  replace hK := hK.keep hb; replace hE := hE.keep hb; replace hY := hY.keep hb; replace hR := hR.keep hb
  clear hb W
  have ghE := hE.cells
  go_wp2_with fail
  refine calls_world (fun W => Below w.heap.size w W ∧ Nm W w.heap.size key ∧ Nm W bn non ∧ HAt W bd A ∧ Bk9 W br) ⟨B, hK, hE, hY, hR⟩ ?_
  clear B hK hE hY hR ghE
  rintro W ⟨B, hK, hE, hY, hR⟩
  with_reducible refine (F2.out _).mono ?_
  rintro e w9 ⟨rfl, hb⟩
  replace B := B.trans (hb.mono B.size)
  replace hK := hK.keep hb; replace hE := hE.keep hb; replace hY := hY.keep hb; replace hR := hR.keep hb
  clear hb W hK hE hY
  have gR := hR.cells; have fR := hR.free
  go_wp2
  simp [bodyPost, results, Tryz.results68, go_sem, gR]
  repeat (first | with_reducible exact B | with_reducible refine Below.setCell ?_ o3 _)

set_option maxRecDepth 100000 in
set_option maxHeartbeats 8000000 in
theorem r6tb_x {key non X Y n q : Int} {j : Bool} {A : List Int} (hl : A.length = 32) (F1 : Hid (∀ w, Calls Tryz.prog 31 #[.agg #[.int .u64 (l0 key), .int .u64 (l1 key), .int .u64 (l2 key), .int .u64 (l3 key)]] w fun e w' => e = .returned (.bool true) ∧ Below w.heap.size w w')) (F2 : Hid (∀ w, Calls Tryz.prog 31 #[.agg #[.int .u64 (l0 non), .int .u64 (l1 non), .int .u64 (l2 non), .int .u64 (l3 non)]] w fun e w' => e = .returned (.bool true) ∧ Below w.heap.size w w')) (MG : Hid (∀ w, Calls Tryz.prog 99 #[.agg #[.int .u64 (l0 non), .int .u64 (l1 non), .int .u64 (l2 non), .int .u64 (l3 non)]] w fun e w' => e = .returned (.agg #[.int .u64 (l0 X), .int .u64 (l1 X), .int .u64 (l2 X), .int .u64 (l3 X), .int .u64 (l0 Y), .int .u64 (l1 Y), .int .u64 (l2 Y), .int .u64 (l3 Y), .bool j]) ∧ Below w.heap.size w w')) (OR : Hid (∀ w, Calls Tryz.prog 65 #[] w fun e w' => e = .returned (.agg #[.int .u64 (l0 n), .int .u64 (l1 n), .int .u64 (l2 n), .int .u64 (l3 n)]) ∧ Below w.heap.size w w')) (CP : Hid (∀ w, Calls Tryz.prog 64 #[.agg #[.int .u64 (l0 X), .int .u64 (l1 X), .int .u64 (l2 X), .int .u64 (l3 X)], .agg #[.int .u64 (l0 n), .int .u64 (l1 n), .int .u64 (l2 n), .int .u64 (l3 n)]] w fun e w' => e = .returned (.int .i64 q) ∧ Below w.heap.size w w')) (hq : decide (0 ≤ q) = true) (w : World) :
    Calls Tryz.prog 68 #[.agg #[.int .u64 (l0 key), .int .u64 (l1 key), .int .u64 (l2 key), .int .u64 (l3 key)], .agg #[.int .u64 (l0 non), .int .u64 (l1 non), .int .u64 (l2 non), .int .u64 (l3 non)], hashV A] w fun e w' => e = .returned (.tuple #[.agg #[.int .u64 (l0 0), .int .u64 (l1 0), .int .u64 (l2 0), .int .u64 (l3 0), .int .u64 (l0 0), .int .u64 (l1 0), .int .u64 (l2 0), .int .u64 (l3 0), .bool false], .int .i64 64]) ∧ Below w.heap.size w w' := by
  obtain ⟨z0, z1, z2, z3⟩ := zero_limbs
  rw [z0, z1, z2, z3]
  clear z0 z1 z2 z3
  unfold hashV at *
  go_enter Tryz.func68, Tryz.ntmps68
  go_wp2_with fail
  refine calls_world (fun W => Below w.heap.size w W ∧ Nm W w.heap.size key ∧ Nm W (w.heap.size + 1) non ∧ HAt W (w.heap.size + 1 + 1) A ∧ Bk9 W (w.heap.size + 1 + 1 + 1)) ⟨by repeat (first | with_reducible exact Below.refl _ _ | with_reducible refine Below.alloc ?_ (by first | omega | (simp; done) | (simp; omega)) _), ((Nm.alloc (Cl.new _ rfl rfl) _).alloc _).alloc _, (Nm.alloc (Cl.new _ (by simp) rfl) _).alloc _, (HAt.new hl (by simp)).alloc _, Bk9.new (by simp)⟩ ?_
  rintro W ⟨B, hK, hE, hY, hR⟩
  have o3 : w.heap.size ≤ w.heap.size + 1 + 1 + 1 := by omega
  generalize w.heap.size + 1 + 1 + 1 = br at *
  generalize w.heap.size + 1 + 1 = bd at *
  generalize w.heap.size + 1 = bn at *
  with_reducible refine (F1.out _).mono ?_
  rintro e w1 ⟨rfl, hb⟩
  replace B := B.trans (hb.mono B.size)
  replace hK := hK.keep hb; replace hE := hE.keep hb; replace hY := hY.keep hb; replace hR := hR.keep hb
  clear hb W
  have ghE := hE.cells
  go_wp2_with fail
  refine calls_world (fun W => Below w.heap.size w W ∧ Nm W w.heap.size key ∧ Nm W bn non ∧ HAt W bd A ∧ Bk9 W br) ⟨B, hK, hE, hY, hR⟩ ?_
  clear B hK hE hY hR ghE
  rintro W ⟨B, hK, hE, hY, hR⟩
  with_reducible refine (F2.out _).mono ?_
  rintro e w2 ⟨rfl, hb⟩
  replace B := B.trans (hb.mono B.size)
  replace hK := hK.keep hb; replace hE := hE.keep hb; replace hY := hY.keep hb; replace hR := hR.keep hb
  clear hb W
  have ghE := hE.cells
  go_wp2_with fail
  refine calls_world (fun W => Below w.heap.size w W ∧ Nm W w.heap.size key ∧ Nm W bn non ∧ HAt W bd A ∧ Bk9 W br) ⟨B, hK, hE, hY, hR⟩ ?_
  clear B hK hE hY hR ghE
  rintro W ⟨B, hK, hE, hY, hR⟩
  with_reducible refine (MG.out _).mono ?_
  rintro e w3 ⟨rfl, hb⟩
  replace B := B.trans (hb.mono B.size)
  replace hK := hK.keep hb; replace hE := hE.keep hb; replace hY := hY.keep hb; replace hR := hR.keep hb
  clear hb W
  go_wp2_with fail
  refine wp_world (fun W => Below w.heap.size w W ∧ Nm W w.heap.size key ∧ Nm W bn non ∧ HAt W bd A ∧ Bk9 W br ∧ Pnt W w3.heap.size X Y j) ⟨B.alloc B.size _, hK.alloc _, hE.alloc _, hY.alloc _, hR.alloc _, Pnt.new rfl⟩ ?_
  clear B hK hE hY hR 
  rintro W ⟨B, hK, hE, hY, hR, hP⟩
  generalize w3.heap.size = bp at *
  have ghP := hP.grown
  refine wp_region_quiet_below (by kernel_rfl) (by kernel_rfl) ?_
  repeat
    first
      | go_big_quiet_skip
      | (go_big_quiet_want; go_big_quiet_op; go_big_quiet_on)
      | (go_big_quiet_want
         go_big_quiet_op
         apply Exists.intro
         refine ⟨fun p => ?_, ?_⟩
         · (first | (go_at_call 65; with_reducible exact Calls.regrown_of (OR.out _)) | (go_at_call 64; with_reducible exact Calls.regrown_of (CP.out _)))
         go_big_quiet_on)
  refine wpQuiet_nil ?_
  rintro w4 ⟨p, rfl⟩
  have hb := below_regrown W p.d p.os
  generalize grow (redrawn W p.d) p.os = w4 at *
  replace B := B.trans (hb.mono B.size)
  replace hK := hK.keep hb; replace hE := hE.keep hb; replace hY := hY.keep hb; replace hR := hR.keep hb; replace hP := hP.keep hb
  clear hb W ghP 
  clear hK hE hY hP
  have gR := hR.cells; have fR := hR.free
  go_wp2
  simp [bodyPost, results, Tryz.results68, go_sem, gR]
  repeat (first | with_reducible exact B | with_reducible refine Below.setCell ?_ o3 _)

set_option maxRecDepth 100000 in
set_option maxHeartbeats 8000000 in
theorem r6tb_z1 {key non X Y n q dg a b v s : Int} {j : Bool} {A : List Int} (hl : A.length = 32) (F1 : Hid (∀ w, Calls Tryz.prog 31 #[.agg #[.int .u64 (l0 key), .int .u64 (l1 key), .int .u64 (l2 key), .int .u64 (l3 key)]] w fun e w' => e = .returned (.bool true) ∧ Below w.heap.size w w')) (F2 : Hid (∀ w, Calls Tryz.prog 31 #[.agg #[.int .u64 (l0 non), .int .u64 (l1 non), .int .u64 (l2 non), .int .u64 (l3 non)]] w fun e w' => e = .returned (.bool true) ∧ Below w.heap.size w w')) (MG : Hid (∀ w, Calls Tryz.prog 99 #[.agg #[.int .u64 (l0 non), .int .u64 (l1 non), .int .u64 (l2 non), .int .u64 (l3 non)]] w fun e w' => e = .returned (.agg #[.int .u64 (l0 X), .int .u64 (l1 X), .int .u64 (l2 X), .int .u64 (l3 X), .int .u64 (l0 Y), .int .u64 (l1 Y), .int .u64 (l2 Y), .int .u64 (l3 Y), .bool j]) ∧ Below w.heap.size w w')) (OR : Hid (∀ w, Calls Tryz.prog 65 #[] w fun e w' => e = .returned (.agg #[.int .u64 (l0 n), .int .u64 (l1 n), .int .u64 (l2 n), .int .u64 (l3 n)]) ∧ Below w.heap.size w w')) (CP : Hid (∀ w, Calls Tryz.prog 64 #[.agg #[.int .u64 (l0 X), .int .u64 (l1 X), .int .u64 (l2 X), .int .u64 (l3 X)], .agg #[.int .u64 (l0 n), .int .u64 (l1 n), .int .u64 (l2 n), .int .u64 (l3 n)]] w fun e w' => e = .returned (.int .i64 q) ∧ Below w.heap.size w w')) (hq : decide (0 ≤ q) = false) (CN : Hid (∀ w, Calls Tryz.prog 96 #[.agg ((A.map fun z => Value.int .u8 z).toArray)] w fun e w' => e = .returned (.agg #[.int .u64 (l0 dg), .int .u64 (l1 dg), .int .u64 (l2 dg), .int .u64 (l3 dg)]) ∧ Below w.heap.size w w')) (A1 : Hid (∀ w, Calls Tryz.prog 100 #[.agg #[.int .u64 (l0 X), .int .u64 (l1 X), .int .u64 (l2 X), .int .u64 (l3 X)], .agg #[.int .u64 (l0 key), .int .u64 (l1 key), .int .u64 (l2 key), .int .u64 (l3 key)]] w fun e w' => e = .returned (.agg #[.int .u64 (l0 a), .int .u64 (l1 a), .int .u64 (l2 a), .int .u64 (l3 a)]) ∧ Below w.heap.size w w')) (A2 : Hid (∀ w, Calls Tryz.prog 101 #[.agg #[.int .u64 (l0 dg), .int .u64 (l1 dg), .int .u64 (l2 dg), .int .u64 (l3 dg)], .agg #[.int .u64 (l0 a), .int .u64 (l1 a), .int .u64 (l2 a), .int .u64 (l3 a)]] w fun e w' => e = .returned (.agg #[.int .u64 (l0 b), .int .u64 (l1 b), .int .u64 (l2 b), .int .u64 (l3 b)]) ∧ Below w.heap.size w w')) (A3 : Hid (∀ w, Calls Tryz.prog 102 #[.agg #[.int .u64 (l0 non), .int .u64 (l1 non), .int .u64 (l2 non), .int .u64 (l3 non)]] w fun e w' => e = .returned (.agg #[.int .u64 (l0 v), .int .u64 (l1 v), .int .u64 (l2 v), .int .u64 (l3 v)]) ∧ Below w.heap.size w w')) (A4 : Hid (∀ w, Calls Tryz.prog 100 #[.agg #[.int .u64 (l0 b), .int .u64 (l1 b), .int .u64 (l2 b), .int .u64 (l3 b)], .agg #[.int .u64 (l0 v), .int .u64 (l1 v), .int .u64 (l2 v), .int .u64 (l3 v)]] w fun e w' => e = .returned (.agg #[.int .u64 (l0 s), .int .u64 (l1 s), .int .u64 (l2 s), .int .u64 (l3 s)]) ∧ Below w.heap.size w w')) (E1 : ∀ w, (Op.equalIn 10000 24 (.agg #[.int .u64 (l0 X), .int .u64 (l1 X), .int .u64 (l2 X), .int .u64 (l3 X)]) (.agg #[.int .u64 0, .int .u64 0, .int .u64 0, .int .u64 0])).run Tryz.prog w = .ok true w) (w : World) :
    Calls Tryz.prog 68 #[.agg #[.int .u64 (l0 key), .int .u64 (l1 key), .int .u64 (l2 key), .int .u64 (l3 key)], .agg #[.int .u64 (l0 non), .int .u64 (l1 non), .int .u64 (l2 non), .int .u64 (l3 non)], hashV A] w fun e w' => e = .returned (.tuple #[.agg #[.int .u64 (l0 0), .int .u64 (l1 0), .int .u64 (l2 0), .int .u64 (l3 0), .int .u64 (l0 0), .int .u64 (l1 0), .int .u64 (l2 0), .int .u64 (l3 0), .bool false], .int .i64 65]) ∧ Below w.heap.size w w' := by
  obtain ⟨z0, z1, z2, z3⟩ := zero_limbs
  rw [z0, z1, z2, z3]
  clear z0 z1 z2 z3
  unfold hashV at *
  go_enter Tryz.func68, Tryz.ntmps68
  go_wp2_with fail
  refine calls_world (fun W => Below w.heap.size w W ∧ Nm W w.heap.size key ∧ Nm W (w.heap.size + 1) non ∧ HAt W (w.heap.size + 1 + 1) A ∧ Bk9 W (w.heap.size + 1 + 1 + 1)) ⟨by repeat (first | with_reducible exact Below.refl _ _ | with_reducible refine Below.alloc ?_ (by first | omega | (simp; done) | (simp; omega)) _), ((Nm.alloc (Cl.new _ rfl rfl) _).alloc _).alloc _, (Nm.alloc (Cl.new _ (by simp) rfl) _).alloc _, (HAt.new hl (by simp)).alloc _, Bk9.new (by simp)⟩ ?_
  rintro W ⟨B, hK, hE, hY, hR⟩
  have o3 : w.heap.size ≤ w.heap.size + 1 + 1 + 1 := by omega
  generalize w.heap.size + 1 + 1 + 1 = br at *
  generalize w.heap.size + 1 + 1 = bd at *
  generalize w.heap.size + 1 = bn at *
  with_reducible refine (F1.out _).mono ?_
  rintro e w1 ⟨rfl, hb⟩
  replace B := B.trans (hb.mono B.size)
  replace hK := hK.keep hb; replace hE := hE.keep hb; replace hY := hY.keep hb; replace hR := hR.keep hb
  clear hb W
  have ghE := hE.cells
  go_wp2_with fail
  refine calls_world (fun W => Below w.heap.size w W ∧ Nm W w.heap.size key ∧ Nm W bn non ∧ HAt W bd A ∧ Bk9 W br) ⟨B, hK, hE, hY, hR⟩ ?_
  clear B hK hE hY hR ghE
  rintro W ⟨B, hK, hE, hY, hR⟩
  with_reducible refine (F2.out _).mono ?_
  rintro e w2 ⟨rfl, hb⟩
  replace B := B.trans (hb.mono B.size)
  replace hK := hK.keep hb; replace hE := hE.keep hb; replace hY := hY.keep hb; replace hR := hR.keep hb
  clear hb W
  have ghE := hE.cells
  go_wp2_with fail
  refine calls_world (fun W => Below w.heap.size w W ∧ Nm W w.heap.size key ∧ Nm W bn non ∧ HAt W bd A ∧ Bk9 W br) ⟨B, hK, hE, hY, hR⟩ ?_
  clear B hK hE hY hR ghE
  rintro W ⟨B, hK, hE, hY, hR⟩
  with_reducible refine (MG.out _).mono ?_
  rintro e w3 ⟨rfl, hb⟩
  replace B := B.trans (hb.mono B.size)
  replace hK := hK.keep hb; replace hE := hE.keep hb; replace hY := hY.keep hb; replace hR := hR.keep hb
  clear hb W
  go_wp2_with fail
  refine wp_world (fun W => Below w.heap.size w W ∧ Nm W w.heap.size key ∧ Nm W bn non ∧ HAt W bd A ∧ Bk9 W br ∧ Pnt W w3.heap.size X Y j) ⟨B.alloc B.size _, hK.alloc _, hE.alloc _, hY.alloc _, hR.alloc _, Pnt.new rfl⟩ ?_
  clear B hK hE hY hR 
  rintro W ⟨B, hK, hE, hY, hR, hP⟩
  generalize w3.heap.size = bp at *
  have ghP := hP.grown
  refine wp_region_quiet_below (by kernel_rfl) (by kernel_rfl) ?_
  repeat
    first
      | go_big_quiet_skip
      | (go_big_quiet_want; go_big_quiet_op; go_big_quiet_on)
      | (go_big_quiet_want
         go_big_quiet_op
         apply Exists.intro
         refine ⟨fun p => ?_, ?_⟩
         · (first | (go_at_call 65; with_reducible exact Calls.regrown_of (OR.out _)) | (go_at_call 64; with_reducible exact Calls.regrown_of (CP.out _)))
         go_big_quiet_on)
  refine wpQuiet_nil ?_
  rintro w4 ⟨p, rfl⟩
  have hb := below_regrown W p.d p.os
  generalize grow (redrawn W p.d) p.os = w4 at *
  replace B := B.trans (hb.mono B.size)
  replace hK := hK.keep hb; replace hE := hE.keep hb; replace hY := hY.keep hb; replace hR := hR.keep hb; replace hP := hP.keep hb
  clear hb W ghP 
  have ra := hY.2
  go_wp2_with (refine wpList_load_mid rfl 26 _ rfl bd 0 rfl (A.map fun z => Value.int .u8 z) _ ra Tryz.underlying26 rfl (by rw [List.length_map, hl]; kernel_rfl) ?_)
  clear ra
  refine calls_world (fun W => Below w.heap.size w W ∧ Nm W w.heap.size key ∧ Nm W bn non ∧ HAt W bd A ∧ Bk9 W br ∧ Pnt W bp X Y j) ⟨B, hK, hE, hY, hR, hP⟩ ?_
  clear B hK hE hY hR hP
  rintro W ⟨B, hK, hE, hY, hR, hP⟩
  clear w4
  with_reducible refine (CN.out _).mono ?_
  rintro e w5 ⟨rfl, hb⟩
  replace B := B.trans (hb.mono B.size)
  replace hK := hK.keep hb; replace hE := hE.keep hb; replace hY := hY.keep hb; replace hR := hR.keep hb; replace hP := hP.keep hb
  clear hb W
  go_wp2_with fail
  refine wp_world (fun W => Below w.heap.size w W ∧ Nm W w.heap.size key ∧ Nm W bn non ∧ HAt W bd A ∧ Bk9 W br ∧ Pnt W bp X Y j ∧ Nm W w5.heap.size dg) ⟨B.alloc B.size _, hK.alloc _, hE.alloc _, hY.alloc _, hR.alloc _, hP.alloc _, Nm.new rfl⟩ ?_
  clear B hK hE hY hR hP 
  rintro W ⟨B, hK, hE, hY, hR, hP, hG⟩
  generalize w5.heap.size = bg at *
  clear hY
  refine alloc_tail (A := ?AA1) 9 (by kernel_rfl) (by kernel_rfl) rfl rfl (alloc_num _ _ _) (fun V hV => ?HH1) (fun V w1 hV hw => ?TT1)
  case HH1 =>
    have ghK := (hK.keep hV).grown
    have ghE := (hE.keep hV).grown
    have ghP := (hP.keep hV).grown
    have ghG := (hG.keep hV).grown
    unfold Gr
    simp only [List.take_succ_cons, List.take_zero]
    repeat
      first
        | go_big_quiet_skip
        | (go_big_quiet_want; go_big_quiet_op; go_big_quiet_on)
        | (go_big_quiet_want
           go_big_quiet_op
           apply Exists.intro
           refine ⟨fun p => ?_, ?_⟩
           · (first | (go_at_call 100; with_reducible exact Calls.regrown_of (A1.out _)) | (go_at_call 101; with_reducible exact Calls.regrown_of (A2.out _)) | (go_at_call 102; with_reducible exact Calls.regrown_of (A3.out _)) | (go_at_call 100; with_reducible exact Calls.regrown_of (A4.out _)))
           go_big_quiet_on)
    refine wpQuiet_nil ?_
    exact rfl
  case TT1 =>
    have hb := alloc_below hV hw
    have hN := (Blank.new rfl).keep hw
    have nhK : V.heap.size ≠ w.heap.size := Nat.ne_of_gt (Nat.lt_of_lt_of_le hK.lt hV.size)
    have nhE : V.heap.size ≠ bn := Nat.ne_of_gt (Nat.lt_of_lt_of_le hE.lt hV.size)
    have nhR : V.heap.size ≠ br := Nat.ne_of_gt (Nat.lt_of_lt_of_le hR.lt hV.size)
    have nhP : V.heap.size ≠ bp := Nat.ne_of_gt (Nat.lt_of_lt_of_le hP.lt hV.size)
    have nhG : V.heap.size ≠ bg := Nat.ne_of_gt (Nat.lt_of_lt_of_le hG.lt hV.size)
    have gn : w.heap.size ≤ V.heap.size := Nat.le_trans B.size hV.size
    replace B := B.trans (hb.mono B.size)
    replace hK := hK.keep hb; replace hE := hE.keep hb; replace hR := hR.keep hb; replace hP := hP.keep hb; replace hG := hG.keep hb
    clear hb hw hV W
    generalize V.heap.size = bs at *
    clear V
    have gN := hN.1.all4; have qN := hN.2.all4
    have ghP := hP.cells
    have mhK := nhK.symm
    have mhE := nhE.symm
    have mhR := nhR.symm
    have mhP := nhP.symm
    have mhG := nhG.symm
    simp only [List.drop_succ_cons, List.drop_zero, Act.put, List.setIfInBounds_toArray, List.set_cons_zero, List.set_cons_succ]
    have gR := hR.cells; have fR := hR.free
    have BB : Hid (Below w.heap.size w w1) := B
    clear B
    go_wp2
    simp [bodyPost, results, Tryz.results68, go_sem, *]
    repeat (first | with_reducible exact BB.out | with_reducible refine Below.setCell ?_ o3 _ | with_reducible refine Below.setCell ?_ gn _)

set_option maxRecDepth 100000 in
set_option maxHeartbeats 8000000 in
theorem r6tb_z2 {key non X Y n q dg a b v s : Int} {j : Bool} {A : List Int} (hl : A.length = 32) (F1 : Hid (∀ w, Calls Tryz.prog 31 #[.agg #[.int .u64 (l0 key), .int .u64 (l1 key), .int .u64 (l2 key), .int .u64 (l3 key)]] w fun e w' => e = .returned (.bool true) ∧ Below w.heap.size w w')) (F2 : Hid (∀ w, Calls Tryz.prog 31 #[.agg #[.int .u64 (l0 non), .int .u64 (l1 non), .int .u64 (l2 non), .int .u64 (l3 non)]] w fun e w' => e = .returned (.bool true) ∧ Below w.heap.size w w')) (MG : Hid (∀ w, Calls Tryz.prog 99 #[.agg #[.int .u64 (l0 non), .int .u64 (l1 non), .int .u64 (l2 non), .int .u64 (l3 non)]] w fun e w' => e = .returned (.agg #[.int .u64 (l0 X), .int .u64 (l1 X), .int .u64 (l2 X), .int .u64 (l3 X), .int .u64 (l0 Y), .int .u64 (l1 Y), .int .u64 (l2 Y), .int .u64 (l3 Y), .bool j]) ∧ Below w.heap.size w w')) (OR : Hid (∀ w, Calls Tryz.prog 65 #[] w fun e w' => e = .returned (.agg #[.int .u64 (l0 n), .int .u64 (l1 n), .int .u64 (l2 n), .int .u64 (l3 n)]) ∧ Below w.heap.size w w')) (CP : Hid (∀ w, Calls Tryz.prog 64 #[.agg #[.int .u64 (l0 X), .int .u64 (l1 X), .int .u64 (l2 X), .int .u64 (l3 X)], .agg #[.int .u64 (l0 n), .int .u64 (l1 n), .int .u64 (l2 n), .int .u64 (l3 n)]] w fun e w' => e = .returned (.int .i64 q) ∧ Below w.heap.size w w')) (hq : decide (0 ≤ q) = false) (CN : Hid (∀ w, Calls Tryz.prog 96 #[.agg ((A.map fun z => Value.int .u8 z).toArray)] w fun e w' => e = .returned (.agg #[.int .u64 (l0 dg), .int .u64 (l1 dg), .int .u64 (l2 dg), .int .u64 (l3 dg)]) ∧ Below w.heap.size w w')) (A1 : Hid (∀ w, Calls Tryz.prog 100 #[.agg #[.int .u64 (l0 X), .int .u64 (l1 X), .int .u64 (l2 X), .int .u64 (l3 X)], .agg #[.int .u64 (l0 key), .int .u64 (l1 key), .int .u64 (l2 key), .int .u64 (l3 key)]] w fun e w' => e = .returned (.agg #[.int .u64 (l0 a), .int .u64 (l1 a), .int .u64 (l2 a), .int .u64 (l3 a)]) ∧ Below w.heap.size w w')) (A2 : Hid (∀ w, Calls Tryz.prog 101 #[.agg #[.int .u64 (l0 dg), .int .u64 (l1 dg), .int .u64 (l2 dg), .int .u64 (l3 dg)], .agg #[.int .u64 (l0 a), .int .u64 (l1 a), .int .u64 (l2 a), .int .u64 (l3 a)]] w fun e w' => e = .returned (.agg #[.int .u64 (l0 b), .int .u64 (l1 b), .int .u64 (l2 b), .int .u64 (l3 b)]) ∧ Below w.heap.size w w')) (A3 : Hid (∀ w, Calls Tryz.prog 102 #[.agg #[.int .u64 (l0 non), .int .u64 (l1 non), .int .u64 (l2 non), .int .u64 (l3 non)]] w fun e w' => e = .returned (.agg #[.int .u64 (l0 v), .int .u64 (l1 v), .int .u64 (l2 v), .int .u64 (l3 v)]) ∧ Below w.heap.size w w')) (A4 : Hid (∀ w, Calls Tryz.prog 100 #[.agg #[.int .u64 (l0 b), .int .u64 (l1 b), .int .u64 (l2 b), .int .u64 (l3 b)], .agg #[.int .u64 (l0 v), .int .u64 (l1 v), .int .u64 (l2 v), .int .u64 (l3 v)]] w fun e w' => e = .returned (.agg #[.int .u64 (l0 s), .int .u64 (l1 s), .int .u64 (l2 s), .int .u64 (l3 s)]) ∧ Below w.heap.size w w')) (E1 : ∀ w, (Op.equalIn 10000 24 (.agg #[.int .u64 (l0 X), .int .u64 (l1 X), .int .u64 (l2 X), .int .u64 (l3 X)]) (.agg #[.int .u64 0, .int .u64 0, .int .u64 0, .int .u64 0])).run Tryz.prog w = .ok false w) (E2 : ∀ w, (Op.equalIn 10000 24 (.agg #[.int .u64 (l0 s), .int .u64 (l1 s), .int .u64 (l2 s), .int .u64 (l3 s)]) (.agg #[.int .u64 0, .int .u64 0, .int .u64 0, .int .u64 0])).run Tryz.prog w = .ok true w) (w : World) :
    Calls Tryz.prog 68 #[.agg #[.int .u64 (l0 key), .int .u64 (l1 key), .int .u64 (l2 key), .int .u64 (l3 key)], .agg #[.int .u64 (l0 non), .int .u64 (l1 non), .int .u64 (l2 non), .int .u64 (l3 non)], hashV A] w fun e w' => e = .returned (.tuple #[.agg #[.int .u64 (l0 0), .int .u64 (l1 0), .int .u64 (l2 0), .int .u64 (l3 0), .int .u64 (l0 0), .int .u64 (l1 0), .int .u64 (l2 0), .int .u64 (l3 0), .bool false], .int .i64 65]) ∧ Below w.heap.size w w' := by
  obtain ⟨z0, z1, z2, z3⟩ := zero_limbs
  rw [z0, z1, z2, z3]
  clear z0 z1 z2 z3
  unfold hashV at *
  go_enter Tryz.func68, Tryz.ntmps68
  go_wp2_with fail
  refine calls_world (fun W => Below w.heap.size w W ∧ Nm W w.heap.size key ∧ Nm W (w.heap.size + 1) non ∧ HAt W (w.heap.size + 1 + 1) A ∧ Bk9 W (w.heap.size + 1 + 1 + 1)) ⟨by repeat (first | with_reducible exact Below.refl _ _ | with_reducible refine Below.alloc ?_ (by first | omega | (simp; done) | (simp; omega)) _), ((Nm.alloc (Cl.new _ rfl rfl) _).alloc _).alloc _, (Nm.alloc (Cl.new _ (by simp) rfl) _).alloc _, (HAt.new hl (by simp)).alloc _, Bk9.new (by simp)⟩ ?_
  rintro W ⟨B, hK, hE, hY, hR⟩
  have o3 : w.heap.size ≤ w.heap.size + 1 + 1 + 1 := by omega
  generalize w.heap.size + 1 + 1 + 1 = br at *
  generalize w.heap.size + 1 + 1 = bd at *
  generalize w.heap.size + 1 = bn at *
  with_reducible refine (F1.out _).mono ?_
  rintro e w1 ⟨rfl, hb⟩
  replace B := B.trans (hb.mono B.size)
  replace hK := hK.keep hb; replace hE := hE.keep hb; replace hY := hY.keep hb; replace hR := hR.keep hb
  clear hb W
  have ghE := hE.cells
  go_wp2_with fail
  refine calls_world (fun W => Below w.heap.size w W ∧ Nm W w.heap.size key ∧ Nm W bn non ∧ HAt W bd A ∧ Bk9 W br) ⟨B, hK, hE, hY, hR⟩ ?_
  clear B hK hE hY hR ghE
  rintro W ⟨B, hK, hE, hY, hR⟩
  with_reducible refine (F2.out _).mono ?_
  rintro e w2 ⟨rfl, hb⟩
  replace B := B.trans (hb.mono B.size)
  replace hK := hK.keep hb; replace hE := hE.keep hb; replace hY := hY.keep hb; replace hR := hR.keep hb
  clear hb W
  have ghE := hE.cells
  go_wp2_with fail
  refine calls_world (fun W => Below w.heap.size w W ∧ Nm W w.heap.size key ∧ Nm W bn non ∧ HAt W bd A ∧ Bk9 W br) ⟨B, hK, hE, hY, hR⟩ ?_
  clear B hK hE hY hR ghE
  rintro W ⟨B, hK, hE, hY, hR⟩
  with_reducible refine (MG.out _).mono ?_
  rintro e w3 ⟨rfl, hb⟩
  replace B := B.trans (hb.mono B.size)
  replace hK := hK.keep hb; replace hE := hE.keep hb; replace hY := hY.keep hb; replace hR := hR.keep hb
  clear hb W
  go_wp2_with fail
  refine wp_world (fun W => Below w.heap.size w W ∧ Nm W w.heap.size key ∧ Nm W bn non ∧ HAt W bd A ∧ Bk9 W br ∧ Pnt W w3.heap.size X Y j) ⟨B.alloc B.size _, hK.alloc _, hE.alloc _, hY.alloc _, hR.alloc _, Pnt.new rfl⟩ ?_
  clear B hK hE hY hR 
  rintro W ⟨B, hK, hE, hY, hR, hP⟩
  generalize w3.heap.size = bp at *
  have ghP := hP.grown
  refine wp_region_quiet_below (by kernel_rfl) (by kernel_rfl) ?_
  repeat
    first
      | go_big_quiet_skip
      | (go_big_quiet_want; go_big_quiet_op; go_big_quiet_on)
      | (go_big_quiet_want
         go_big_quiet_op
         apply Exists.intro
         refine ⟨fun p => ?_, ?_⟩
         · (first | (go_at_call 65; with_reducible exact Calls.regrown_of (OR.out _)) | (go_at_call 64; with_reducible exact Calls.regrown_of (CP.out _)))
         go_big_quiet_on)
  refine wpQuiet_nil ?_
  rintro w4 ⟨p, rfl⟩
  have hb := below_regrown W p.d p.os
  generalize grow (redrawn W p.d) p.os = w4 at *
  replace B := B.trans (hb.mono B.size)
  replace hK := hK.keep hb; replace hE := hE.keep hb; replace hY := hY.keep hb; replace hR := hR.keep hb; replace hP := hP.keep hb
  clear hb W ghP 
  have ra := hY.2
  go_wp2_with (refine wpList_load_mid rfl 26 _ rfl bd 0 rfl (A.map fun z => Value.int .u8 z) _ ra Tryz.underlying26 rfl (by rw [List.length_map, hl]; kernel_rfl) ?_)
  clear ra
  refine calls_world (fun W => Below w.heap.size w W ∧ Nm W w.heap.size key ∧ Nm W bn non ∧ HAt W bd A ∧ Bk9 W br ∧ Pnt W bp X Y j) ⟨B, hK, hE, hY, hR, hP⟩ ?_
  clear B hK hE hY hR hP
  rintro W ⟨B, hK, hE, hY, hR, hP⟩
  clear w4
  with_reducible refine (CN.out _).mono ?_
  rintro e w5 ⟨rfl, hb⟩
  replace B := B.trans (hb.mono B.size)
  replace hK := hK.keep hb; replace hE := hE.keep hb; replace hY := hY.keep hb; replace hR := hR.keep hb; replace hP := hP.keep hb
  clear hb W
  go_wp2_with fail
  refine wp_world (fun W => Below w.heap.size w W ∧ Nm W w.heap.size key ∧ Nm W bn non ∧ HAt W bd A ∧ Bk9 W br ∧ Pnt W bp X Y j ∧ Nm W w5.heap.size dg) ⟨B.alloc B.size _, hK.alloc _, hE.alloc _, hY.alloc _, hR.alloc _, hP.alloc _, Nm.new rfl⟩ ?_
  clear B hK hE hY hR hP 
  rintro W ⟨B, hK, hE, hY, hR, hP, hG⟩
  generalize w5.heap.size = bg at *
  clear hY
  refine alloc_tail (A := ?AA1) 9 (by kernel_rfl) (by kernel_rfl) rfl rfl (alloc_num _ _ _) (fun V hV => ?HH1) (fun V w1 hV hw => ?TT1)
  case HH1 =>
    have ghK := (hK.keep hV).grown
    have ghE := (hE.keep hV).grown
    have ghP := (hP.keep hV).grown
    have ghG := (hG.keep hV).grown
    unfold Gr
    simp only [List.take_succ_cons, List.take_zero]
    repeat
      first
        | go_big_quiet_skip
        | (go_big_quiet_want; go_big_quiet_op; go_big_quiet_on)
        | (go_big_quiet_want
           go_big_quiet_op
           apply Exists.intro
           refine ⟨fun p => ?_, ?_⟩
           · (first | (go_at_call 100; with_reducible exact Calls.regrown_of (A1.out _)) | (go_at_call 101; with_reducible exact Calls.regrown_of (A2.out _)) | (go_at_call 102; with_reducible exact Calls.regrown_of (A3.out _)) | (go_at_call 100; with_reducible exact Calls.regrown_of (A4.out _)))
           go_big_quiet_on)
    refine wpQuiet_nil ?_
    exact rfl
  case TT1 =>
    have hb := alloc_below hV hw
    have hN := (Blank.new rfl).keep hw
    have nhK : V.heap.size ≠ w.heap.size := Nat.ne_of_gt (Nat.lt_of_lt_of_le hK.lt hV.size)
    have nhE : V.heap.size ≠ bn := Nat.ne_of_gt (Nat.lt_of_lt_of_le hE.lt hV.size)
    have nhR : V.heap.size ≠ br := Nat.ne_of_gt (Nat.lt_of_lt_of_le hR.lt hV.size)
    have nhP : V.heap.size ≠ bp := Nat.ne_of_gt (Nat.lt_of_lt_of_le hP.lt hV.size)
    have nhG : V.heap.size ≠ bg := Nat.ne_of_gt (Nat.lt_of_lt_of_le hG.lt hV.size)
    have gn : w.heap.size ≤ V.heap.size := Nat.le_trans B.size hV.size
    replace B := B.trans (hb.mono B.size)
    replace hK := hK.keep hb; replace hE := hE.keep hb; replace hR := hR.keep hb; replace hP := hP.keep hb; replace hG := hG.keep hb
    clear hb hw hV W
    generalize V.heap.size = bs at *
    clear V
    have gN := hN.1.all4; have qN := hN.2.all4
    have ghP := hP.cells
    have mhK := nhK.symm
    have mhE := nhE.symm
    have mhR := nhR.symm
    have mhP := nhP.symm
    have mhG := nhG.symm
    simp only [List.drop_succ_cons, List.drop_zero, Act.put, List.setIfInBounds_toArray, List.set_cons_zero, List.set_cons_succ]
    have gR := hR.cells; have fR := hR.free
    have BB : Hid (Below w.heap.size w w1) := B
    clear B
    go_wp2
    simp [bodyPost, results, Tryz.results68, go_sem, *]
    repeat (first | with_reducible exact BB.out | with_reducible refine Below.setCell ?_ o3 _ | with_reducible refine Below.setCell ?_ gn _)

set_option maxRecDepth 100000 in
set_option maxHeartbeats 8000000 in
theorem r6tb_ok {key non X Y n q dg a b v s : Int} {j od : Bool} {A : List Int} (hl : A.length = 32) (F1 : Hid (∀ w, Calls Tryz.prog 31 #[.agg #[.int .u64 (l0 key), .int .u64 (l1 key), .int .u64 (l2 key), .int .u64 (l3 key)]] w fun e w' => e = .returned (.bool true) ∧ Below w.heap.size w w')) (F2 : Hid (∀ w, Calls Tryz.prog 31 #[.agg #[.int .u64 (l0 non), .int .u64 (l1 non), .int .u64 (l2 non), .int .u64 (l3 non)]] w fun e w' => e = .returned (.bool true) ∧ Below w.heap.size w w')) (MG : Hid (∀ w, Calls Tryz.prog 99 #[.agg #[.int .u64 (l0 non), .int .u64 (l1 non), .int .u64 (l2 non), .int .u64 (l3 non)]] w fun e w' => e = .returned (.agg #[.int .u64 (l0 X), .int .u64 (l1 X), .int .u64 (l2 X), .int .u64 (l3 X), .int .u64 (l0 Y), .int .u64 (l1 Y), .int .u64 (l2 Y), .int .u64 (l3 Y), .bool j]) ∧ Below w.heap.size w w')) (OR : Hid (∀ w, Calls Tryz.prog 65 #[] w fun e w' => e = .returned (.agg #[.int .u64 (l0 n), .int .u64 (l1 n), .int .u64 (l2 n), .int .u64 (l3 n)]) ∧ Below w.heap.size w w')) (CP : Hid (∀ w, Calls Tryz.prog 64 #[.agg #[.int .u64 (l0 X), .int .u64 (l1 X), .int .u64 (l2 X), .int .u64 (l3 X)], .agg #[.int .u64 (l0 n), .int .u64 (l1 n), .int .u64 (l2 n), .int .u64 (l3 n)]] w fun e w' => e = .returned (.int .i64 q) ∧ Below w.heap.size w w')) (hq : decide (0 ≤ q) = false) (CN : Hid (∀ w, Calls Tryz.prog 96 #[.agg ((A.map fun z => Value.int .u8 z).toArray)] w fun e w' => e = .returned (.agg #[.int .u64 (l0 dg), .int .u64 (l1 dg), .int .u64 (l2 dg), .int .u64 (l3 dg)]) ∧ Below w.heap.size w w')) (A1 : Hid (∀ w, Calls Tryz.prog 100 #[.agg #[.int .u64 (l0 X), .int .u64 (l1 X), .int .u64 (l2 X), .int .u64 (l3 X)], .agg #[.int .u64 (l0 key), .int .u64 (l1 key), .int .u64 (l2 key), .int .u64 (l3 key)]] w fun e w' => e = .returned (.agg #[.int .u64 (l0 a), .int .u64 (l1 a), .int .u64 (l2 a), .int .u64 (l3 a)]) ∧ Below w.heap.size w w')) (A2 : Hid (∀ w, Calls Tryz.prog 101 #[.agg #[.int .u64 (l0 dg), .int .u64 (l1 dg), .int .u64 (l2 dg), .int .u64 (l3 dg)], .agg #[.int .u64 (l0 a), .int .u64 (l1 a), .int .u64 (l2 a), .int .u64 (l3 a)]] w fun e w' => e = .returned (.agg #[.int .u64 (l0 b), .int .u64 (l1 b), .int .u64 (l2 b), .int .u64 (l3 b)]) ∧ Below w.heap.size w w')) (A3 : Hid (∀ w, Calls Tryz.prog 102 #[.agg #[.int .u64 (l0 non), .int .u64 (l1 non), .int .u64 (l2 non), .int .u64 (l3 non)]] w fun e w' => e = .returned (.agg #[.int .u64 (l0 v), .int .u64 (l1 v), .int .u64 (l2 v), .int .u64 (l3 v)]) ∧ Below w.heap.size w w')) (A4 : Hid (∀ w, Calls Tryz.prog 100 #[.agg #[.int .u64 (l0 b), .int .u64 (l1 b), .int .u64 (l2 b), .int .u64 (l3 b)], .agg #[.int .u64 (l0 v), .int .u64 (l1 v), .int .u64 (l2 v), .int .u64 (l3 v)]] w fun e w' => e = .returned (.agg #[.int .u64 (l0 s), .int .u64 (l1 s), .int .u64 (l2 s), .int .u64 (l3 s)]) ∧ Below w.heap.size w w')) (E1 : ∀ w, (Op.equalIn 10000 24 (.agg #[.int .u64 (l0 X), .int .u64 (l1 X), .int .u64 (l2 X), .int .u64 (l3 X)]) (.agg #[.int .u64 0, .int .u64 0, .int .u64 0, .int .u64 0])).run Tryz.prog w = .ok false w) (E2 : ∀ w, (Op.equalIn 10000 24 (.agg #[.int .u64 (l0 s), .int .u64 (l1 s), .int .u64 (l2 s), .int .u64 (l3 s)]) (.agg #[.int .u64 0, .int .u64 0, .int .u64 0, .int .u64 0])).run Tryz.prog w = .ok false w) (D : Hid (∀ w, Calls Tryz.prog 103 #[.agg #[.int .u64 (l0 Y), .int .u64 (l1 Y), .int .u64 (l2 Y), .int .u64 (l3 Y)]] w fun e w' => e = .returned (.bool od) ∧ Below w.heap.size w w')) (w : World) :
    Calls Tryz.prog 68 #[.agg #[.int .u64 (l0 key), .int .u64 (l1 key), .int .u64 (l2 key), .int .u64 (l3 key)], .agg #[.int .u64 (l0 non), .int .u64 (l1 non), .int .u64 (l2 non), .int .u64 (l3 non)], hashV A] w fun e w' => e = .returned (.tuple #[.agg #[.int .u64 (l0 X), .int .u64 (l1 X), .int .u64 (l2 X), .int .u64 (l3 X), .int .u64 (l0 s), .int .u64 (l1 s), .int .u64 (l2 s), .int .u64 (l3 s), .bool od], .int .i64 0]) ∧ Below w.heap.size w w' := by
  unfold hashV at *
  go_enter Tryz.func68, Tryz.ntmps68
  go_wp2_with fail
  refine calls_world (fun W => Below w.heap.size w W ∧ Nm W w.heap.size key ∧ Nm W (w.heap.size + 1) non ∧ HAt W (w.heap.size + 1 + 1) A ∧ Bk9 W (w.heap.size + 1 + 1 + 1)) ⟨by repeat (first | with_reducible exact Below.refl _ _ | with_reducible refine Below.alloc ?_ (by first | omega | (simp; done) | (simp; omega)) _), ((Nm.alloc (Cl.new _ rfl rfl) _).alloc _).alloc _, (Nm.alloc (Cl.new _ (by simp) rfl) _).alloc _, (HAt.new hl (by simp)).alloc _, Bk9.new (by simp)⟩ ?_
  rintro W ⟨B, hK, hE, hY, hR⟩
  have o3 : w.heap.size ≤ w.heap.size + 1 + 1 + 1 := by omega
  generalize w.heap.size + 1 + 1 + 1 = br at *
  generalize w.heap.size + 1 + 1 = bd at *
  generalize w.heap.size + 1 = bn at *
  with_reducible refine (F1.out _).mono ?_
  rintro e w1 ⟨rfl, hb⟩
  replace B := B.trans (hb.mono B.size)
  replace hK := hK.keep hb; replace hE := hE.keep hb; replace hY := hY.keep hb; replace hR := hR.keep hb
  clear hb W
  have ghE := hE.cells
  go_wp2_with fail
  refine calls_world (fun W => Below w.heap.size w W ∧ Nm W w.heap.size key ∧ Nm W bn non ∧ HAt W bd A ∧ Bk9 W br) ⟨B, hK, hE, hY, hR⟩ ?_
  clear B hK hE hY hR ghE
  rintro W ⟨B, hK, hE, hY, hR⟩
  with_reducible refine (F2.out _).mono ?_
  rintro e w2 ⟨rfl, hb⟩
  replace B := B.trans (hb.mono B.size)
  replace hK := hK.keep hb; replace hE := hE.keep hb; replace hY := hY.keep hb; replace hR := hR.keep hb
  clear hb W
  have ghE := hE.cells
  go_wp2_with fail
  refine calls_world (fun W => Below w.heap.size w W ∧ Nm W w.heap.size key ∧ Nm W bn non ∧ HAt W bd A ∧ Bk9 W br) ⟨B, hK, hE, hY, hR⟩ ?_
  clear B hK hE hY hR ghE
  rintro W ⟨B, hK, hE, hY, hR⟩
  with_reducible refine (MG.out _).mono ?_
  rintro e w3 ⟨rfl, hb⟩
  replace B := B.trans (hb.mono B.size)
  replace hK := hK.keep hb; replace hE := hE.keep hb; replace hY := hY.keep hb; replace hR := hR.keep hb
  clear hb W
  go_wp2_with fail
  refine wp_world (fun W => Below w.heap.size w W ∧ Nm W w.heap.size key ∧ Nm W bn non ∧ HAt W bd A ∧ Bk9 W br ∧ Pnt W w3.heap.size X Y j) ⟨B.alloc B.size _, hK.alloc _, hE.alloc _, hY.alloc _, hR.alloc _, Pnt.new rfl⟩ ?_
  clear B hK hE hY hR 
  rintro W ⟨B, hK, hE, hY, hR, hP⟩
  generalize w3.heap.size = bp at *
  have ghP := hP.grown
  refine wp_region_quiet_below (by kernel_rfl) (by kernel_rfl) ?_
  repeat
    first
      | go_big_quiet_skip
      | (go_big_quiet_want; go_big_quiet_op; go_big_quiet_on)
      | (go_big_quiet_want
         go_big_quiet_op
         apply Exists.intro
         refine ⟨fun p => ?_, ?_⟩
         · (first | (go_at_call 65; with_reducible exact Calls.regrown_of (OR.out _)) | (go_at_call 64; with_reducible exact Calls.regrown_of (CP.out _)))
         go_big_quiet_on)
  refine wpQuiet_nil ?_
  rintro w4 ⟨p, rfl⟩
  have hb := below_regrown W p.d p.os
  generalize grow (redrawn W p.d) p.os = w4 at *
  replace B := B.trans (hb.mono B.size)
  replace hK := hK.keep hb; replace hE := hE.keep hb; replace hY := hY.keep hb; replace hR := hR.keep hb; replace hP := hP.keep hb
  clear hb W ghP 
  have ra := hY.2
  go_wp2_with (refine wpList_load_mid rfl 26 _ rfl bd 0 rfl (A.map fun z => Value.int .u8 z) _ ra Tryz.underlying26 rfl (by rw [List.length_map, hl]; kernel_rfl) ?_)
  clear ra
  refine calls_world (fun W => Below w.heap.size w W ∧ Nm W w.heap.size key ∧ Nm W bn non ∧ HAt W bd A ∧ Bk9 W br ∧ Pnt W bp X Y j) ⟨B, hK, hE, hY, hR, hP⟩ ?_
  clear B hK hE hY hR hP
  rintro W ⟨B, hK, hE, hY, hR, hP⟩
  clear w4
  with_reducible refine (CN.out _).mono ?_
  rintro e w5 ⟨rfl, hb⟩
  replace B := B.trans (hb.mono B.size)
  replace hK := hK.keep hb; replace hE := hE.keep hb; replace hY := hY.keep hb; replace hR := hR.keep hb; replace hP := hP.keep hb
  clear hb W
  go_wp2_with fail
  refine wp_world (fun W => Below w.heap.size w W ∧ Nm W w.heap.size key ∧ Nm W bn non ∧ HAt W bd A ∧ Bk9 W br ∧ Pnt W bp X Y j ∧ Nm W w5.heap.size dg) ⟨B.alloc B.size _, hK.alloc _, hE.alloc _, hY.alloc _, hR.alloc _, hP.alloc _, Nm.new rfl⟩ ?_
  clear B hK hE hY hR hP 
  rintro W ⟨B, hK, hE, hY, hR, hP, hG⟩
  generalize w5.heap.size = bg at *
  clear hY
  refine alloc_tail (A := ?AA1) 9 (by kernel_rfl) (by kernel_rfl) rfl rfl (alloc_num _ _ _) (fun V hV => ?HH1) (fun V w1 hV hw => ?TT1)
  case HH1 =>
    have ghK := (hK.keep hV).grown
    have ghE := (hE.keep hV).grown
    have ghP := (hP.keep hV).grown
    have ghG := (hG.keep hV).grown
    unfold Gr
    simp only [List.take_succ_cons, List.take_zero]
    repeat
      first
        | go_big_quiet_skip
        | (go_big_quiet_want; go_big_quiet_op; go_big_quiet_on)
        | (go_big_quiet_want
           go_big_quiet_op
           apply Exists.intro
           refine ⟨fun p => ?_, ?_⟩
           · (first | (go_at_call 100; with_reducible exact Calls.regrown_of (A1.out _)) | (go_at_call 101; with_reducible exact Calls.regrown_of (A2.out _)) | (go_at_call 102; with_reducible exact Calls.regrown_of (A3.out _)) | (go_at_call 100; with_reducible exact Calls.regrown_of (A4.out _)))
           go_big_quiet_on)
    refine wpQuiet_nil ?_
    exact rfl
  case TT1 =>
    have hb := alloc_below hV hw
    have hN := (Blank.new rfl).keep hw
    have nhK : V.heap.size ≠ w.heap.size := Nat.ne_of_gt (Nat.lt_of_lt_of_le hK.lt hV.size)
    have nhE : V.heap.size ≠ bn := Nat.ne_of_gt (Nat.lt_of_lt_of_le hE.lt hV.size)
    have nhR : V.heap.size ≠ br := Nat.ne_of_gt (Nat.lt_of_lt_of_le hR.lt hV.size)
    have nhP : V.heap.size ≠ bp := Nat.ne_of_gt (Nat.lt_of_lt_of_le hP.lt hV.size)
    have nhG : V.heap.size ≠ bg := Nat.ne_of_gt (Nat.lt_of_lt_of_le hG.lt hV.size)
    have gn : w.heap.size ≤ V.heap.size := Nat.le_trans B.size hV.size
    replace B := B.trans (hb.mono B.size)
    replace hK := hK.keep hb; replace hE := hE.keep hb; replace hR := hR.keep hb; replace hP := hP.keep hb; replace hG := hG.keep hb
    clear hb hw hV W
    generalize V.heap.size = bs at *
    clear V
    have gN := hN.1.all4; have qN := hN.2.all4
    have ghP := hP.cells
    have mhK := nhK.symm
    have mhE := nhE.symm
    have mhR := nhR.symm
    have mhP := nhP.symm
    have mhG := nhG.symm
    simp only [List.drop_succ_cons, List.drop_zero, Act.put, List.setIfInBounds_toArray, List.set_cons_zero, List.set_cons_succ]
    go_wp2_with fail
    refine wp_world (fun W => Below w.heap.size w W ∧ Nm W w.heap.size key ∧ Nm W bn non ∧ Bk9 W br ∧ Pnt W bp X Y j ∧ Nm W bg dg ∧ Nm W bs s) ⟨below_put4 B gn, hK.put4 nhK, hE.put4 nhE, hR.put4 nhR, hP.put4 nhP, hG.put4 nhG, hN.put4 s⟩ ?_
    clear B hN gN qN hK hE hR hP hG nhK mhK nhE mhE nhR mhR nhP mhP nhG mhG ghP gn
    rintro W ⟨B, hK, hE, hR, hP, hG, hS⟩
    clear w1
    have ghP := hP.grown
    have ghS := hS.grown
    refine below_tail 7 (by kernel_rfl) (by kernel_rfl) ?_
    simp only [List.take_succ_cons, List.take_zero, List.drop_succ_cons, List.drop_zero]
    repeat
      first
        | go_big_quiet_skip
        | (go_big_quiet_want; go_big_quiet_op; go_big_quiet_on)
        | (go_big_quiet_want
           go_big_quiet_op
           apply Exists.intro
           refine ⟨fun p => ?_, ?_⟩
           · (first | (go_at_call 103; with_reducible exact Calls.regrown_of (D.out _)))
           go_big_quiet_on)
    refine wpQuiet_nil ?_
    rintro w41 ⟨p, rfl⟩
    have hb := below_regrown W p.d p.os
    generalize grow (redrawn W p.d) p.os = w41 at *
    replace B := B.trans (hb.mono B.size)
    replace hK := hK.keep hb; replace hE := hE.keep hb; replace hR := hR.keep hb; replace hP := hP.keep hb; replace hG := hG.keep hb; replace hS := hS.keep hb
    clear hb W ghP ghS 
    clear hK hE hG hP hS
    have gR := hR.cells; have fR := hR.free
    go_wp2
    simp [bodyPost, results, Tryz.results68, go_sem, gR]
    repeat (first | with_reducible exact B | with_reducible refine Below.setCell ?_ o3 _)

set_option maxRecDepth 100000 in
theorem r6odd_walk {x : Int} (w : World) : Calls Tryz.prog 103 #[.agg #[.int .u64 (l0 x), .int .u64 (l1 x), .int .u64 (l2 x), .int .u64 (l3 x)]] w fun e w' => e = .returned (.bool ((l0 x).tmod 2 == 1)) ∧ Below w.heap.size w w' := by
  go_enter Tryz.func103, Tryz.ntmps103
  go_wp2
  simp [bodyPost, results, Tryz.results103, go_sem]
  exact by repeat (first | with_reducible exact Below.refl _ _ | with_reducible refine Below.alloc ?_ (by first | omega | (simp; done) | (simp; omega)) _)

set_option maxRecDepth 100000 in
set_option maxHeartbeats 8000000 in
theorem r6sw_err {key non r s e0 : Int} {od : Bool} {A : List Int} (hl : A.length = 32) (TB : Hid (∀ w, Calls Tryz.prog 68 #[.agg #[.int .u64 (l0 key), .int .u64 (l1 key), .int .u64 (l2 key), .int .u64 (l3 key)], .agg #[.int .u64 (l0 non), .int .u64 (l1 non), .int .u64 (l2 non), .int .u64 (l3 non)], .agg ((A.map fun z => Value.int .u8 z).toArray)] w fun e w' => e = .returned (.tuple #[.agg #[.int .u64 (l0 r), .int .u64 (l1 r), .int .u64 (l2 r), .int .u64 (l3 r), .int .u64 (l0 s), .int .u64 (l1 s), .int .u64 (l2 s), .int .u64 (l3 s), .bool od], .int .i64 e0]) ∧ Below w.heap.size w w')) (he : e0 ≠ 0) (w : World) :
    Calls Tryz.prog 33 #[.agg #[.int .u64 (l0 key), .int .u64 (l1 key), .int .u64 (l2 key), .int .u64 (l3 key)], .agg #[.int .u64 (l0 non), .int .u64 (l1 non), .int .u64 (l2 non), .int .u64 (l3 non)], hashV A] w fun e w' => e = .returned (.tuple #[.agg #[.int .u64 (l0 0), .int .u64 (l1 0), .int .u64 (l2 0), .int .u64 (l3 0), .int .u64 (l0 0), .int .u64 (l1 0), .int .u64 (l2 0), .int .u64 (l3 0), .bool false], .int .i64 e0]) ∧ Below w.heap.size w w' := by
  obtain ⟨z0, z1, z2, z3⟩ := zero_limbs
  rw [z0, z1, z2, z3]
  clear z0 z1 z2 z3
  unfold hashV at *
  have ra : ((((w.alloc (.cells #[.int .u64 (l0 key), .int .u64 (l1 key), .int .u64 (l2 key), .int .u64 (l3 key)] 24)).alloc (.cells #[.int .u64 (l0 non), .int .u64 (l1 non), .int .u64 (l2 non), .int .u64 (l3 non)] 24)).alloc (.cells ((A.map fun z => Value.int .u8 z).toArray) 26)).alloc (.cells #[.int .u64 0, .int .u64 0, .int .u64 0, .int .u64 0, .int .u64 0, .int .u64 0, .int .u64 0, .int .u64 0, .bool false] 28)).rangeAt (w.heap.size + 1 + 1) 0 (A.map fun z => Value.int .u8 z) := ((HAt.new hl (by simp)).alloc _).2
  go_enter Tryz.func33, Tryz.ntmps33
  go_wp2_with (refine wpList_load_mid rfl 26 _ rfl (w.heap.size + 1 + 1) 0 rfl (A.map fun z => Value.int .u8 z) _ ra Tryz.underlying26 rfl (by rw [List.length_map, hl]; kernel_rfl) ?_)
  refine calls_world (fun W => Below w.heap.size w W ∧ Bk9 W (w.heap.size + 1 + 1 + 1)) ⟨by repeat (first | with_reducible exact Below.refl _ _ | with_reducible refine Below.alloc ?_ (by first | omega | (simp; done) | (simp; omega)) _), Bk9.new (by simp)⟩ ?_
  clear ra
  rintro W ⟨B, hR⟩
  have o3 : w.heap.size ≤ w.heap.size + 1 + 1 + 1 := by omega
  generalize w.heap.size + 1 + 1 + 1 = br at *
  with_reducible refine (TB.out _).mono ?_
  rintro e w9 ⟨rfl, hb⟩
  replace B := B.trans (hb.mono B.size)
  replace hR := hR.keep hb
  clear hb W
  have nr : w9.heap.size ≠ br := by have := hR.lt; omega
  have nr2 := nr.symm
  have lr := hR.lt
  have gR := fun o => (hR.alloc o).cells; have fR := fun o => (hR.alloc o).free
  have gR0 := hR.cells; have fR0 := hR.free
  have sz := B.size
  have BB : Hid (Below w.heap.size w w9) := B
  clear B hR
  go_wp2
  simp [bodyPost, results, Tryz.results33, go_sem, *]
  repeat (first | with_reducible exact BB.out | with_reducible refine Below.setCell ?_ o3 _ | with_reducible refine Below.alloc ?_ (by first | omega | (simp; omega)) _)

set_option maxRecDepth 100000 in
set_option maxHeartbeats 8000000 in
theorem r6sw_low {key non r s : Int} {od : Bool} {A : List Int} (hl : A.length = 32) (TB : Hid (∀ w, Calls Tryz.prog 68 #[.agg #[.int .u64 (l0 key), .int .u64 (l1 key), .int .u64 (l2 key), .int .u64 (l3 key)], .agg #[.int .u64 (l0 non), .int .u64 (l1 non), .int .u64 (l2 non), .int .u64 (l3 non)], .agg ((A.map fun z => Value.int .u8 z).toArray)] w fun e w' => e = .returned (.tuple #[.agg #[.int .u64 (l0 r), .int .u64 (l1 r), .int .u64 (l2 r), .int .u64 (l3 r), .int .u64 (l0 s), .int .u64 (l1 s), .int .u64 (l2 s), .int .u64 (l3 s), .bool od], .int .i64 0]) ∧ Below w.heap.size w w')) (LO : Hid (∀ w, Calls Tryz.prog 69 #[.agg #[.int .u64 (l0 s), .int .u64 (l1 s), .int .u64 (l2 s), .int .u64 (l3 s)]] w fun e w' => e = .returned (.bool true) ∧ Below w.heap.size w w')) (w : World) :
    Calls Tryz.prog 33 #[.agg #[.int .u64 (l0 key), .int .u64 (l1 key), .int .u64 (l2 key), .int .u64 (l3 key)], .agg #[.int .u64 (l0 non), .int .u64 (l1 non), .int .u64 (l2 non), .int .u64 (l3 non)], hashV A] w fun e w' => e = .returned (.tuple #[.agg #[.int .u64 (l0 r), .int .u64 (l1 r), .int .u64 (l2 r), .int .u64 (l3 r), .int .u64 (l0 s), .int .u64 (l1 s), .int .u64 (l2 s), .int .u64 (l3 s), .bool od], .int .i64 0]) ∧ Below w.heap.size w w' := by
  unfold hashV at *
  have ra : ((((w.alloc (.cells #[.int .u64 (l0 key), .int .u64 (l1 key), .int .u64 (l2 key), .int .u64 (l3 key)] 24)).alloc (.cells #[.int .u64 (l0 non), .int .u64 (l1 non), .int .u64 (l2 non), .int .u64 (l3 non)] 24)).alloc (.cells ((A.map fun z => Value.int .u8 z).toArray) 26)).alloc (.cells #[.int .u64 0, .int .u64 0, .int .u64 0, .int .u64 0, .int .u64 0, .int .u64 0, .int .u64 0, .int .u64 0, .bool false] 28)).rangeAt (w.heap.size + 1 + 1) 0 (A.map fun z => Value.int .u8 z) := ((HAt.new hl (by simp)).alloc _).2
  go_enter Tryz.func33, Tryz.ntmps33
  go_wp2_with (refine wpList_load_mid rfl 26 _ rfl (w.heap.size + 1 + 1) 0 rfl (A.map fun z => Value.int .u8 z) _ ra Tryz.underlying26 rfl (by rw [List.length_map, hl]; kernel_rfl) ?_)
  refine calls_world (fun W => Below w.heap.size w W ∧ Bk9 W (w.heap.size + 1 + 1 + 1)) ⟨by repeat (first | with_reducible exact Below.refl _ _ | with_reducible refine Below.alloc ?_ (by first | omega | (simp; done) | (simp; omega)) _), Bk9.new (by simp)⟩ ?_
  clear ra
  rintro W ⟨B, hR⟩
  have o3 : w.heap.size ≤ w.heap.size + 1 + 1 + 1 := by omega
  generalize w.heap.size + 1 + 1 + 1 = br at *
  with_reducible refine (TB.out _).mono ?_
  rintro e w1 ⟨rfl, hb⟩
  replace B := B.trans (hb.mono B.size)
  replace hR := hR.keep hb
  clear hb W
  have gbs0 : Hid (w.heap.size ≤ w1.heap.size) := B.size
  have nsr0 : Hid (w1.heap.size ≠ br) := Nat.ne_of_gt hR.lt
  go_wp2_with fail
  refine calls_world (fun W => Below w.heap.size w W ∧ Bk9 W br ∧ Pvr W w1.heap.size r s od) ⟨B.alloc B.size _, hR.alloc _, Pvr.new rfl⟩ ?_
  clear B hR 
  rintro W ⟨B, hR, hS⟩
  generalize w1.heap.size = bs at *
  with_reducible refine (LO.out _).mono ?_
  rintro e w9 ⟨rfl, hb⟩
  replace B := B.trans (hb.mono B.size)
  replace hR := hR.keep hb; replace hS := hS.keep hb
  clear hb W
  have gS := hS.1.cells
  have gR := hR.cells; have fR := hR.free
  go_wp2
  simp [bodyPost, results, Tryz.results33, go_sem, gR]
  repeat (first | with_reducible exact B | with_reducible refine Below.setCell ?_ o3 _)

set_option maxRecDepth 100000 in
set_option maxHeartbeats 8000000 in
theorem r6sw_high {key non r s n t q : Int} {od : Bool} {A : List Int} (hl : A.length = 32) (TB : Hid (∀ w, Calls Tryz.prog 68 #[.agg #[.int .u64 (l0 key), .int .u64 (l1 key), .int .u64 (l2 key), .int .u64 (l3 key)], .agg #[.int .u64 (l0 non), .int .u64 (l1 non), .int .u64 (l2 non), .int .u64 (l3 non)], .agg ((A.map fun z => Value.int .u8 z).toArray)] w fun e w' => e = .returned (.tuple #[.agg #[.int .u64 (l0 r), .int .u64 (l1 r), .int .u64 (l2 r), .int .u64 (l3 r), .int .u64 (l0 s), .int .u64 (l1 s), .int .u64 (l2 s), .int .u64 (l3 s), .bool od], .int .i64 0]) ∧ Below w.heap.size w w')) (LO : Hid (∀ w, Calls Tryz.prog 69 #[.agg #[.int .u64 (l0 s), .int .u64 (l1 s), .int .u64 (l2 s), .int .u64 (l3 s)]] w fun e w' => e = .returned (.bool false) ∧ Below w.heap.size w w')) (OR : Hid (∀ w, Calls Tryz.prog 65 #[] w fun e w' => e = .returned (.agg #[.int .u64 (l0 n), .int .u64 (l1 n), .int .u64 (l2 n), .int .u64 (l3 n)]) ∧ Below w.heap.size w w')) (SB : Hid (∀ w, Calls Tryz.prog 70 #[.agg #[.int .u64 (l0 n), .int .u64 (l1 n), .int .u64 (l2 n), .int .u64 (l3 n)], .agg #[.int .u64 (l0 s), .int .u64 (l1 s), .int .u64 (l2 s), .int .u64 (l3 s)]] w fun e w' => e = .returned (.tuple #[.agg #[.int .u64 (l0 t), .int .u64 (l1 t), .int .u64 (l2 t), .int .u64 (l3 t)], .int .u64 q]) ∧ Below w.heap.size w w')) (w : World) :
    Calls Tryz.prog 33 #[.agg #[.int .u64 (l0 key), .int .u64 (l1 key), .int .u64 (l2 key), .int .u64 (l3 key)], .agg #[.int .u64 (l0 non), .int .u64 (l1 non), .int .u64 (l2 non), .int .u64 (l3 non)], hashV A] w fun e w' => e = .returned (.tuple #[.agg #[.int .u64 (l0 r), .int .u64 (l1 r), .int .u64 (l2 r), .int .u64 (l3 r), .int .u64 (l0 t), .int .u64 (l1 t), .int .u64 (l2 t), .int .u64 (l3 t), .bool (!od)], .int .i64 0]) ∧ Below w.heap.size w w' := by
  unfold hashV at *
  have ra : ((((w.alloc (.cells #[.int .u64 (l0 key), .int .u64 (l1 key), .int .u64 (l2 key), .int .u64 (l3 key)] 24)).alloc (.cells #[.int .u64 (l0 non), .int .u64 (l1 non), .int .u64 (l2 non), .int .u64 (l3 non)] 24)).alloc (.cells ((A.map fun z => Value.int .u8 z).toArray) 26)).alloc (.cells #[.int .u64 0, .int .u64 0, .int .u64 0, .int .u64 0, .int .u64 0, .int .u64 0, .int .u64 0, .int .u64 0, .bool false] 28)).rangeAt (w.heap.size + 1 + 1) 0 (A.map fun z => Value.int .u8 z) := ((HAt.new hl (by simp)).alloc _).2
  go_enter Tryz.func33, Tryz.ntmps33
  go_wp2_with (refine wpList_load_mid rfl 26 _ rfl (w.heap.size + 1 + 1) 0 rfl (A.map fun z => Value.int .u8 z) _ ra Tryz.underlying26 rfl (by rw [List.length_map, hl]; kernel_rfl) ?_)
  refine calls_world (fun W => Below w.heap.size w W ∧ Bk9 W (w.heap.size + 1 + 1 + 1)) ⟨by repeat (first | with_reducible exact Below.refl _ _ | with_reducible refine Below.alloc ?_ (by first | omega | (simp; done) | (simp; omega)) _), Bk9.new (by simp)⟩ ?_
  clear ra
  rintro W ⟨B, hR⟩
  have o3 : w.heap.size ≤ w.heap.size + 1 + 1 + 1 := by omega
  generalize w.heap.size + 1 + 1 + 1 = br at *
  with_reducible refine (TB.out _).mono ?_
  rintro e w1 ⟨rfl, hb⟩
  replace B := B.trans (hb.mono B.size)
  replace hR := hR.keep hb
  clear hb W
  have gbs0 : Hid (w.heap.size ≤ w1.heap.size) := B.size
  have nsr0 : Hid (w1.heap.size ≠ br) := Nat.ne_of_gt hR.lt
  go_wp2_with fail
  refine calls_world (fun W => Below w.heap.size w W ∧ Bk9 W br ∧ Pvr W w1.heap.size r s od) ⟨B.alloc B.size _, hR.alloc _, Pvr.new rfl⟩ ?_
  clear B hR 
  rintro W ⟨B, hR, hS⟩
  generalize w1.heap.size = bs at *
  with_reducible refine (LO.out _).mono ?_
  rintro e w2 ⟨rfl, hb⟩
  replace B := B.trans (hb.mono B.size)
  replace hR := hR.keep hb; replace hS := hS.keep hb
  clear hb W
  go_wp2_with fail
  refine wp_world (fun W => Below w.heap.size w W ∧ Bk9 W br ∧ Pvr W bs r s od) ⟨B, hR, hS⟩ ?_
  clear B hR hS 
  rintro W ⟨B, hR, hS⟩
  refine put_tail (A := ?AA1) 7 (fun V kk => put4 V kk t) (by kernel_rfl) (by kernel_rfl) rfl rfl rfl (alloc_num _ _ _) (fun V V0 h0 h1 => below_put4 (alloc_below h0 h1) h0.size) (fun V hV => ?HH1) (fun V V0 h0 h1 => ?EE1) (fun V0 V w1 h0 h1 h2 => ?TT1)
  case HH1 =>
    have ghS := (hS.keep hV).1.grown
    unfold Gr
    simp only [List.take_succ_cons, List.take_zero]
    repeat
      first
        | go_big_quiet_skip
        | (go_big_quiet_want; go_big_quiet_op; go_big_quiet_on)
        | (go_big_quiet_want
           go_big_quiet_op
           apply Exists.intro
           refine ⟨fun p => ?_, ?_⟩
           · (first | (go_at_call 65; with_reducible exact Calls.regrown_of (OR.out _)) | (go_at_call 70; with_reducible exact Calls.regrown_of (SB.out _)))
           go_big_quiet_on)
    refine wpQuiet_nil ?_
    exact rfl
  case EE1 =>
    obtain ⟨c0, c1, c2, c3⟩ := ((Blank.new rfl).keep h1).1.all4
    obtain ⟨f0, f1, f2, f3⟩ := ((Blank.new rfl).keep h1).2.all4
    unfold put4
    simp [execOp, Act.put, Act.eval, go_sem, c0, c1, c2, c3, f0, f1, f2, f3]
  case TT1 =>
    have hN := (((Blank.new rfl).keep h1).put4 t).keep h2
    have hb := alloc_below h0 h1
    have nhR : V0.heap.size ≠ br := Nat.ne_of_gt (Nat.lt_of_lt_of_le hR.lt h0.size)
    have nhS : V0.heap.size ≠ bs := Nat.ne_of_gt (Nat.lt_of_lt_of_le hS.lt h0.size)
    have gn : w.heap.size ≤ V0.heap.size := Nat.le_trans B.size h0.size
    have B1 := below_put4 (m := t) (B.trans (hb.mono B.size)) gn
    replace B := B1.trans (h2.mono B1.size)
    replace hR := ((hR.keep hb).put4 nhR).keep h2
    replace hS := ((hS.keep hb).put4 nhS).keep h2
    clear hb h0 h1 h2 B1 W gn
    generalize V0.heap.size = bl at *
    clear V V0
    have gN := hN.cells; have gS := hS.1.cells
    have q4 := hS.2 4 (by decide); have q5 := hS.2 5 (by decide); have q6 := hS.2 6 (by decide); have q7 := hS.2 7 (by decide); have q8 := hS.2 8 (by decide)
    have nsr : bs ≠ br := nsr0.out
    have nrs := nsr.symm
    have gbs := gbs0.out
    have nsl := nhS.symm; have nlr := nhR.symm
    simp only [List.drop_succ_cons, List.drop_zero, Act.put, List.setIfInBounds_toArray, List.set_cons_zero, List.set_cons_succ]
    have gR := hR.cells; have fR := hR.free
    go_wp2
    simp [bodyPost, results, Tryz.results33, go_sem, gR]
    repeat (first | with_reducible exact B | with_reducible refine Below.setCell ?_ o3 _ | with_reducible refine Below.setCell ?_ gbs _)
end Go.Proofs.YtncpjgpioajbeaaGreatDoor
