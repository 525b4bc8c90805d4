import Derived.Test.YtjlilnjggmelgaaDoorCBkP
import Derived.Test.YtjlilnjggmelgaaDoorCSumK
import Derived.Test.YtjlilnjggmelgaaDoorQAlloc
import Derived.Test.YtjlilnjggmelgaaDoorCBlend
import Derived.Test.YtjlilnjggmelgaaDoorUbA
namespace Go.Proofs.YtjlilnjggmelgaaDoor
open Go.RowKit Go.Sort

theorem alloc_ptZ (dst : Option Tmp) (pos : String) (ty : TypeId) (ρ : Operand → Value) (w : World) : (execOp ρ { dst := dst, op := Op.alloc 28, type := ty, pos := pos, after := #[], guard := none }).run Tryd.prog w = .ok (.value (.pointer (some ⟨w.heap.size, 0, none⟩))) (w.alloc (.cells #[.int .u64 0, .int .u64 0, .int .u64 0, .int .u64 0, .int .u64 0, .int .u64 0, .int .u64 0, .int .u64 0, .bool false] 28)) := by
  simp [execOp, go_sem]
theorem Bk9.put9Z {W : World} {b b' : Nat} {x' y' : Int} {j : Bool} (h : Bk9 W b) (ne : b' ≠ b) : Bk9 (Go.Proofs.YtjlilnjggmelgaaDoor.put9 W b' x' y' j) b := by
  unfold Go.Proofs.YtjlilnjggmelgaaDoor.put9
  exact ⟨Cl.set (Cl.set (Cl.set (Cl.set (Cl.set (Cl.set (Cl.set (Cl.set (Cl.set (h.1) ne _) ne _) ne _) ne _) ne _) ne _) ne _) ne _) ne _, ((((((((h.2.set _ _).set _ _).set _ _).set _ _).set _ _).set _ _).set _ _).set _ _).set _ _⟩
set_option maxRecDepth 100000 in
set_option maxHeartbeats 8000000 in
theorem rparse_len {a : Option Addr} {n c : Nat} (h1 : n ≠ 33) (h2 : n ≠ 65) (w : World) :
    Calls Tryd.prog 6 #[.slice a n c] w fun e w' => e = .returned (.tuple #[.agg #[.int .u64 0, .int .u64 0, .int .u64 0, .int .u64 0, .int .u64 0, .int .u64 0, .int .u64 0, .int .u64 0, .bool false], .int .i64 51]) ∧ Below w.heap.size w w' := by
  have h1' : ¬ ((n : Int) = 33) := by omega
  have h2' : ¬ ((n : Int) = 65) := by omega
  go_enter Tryd.func6, Tryd.ntmps6
  go_wp2
  simp [bodyPost, results, Tryd.results6, go_sem]
  repeat (first | with_reducible exact Below.refl _ _ | with_reducible refine Below.drew ?_ | with_reducible refine Below.alloc ?_ (by first | omega | (simp; done) | (simp; omega)) _ | with_reducible refine Below.setCell ?_ (by first | omega | (simp; done)) _)
set_option maxRecDepth 100000 in
set_option maxHeartbeats 8000000 in
theorem rparse_f33 {bb ob c : Nat} {f : Int} (q2 : ¬ f = 2) (q3 : ¬ f = 3) (w : World) (HF : Hid (∀ W, Below w.heap.size w W → W.cell? ⟨bb, ob, none⟩ = some (.int .u8 f))) :
    Calls Tryd.prog 6 #[.slice (some ⟨bb, ob, none⟩) 33 c] w fun e w' => e = .returned (.tuple #[.agg #[.int .u64 0, .int .u64 0, .int .u64 0, .int .u64 0, .int .u64 0, .int .u64 0, .int .u64 0, .int .u64 0, .bool false], .int .i64 51]) ∧ Below w.heap.size w w' := by
  have k2 : (f == 2) = false := beq_false_of_ne q2
  have k3 : (f == 3) = false := beq_false_of_ne q3
  have c0 : ∀ o, (w.alloc o).cell? ⟨bb, ob, none⟩ = some (.int .u8 f) := fun o => HF.out _ ((Below.refl _ _).alloc (Nat.le_refl _) o)
  go_enter Tryd.func6, Tryd.ntmps6
  go_wp2
  simp [bodyPost, results, Tryd.results6, go_sem]
  repeat (first | with_reducible exact Below.refl _ _ | with_reducible refine Below.drew ?_ | with_reducible refine Below.alloc ?_ (by first | omega | (simp; done) | (simp; omega)) _ | with_reducible refine Below.setCell ?_ (by first | omega | (simp; done)) _)
set_option maxRecDepth 100000 in
set_option maxHeartbeats 8000000 in
theorem rparse_f65 {bb ob c : Nat} {f : Int} (q4 : ¬ f = 4) (w : World) (HF : Hid (∀ W, Below w.heap.size w W → W.cell? ⟨bb, ob, none⟩ = some (.int .u8 f))) :
    Calls Tryd.prog 6 #[.slice (some ⟨bb, ob, none⟩) 65 c] w fun e w' => e = .returned (.tuple #[.agg #[.int .u64 0, .int .u64 0, .int .u64 0, .int .u64 0, .int .u64 0, .int .u64 0, .int .u64 0, .int .u64 0, .bool false], .int .i64 51]) ∧ Below w.heap.size w w' := by
  have k4 : (f == 4) = false := beq_false_of_ne q4
  have c0 : ∀ o, (w.alloc o).cell? ⟨bb, ob, none⟩ = some (.int .u8 f) := fun o => HF.out _ ((Below.refl _ _).alloc (Nat.le_refl _) o)
  go_enter Tryd.func6, Tryd.ntmps6
  go_wp2
  simp [bodyPost, results, Tryd.results6, go_sem]
  repeat (first | with_reducible exact Below.refl _ _ | with_reducible refine Below.drew ?_ | with_reducible refine Below.alloc ?_ (by first | omega | (simp; done) | (simp; omega)) _ | with_reducible refine Below.setCell ?_ (by first | omega | (simp; done)) _)
set_option maxRecDepth 100000 in
set_option maxHeartbeats 8000000 in
theorem rparse_x2 {bb ob c : Nat} {x : Int} (hc : 33 ≤ c) (w : World) (HF : Hid (∀ W, Below w.heap.size w W → W.cell? ⟨bb, ob, none⟩ = some (.int .u8 2))) (G1 : Hid (∀ W, Below w.heap.size w W → Calls Tryd.prog 12 #[.slice (some ⟨bb, ob + 1, none⟩) 32 (c - 1)] W fun e w' => e = .returned (.tuple #[.agg #[.int .u64 (l0 x), .int .u64 (l1 x), .int .u64 (l2 x), .int .u64 (l3 x)], .int .i64 0]) ∧ Below W.heap.size W w')) (L1 : Hid (∀ w, Calls Tryd.prog 13 #[.agg #[.int .u64 (l0 x), .int .u64 (l1 x), .int .u64 (l2 x), .int .u64 (l3 x)]] w fun e w' => e = .returned (.bool false) ∧ Below w.heap.size w w')) :
    Calls Tryd.prog 6 #[.slice (some ⟨bb, ob, none⟩) 33 c] w fun e w' => e = .returned (.tuple #[.agg #[.int .u64 0, .int .u64 0, .int .u64 0, .int .u64 0, .int .u64 0, .int .u64 0, .int .u64 0, .int .u64 0, .bool false], .int .i64 51]) ∧ Below w.heap.size w w' := by
  have nc1 : (33 : Int) ≤ (c : Int) := by omega
  have nc2 : c ≠ 1 := by omega
  have nc3 : (33 : Int) ≤ (c : Int) := by omega
  have nc4 : c ≠ 0 := by omega
  have c0 : ∀ o, (w.alloc o).cell? ⟨bb, ob, none⟩ = some (.int .u8 2) := fun o => HF.out _ ((Below.refl _ _).alloc (Nat.le_refl _) o)
  have o3 : w.heap.size ≤ w.heap.size := Nat.le_refl _
  go_enter Tryd.func6, Tryd.ntmps6
  go_wp2_with fail
  refine calls_world (fun W => Below w.heap.size w W ∧ Bk9 W w.heap.size) ⟨by repeat (first | with_reducible exact Below.refl _ _ | with_reducible refine Below.alloc ?_ (by first | omega | (simp; done) | (simp; omega)) _), Bk9.new rfl⟩ ?_
  clear c0
  rintro W ⟨B, hR⟩
  with_reducible refine (G1.out W B).mono ?_
  rintro e w1 ⟨rfl, hb⟩
  replace B := B.trans (hb.mono B.size)
  replace hR := hR.keep hb
  clear hb W
  go_wp2_with fail
  refine calls_world (fun W => Below w.heap.size w W ∧ Bk9 W w.heap.size ∧ Nm W w1.heap.size x) ⟨B.alloc B.size _, hR.alloc _, Nm.newb rfl⟩ ?_
  clear B hR
  rintro W ⟨B, hR, hX⟩
  generalize w1.heap.size = bx at *
  clear w1
  with_reducible refine (L1.out W).mono ?_
  rintro e w2 ⟨rfl, hb⟩
  replace B := B.trans (hb.mono B.size)
  replace hR := hR.keep hb
  replace hX := hX.keep hb
  clear hb W
  have gR := hR.cells
  have fR := hR.free
  go_wp2
  simp [bodyPost, results, Tryd.results6, go_sem, gR]
  repeat (first | with_reducible exact B | with_reducible refine Below.setCell ?_ o3 _)
set_option maxRecDepth 100000 in
set_option maxHeartbeats 8000000 in
theorem rparse_x3 {bb ob c : Nat} {x : Int} (hc : 33 ≤ c) (w : World) (HF : Hid (∀ W, Below w.heap.size w W → W.cell? ⟨bb, ob, none⟩ = some (.int .u8 3))) (G1 : Hid (∀ W, Below w.heap.size w W → Calls Tryd.prog 12 #[.slice (some ⟨bb, ob + 1, none⟩) 32 (c - 1)] W fun e w' => e = .returned (.tuple #[.agg #[.int .u64 (l0 x), .int .u64 (l1 x), .int .u64 (l2 x), .int .u64 (l3 x)], .int .i64 0]) ∧ Below W.heap.size W w')) (L1 : Hid (∀ w, Calls Tryd.prog 13 #[.agg #[.int .u64 (l0 x), .int .u64 (l1 x), .int .u64 (l2 x), .int .u64 (l3 x)]] w fun e w' => e = .returned (.bool false) ∧ Below w.heap.size w w')) :
    Calls Tryd.prog 6 #[.slice (some ⟨bb, ob, none⟩) 33 c] w fun e w' => e = .returned (.tuple #[.agg #[.int .u64 0, .int .u64 0, .int .u64 0, .int .u64 0, .int .u64 0, .int .u64 0, .int .u64 0, .int .u64 0, .bool false], .int .i64 51]) ∧ Below w.heap.size w w' := by
  have nc1 : (33 : Int) ≤ (c : Int) := by omega
  have nc2 : c ≠ 1 := by omega
  have nc3 : (33 : Int) ≤ (c : Int) := by omega
  have nc4 : c ≠ 0 := by omega
  have c0 : ∀ o, (w.alloc o).cell? ⟨bb, ob, none⟩ = some (.int .u8 3) := fun o => HF.out _ ((Below.refl _ _).alloc (Nat.le_refl _) o)
  have o3 : w.heap.size ≤ w.heap.size := Nat.le_refl _
  go_enter Tryd.func6, Tryd.ntmps6
  go_wp2_with fail
  refine calls_world (fun W => Below w.heap.size w W ∧ Bk9 W w.heap.size) ⟨by repeat (first | with_reducible exact Below.refl _ _ | with_reducible refine Below.alloc ?_ (by first | omega | (simp; done) | (simp; omega)) _), Bk9.new rfl⟩ ?_
  clear c0
  rintro W ⟨B, hR⟩
  with_reducible refine (G1.out W B).mono ?_
  rintro e w1 ⟨rfl, hb⟩
  replace B := B.trans (hb.mono B.size)
  replace hR := hR.keep hb
  clear hb W
  go_wp2_with fail
  refine calls_world (fun W => Below w.heap.size w W ∧ Bk9 W w.heap.size ∧ Nm W w1.heap.size x) ⟨B.alloc B.size _, hR.alloc _, Nm.newb rfl⟩ ?_
  clear B hR
  rintro W ⟨B, hR, hX⟩
  generalize w1.heap.size = bx at *
  clear w1
  with_reducible refine (L1.out W).mono ?_
  rintro e w2 ⟨rfl, hb⟩
  replace B := B.trans (hb.mono B.size)
  replace hR := hR.keep hb
  replace hX := hX.keep hb
  clear hb W
  have gR := hR.cells
  have fR := hR.free
  go_wp2
  simp [bodyPost, results, Tryd.results6, go_sem, gR]
  repeat (first | with_reducible exact B | with_reducible refine Below.setCell ?_ o3 _)
set_option maxRecDepth 100000 in
set_option maxHeartbeats 8000000 in
theorem rparse_x4 {bb ob c : Nat} {x : Int} (hc : 65 ≤ c) (w : World) (HF : Hid (∀ W, Below w.heap.size w W → W.cell? ⟨bb, ob, none⟩ = some (.int .u8 4))) (G1 : Hid (∀ W, Below w.heap.size w W → Calls Tryd.prog 12 #[.slice (some ⟨bb, ob + 1, none⟩) 32 (c - 1)] W fun e w' => e = .returned (.tuple #[.agg #[.int .u64 (l0 x), .int .u64 (l1 x), .int .u64 (l2 x), .int .u64 (l3 x)], .int .i64 0]) ∧ Below W.heap.size W w')) (L1 : Hid (∀ w, Calls Tryd.prog 13 #[.agg #[.int .u64 (l0 x), .int .u64 (l1 x), .int .u64 (l2 x), .int .u64 (l3 x)]] w fun e w' => e = .returned (.bool false) ∧ Below w.heap.size w w')) :
    Calls Tryd.prog 6 #[.slice (some ⟨bb, ob, none⟩) 65 c] w fun e w' => e = .returned (.tuple #[.agg #[.int .u64 0, .int .u64 0, .int .u64 0, .int .u64 0, .int .u64 0, .int .u64 0, .int .u64 0, .int .u64 0, .bool false], .int .i64 51]) ∧ Below w.heap.size w w' := by
  have nc1 : (65 : Int) ≤ (c : Int) := by omega
  have nc2 : c ≠ 1 := by omega
  have nc3 : (33 : Int) ≤ (c : Int) := by omega
  have nc4 : c ≠ 33 := by omega
  have c0 : ∀ o, (w.alloc o).cell? ⟨bb, ob, none⟩ = some (.int .u8 4) := fun o => HF.out _ ((Below.refl _ _).alloc (Nat.le_refl _) o)
  have o3 : w.heap.size ≤ w.heap.size := Nat.le_refl _
  go_enter Tryd.func6, Tryd.ntmps6
  go_wp2_with fail
  refine calls_world (fun W => Below w.heap.size w W ∧ Bk9 W w.heap.size) ⟨by repeat (first | with_reducible exact Below.refl _ _ | with_reducible refine Below.alloc ?_ (by first | omega | (simp; done) | (simp; omega)) _), Bk9.new rfl⟩ ?_
  clear c0
  rintro W ⟨B, hR⟩
  with_reducible refine (G1.out W B).mono ?_
  rintro e w1 ⟨rfl, hb⟩
  replace B := B.trans (hb.mono B.size)
  replace hR := hR.keep hb
  clear hb W
  go_wp2_with fail
  refine calls_world (fun W => Below w.heap.size w W ∧ Bk9 W w.heap.size ∧ Nm W w1.heap.size x) ⟨B.alloc B.size _, hR.alloc _, Nm.newb rfl⟩ ?_
  clear B hR
  rintro W ⟨B, hR, hX⟩
  generalize w1.heap.size = bx at *
  clear w1
  with_reducible refine (L1.out W).mono ?_
  rintro e w2 ⟨rfl, hb⟩
  replace B := B.trans (hb.mono B.size)
  replace hR := hR.keep hb
  replace hX := hX.keep hb
  clear hb W
  have gR := hR.cells
  have fR := hR.free
  go_wp2
  simp [bodyPost, results, Tryd.results6, go_sem, gR]
  repeat (first | with_reducible exact B | with_reducible refine Below.setCell ?_ o3 _)
set_option maxRecDepth 100000 in
set_option maxHeartbeats 8000000 in
theorem rparse_s2 {bb ob c : Nat} {x X Y ee : Int} (hc : 33 ≤ c) (w : World) (HF : Hid (∀ W, Below w.heap.size w W → W.cell? ⟨bb, ob, none⟩ = some (.int .u8 2))) (G1 : Hid (∀ W, Below w.heap.size w W → Calls Tryd.prog 12 #[.slice (some ⟨bb, ob + 1, none⟩) 32 (c - 1)] W fun e w' => e = .returned (.tuple #[.agg #[.int .u64 (l0 x), .int .u64 (l1 x), .int .u64 (l2 x), .int .u64 (l3 x)], .int .i64 0]) ∧ Below W.heap.size W w')) (L1 : Hid (∀ w, Calls Tryd.prog 13 #[.agg #[.int .u64 (l0 x), .int .u64 (l1 x), .int .u64 (l2 x), .int .u64 (l3 x)]] w fun e w' => e = .returned (.bool true) ∧ Below w.heap.size w w')) (LF : Hid (∀ w, Calls Tryd.prog 14 #[.agg #[.int .u64 (l0 x), .int .u64 (l1 x), .int .u64 (l2 x), .int .u64 (l3 x)], .bool false] w fun e w' => e = .returned (.tuple #[.agg #[.int .u64 (l0 X), .int .u64 (l1 X), .int .u64 (l2 X), .int .u64 (l3 X), .int .u64 (l0 Y), .int .u64 (l1 Y), .int .u64 (l2 Y), .int .u64 (l3 Y), .bool false], .int .i64 ee]) ∧ Below w.heap.size w w')) :
    Calls Tryd.prog 6 #[.slice (some ⟨bb, ob, none⟩) 33 c] w fun e w' => e = .returned (.tuple #[.agg #[.int .u64 (l0 X), .int .u64 (l1 X), .int .u64 (l2 X), .int .u64 (l3 X), .int .u64 (l0 Y), .int .u64 (l1 Y), .int .u64 (l2 Y), .int .u64 (l3 Y), .bool false], .int .i64 ee]) ∧ Below w.heap.size w w' := by
  have nc1 : (33 : Int) ≤ (c : Int) := by omega
  have nc2 : c ≠ 1 := by omega
  have nc3 : (33 : Int) ≤ (c : Int) := by omega
  have nc4 : c ≠ 0 := by omega
  have c0 : ∀ o, (w.alloc o).cell? ⟨bb, ob, none⟩ = some (.int .u8 2) := fun o => HF.out _ ((Below.refl _ _).alloc (Nat.le_refl _) o)
  have o3 : w.heap.size ≤ w.heap.size := Nat.le_refl _
  go_enter Tryd.func6, Tryd.ntmps6
  go_wp2_with fail
  refine calls_world (fun W => Below w.heap.size w W ∧ Bk9 W w.heap.size) ⟨by repeat (first | with_reducible exact Below.refl _ _ | with_reducible refine Below.alloc ?_ (by first | omega | (simp; done) | (simp; omega)) _), Bk9.new rfl⟩ ?_
  clear c0
  rintro W ⟨B, hR⟩
  with_reducible refine (G1.out W B).mono ?_
  rintro e w1 ⟨rfl, hb⟩
  replace B := B.trans (hb.mono B.size)
  replace hR := hR.keep hb
  clear hb W
  go_wp2_with fail
  refine calls_world (fun W => Below w.heap.size w W ∧ Bk9 W w.heap.size ∧ Nm W w1.heap.size x) ⟨B.alloc B.size _, hR.alloc _, Nm.newb rfl⟩ ?_
  clear B hR
  rintro W ⟨B, hR, hX⟩
  generalize w1.heap.size = bx at *
  clear w1
  with_reducible refine (L1.out W).mono ?_
  rintro e w2 ⟨rfl, hb⟩
  replace B := B.trans (hb.mono B.size)
  replace hR := hR.keep hb
  replace hX := hX.keep hb
  clear hb W
  go_wp2_with fail
  refine wp_world (fun W => Below w.heap.size w W ∧ Bk9 W w.heap.size ∧ Nm W bx x) ⟨B, hR, hX⟩ ?_
  clear B hR hX
  rintro W ⟨B, hR, hX⟩
  clear w2
  refine put_tail (A := ?AA1) 9 (fun V k => put9 V k X Y false) (by kernel_rfl) (by kernel_rfl) rfl rfl rfl (alloc_ptZ _ _ _) (fun V V0 h0 h1 => below_put9 (alloc_below h0 h1) h0.size) (fun V hV => ?HH1) (fun V V0 h0 h1 => ?EE1) (fun V0 V w1 h0 h1 h2 => ?TT1)
  case HH1 =>
    have gX := (hX.keep hV).grown
    have gd : ∀ d os, (grow (redrawn V d) os).cell? ⟨bb, ob, none⟩ = some (.int .u8 2) := fun d os => by
      have b1 := B.trans (hV.mono B.size)
      exact HF.out (grow (redrawn V d) os) (b1.trans ((below_regrown V d os).mono b1.size))
    unfold Gr
    simp only [List.take_succ_cons, List.take_zero]
    repeat
      first
        | go_big_quiet_skip
        | (go_big_quiet_want; go_big_quiet_op; go_big_quiet_on)
        | (go_big_quiet_want
           go_big_quiet_op
           apply Exists.intro
           refine ⟨fun p => ?_, ?_⟩
           · (go_at_call 14; with_reducible exact Calls.regrown_of (LF.out _))
           go_big_quiet_on)
    refine wpQuiet_nil ?_
    exact rfl
  case EE1 =>
    obtain ⟨c0, c1, c2, c3, c4, c5, c6, c7, c8⟩ := ((Bk9.new rfl).keep h1).cells
    obtain ⟨f0, f1, f2, f3, f4, f5, f6, f7, f8⟩ := ((Bk9.new rfl).keep h1).free
    unfold put9
    simp [execOp, Act.put, Act.eval, go_sem, c0, c1, c2, c3, c4, c5, c6, c7, c8, f0, f1, f2, f3, f4, f5, f6, f7, f8]
  case TT1 =>
  have hN := (((Bk9.new rfl).keep h1).put9 X Y false).keep h2
  have hb := alloc_below h0 h1
  have nhR : V0.heap.size ≠ w.heap.size := Nat.ne_of_gt (Nat.lt_of_lt_of_le hR.lt h0.size)
  have gn : w.heap.size ≤ V0.heap.size := Nat.le_trans B.size h0.size
  have B1 := below_put9 (x' := X) (y' := Y) (j := false) (B.trans (hb.mono B.size)) gn
  replace B := B1.trans (h2.mono B1.size)
  replace hR := ((hR.keep hb).put9Z nhR).keep h2
  clear hb h0 h1 h2 B1 W hX
  generalize V0.heap.size = bs at *
  clear V V0
  have gN := hN.cells
  have mhR := nhR.symm
  have gR := hR.cells
  have fR := hR.free
  simp only [List.drop_succ_cons, List.drop_zero, Act.put, List.setIfInBounds_toArray, List.set_cons_zero, List.set_cons_succ]
  go_wp2
  simp [bodyPost, results, Tryd.results6, go_sem, gR]
  repeat (first | with_reducible exact B | with_reducible refine Below.setCell ?_ o3 _ | with_reducible refine Below.setCell ?_ gn _)
set_option maxRecDepth 100000 in
set_option maxHeartbeats 8000000 in
theorem rparse_s3 {bb ob c : Nat} {x X Y ee : Int} (hc : 33 ≤ c) (w : World) (HF : Hid (∀ W, Below w.heap.size w W → W.cell? ⟨bb, ob, none⟩ = some (.int .u8 3))) (G1 : Hid (∀ W, Below w.heap.size w W → Calls Tryd.prog 12 #[.slice (some ⟨bb, ob + 1, none⟩) 32 (c - 1)] W fun e w' => e = .returned (.tuple #[.agg #[.int .u64 (l0 x), .int .u64 (l1 x), .int .u64 (l2 x), .int .u64 (l3 x)], .int .i64 0]) ∧ Below W.heap.size W w')) (L1 : Hid (∀ w, Calls Tryd.prog 13 #[.agg #[.int .u64 (l0 x), .int .u64 (l1 x), .int .u64 (l2 x), .int .u64 (l3 x)]] w fun e w' => e = .returned (.bool true) ∧ Below w.heap.size w w')) (LF : Hid (∀ w, Calls Tryd.prog 14 #[.agg #[.int .u64 (l0 x), .int .u64 (l1 x), .int .u64 (l2 x), .int .u64 (l3 x)], .bool true] w fun e w' => e = .returned (.tuple #[.agg #[.int .u64 (l0 X), .int .u64 (l1 X), .int .u64 (l2 X), .int .u64 (l3 X), .int .u64 (l0 Y), .int .u64 (l1 Y), .int .u64 (l2 Y), .int .u64 (l3 Y), .bool false], .int .i64 ee]) ∧ Below w.heap.size w w')) :
    Calls Tryd.prog 6 #[.slice (some ⟨bb, ob, none⟩) 33 c] w fun e w' => e = .returned (.tuple #[.agg #[.int .u64 (l0 X), .int .u64 (l1 X), .int .u64 (l2 X), .int .u64 (l3 X), .int .u64 (l0 Y), .int .u64 (l1 Y), .int .u64 (l2 Y), .int .u64 (l3 Y), .bool false], .int .i64 ee]) ∧ Below w.heap.size w w' := by
  have nc1 : (33 : Int) ≤ (c : Int) := by omega
  have nc2 : c ≠ 1 := by omega
  have nc3 : (33 : Int) ≤ (c : Int) := by omega
  have nc4 : c ≠ 0 := by omega
  have c0 : ∀ o, (w.alloc o).cell? ⟨bb, ob, none⟩ = some (.int .u8 3) := fun o => HF.out _ ((Below.refl _ _).alloc (Nat.le_refl _) o)
  have o3 : w.heap.size ≤ w.heap.size := Nat.le_refl _
  go_enter Tryd.func6, Tryd.ntmps6
  go_wp2_with fail
  refine calls_world (fun W => Below w.heap.size w W ∧ Bk9 W w.heap.size) ⟨by repeat (first | with_reducible exact Below.refl _ _ | with_reducible refine Below.alloc ?_ (by first | omega | (simp; done) | (simp; omega)) _), Bk9.new rfl⟩ ?_
  clear c0
  rintro W ⟨B, hR⟩
  with_reducible refine (G1.out W B).mono ?_
  rintro e w1 ⟨rfl, hb⟩
  replace B := B.trans (hb.mono B.size)
  replace hR := hR.keep hb
  clear hb W
  go_wp2_with fail
  refine calls_world (fun W => Below w.heap.size w W ∧ Bk9 W w.heap.size ∧ Nm W w1.heap.size x) ⟨B.alloc B.size _, hR.alloc _, Nm.newb rfl⟩ ?_
  clear B hR
  rintro W ⟨B, hR, hX⟩
  generalize w1.heap.size = bx at *
  clear w1
  with_reducible refine (L1.out W).mono ?_
  rintro e w2 ⟨rfl, hb⟩
  replace B := B.trans (hb.mono B.size)
  replace hR := hR.keep hb
  replace hX := hX.keep hb
  clear hb W
  go_wp2_with fail
  refine wp_world (fun W => Below w.heap.size w W ∧ Bk9 W w.heap.size ∧ Nm W bx x) ⟨B, hR, hX⟩ ?_
  clear B hR hX
  rintro W ⟨B, hR, hX⟩
  clear w2
  refine put_tail (A := ?AA1) 9 (fun V k => put9 V k X Y false) (by kernel_rfl) (by kernel_rfl) rfl rfl rfl (alloc_ptZ _ _ _) (fun V V0 h0 h1 => below_put9 (alloc_below h0 h1) h0.size) (fun V hV => ?HH1) (fun V V0 h0 h1 => ?EE1) (fun V0 V w1 h0 h1 h2 => ?TT1)
  case HH1 =>
    have gX := (hX.keep hV).grown
    have gd : ∀ d os, (grow (redrawn V d) os).cell? ⟨bb, ob, none⟩ = some (.int .u8 3) := fun d os => by
      have b1 := B.trans (hV.mono B.size)
      exact HF.out (grow (redrawn V d) os) (b1.trans ((below_regrown V d os).mono b1.size))
    unfold Gr
    simp only [List.take_succ_cons, List.take_zero]
    repeat
      first
        | go_big_quiet_skip
        | (go_big_quiet_want; go_big_quiet_op; go_big_quiet_on)
        | (go_big_quiet_want
           go_big_quiet_op
           apply Exists.intro
           refine ⟨fun p => ?_, ?_⟩
           · (go_at_call 14; with_reducible exact Calls.regrown_of (LF.out _))
           go_big_quiet_on)
    refine wpQuiet_nil ?_
    exact rfl
  case EE1 =>
    obtain ⟨c0, c1, c2, c3, c4, c5, c6, c7, c8⟩ := ((Bk9.new rfl).keep h1).cells
    obtain ⟨f0, f1, f2, f3, f4, f5, f6, f7, f8⟩ := ((Bk9.new rfl).keep h1).free
    unfold put9
    simp [execOp, Act.put, Act.eval, go_sem, c0, c1, c2, c3, c4, c5, c6, c7, c8, f0, f1, f2, f3, f4, f5, f6, f7, f8]
  case TT1 =>
  have hN := (((Bk9.new rfl).keep h1).put9 X Y false).keep h2
  have hb := alloc_below h0 h1
  have nhR : V0.heap.size ≠ w.heap.size := Nat.ne_of_gt (Nat.lt_of_lt_of_le hR.lt h0.size)
  have gn : w.heap.size ≤ V0.heap.size := Nat.le_trans B.size h0.size
  have B1 := below_put9 (x' := X) (y' := Y) (j := false) (B.trans (hb.mono B.size)) gn
  replace B := B1.trans (h2.mono B1.size)
  replace hR := ((hR.keep hb).put9Z nhR).keep h2
  clear hb h0 h1 h2 B1 W hX
  generalize V0.heap.size = bs at *
  clear V V0
  have gN := hN.cells
  have mhR := nhR.symm
  have gR := hR.cells
  have fR := hR.free
  simp only [List.drop_succ_cons, List.drop_zero, Act.put, List.setIfInBounds_toArray, List.set_cons_zero, List.set_cons_succ]
  go_wp2
  simp [bodyPost, results, Tryd.results6, go_sem, gR]
  repeat (first | with_reducible exact B | with_reducible refine Below.setCell ?_ o3 _ | with_reducible refine Below.setCell ?_ gn _)
set_option maxRecDepth 100000 in
set_option maxHeartbeats 8000000 in
theorem rparse_y {bb ob c : Nat} {x y : Int} (hc : 65 ≤ c) (w : World) (HF : Hid (∀ W, Below w.heap.size w W → W.cell? ⟨bb, ob, none⟩ = some (.int .u8 4))) (G1 : Hid (∀ W, Below w.heap.size w W → Calls Tryd.prog 12 #[.slice (some ⟨bb, ob + 1, none⟩) 32 (c - 1)] W fun e w' => e = .returned (.tuple #[.agg #[.int .u64 (l0 x), .int .u64 (l1 x), .int .u64 (l2 x), .int .u64 (l3 x)], .int .i64 0]) ∧ Below W.heap.size W w')) (L1 : Hid (∀ w, Calls Tryd.prog 13 #[.agg #[.int .u64 (l0 x), .int .u64 (l1 x), .int .u64 (l2 x), .int .u64 (l3 x)]] w fun e w' => e = .returned (.bool true) ∧ Below w.heap.size w w')) (G2 : Hid (∀ W, Below w.heap.size w W → Calls Tryd.prog 12 #[.slice (some ⟨bb, ob + 33, none⟩) 32 (c - 33)] W fun e w' => e = .returned (.tuple #[.agg #[.int .u64 (l0 y), .int .u64 (l1 y), .int .u64 (l2 y), .int .u64 (l3 y)], .int .i64 0]) ∧ Below W.heap.size W w')) (L2 : Hid (∀ w, Calls Tryd.prog 13 #[.agg #[.int .u64 (l0 y), .int .u64 (l1 y), .int .u64 (l2 y), .int .u64 (l3 y)]] w fun e w' => e = .returned (.bool false) ∧ Below w.heap.size w w')) :
    Calls Tryd.prog 6 #[.slice (some ⟨bb, ob, none⟩) 65 c] w fun e w' => e = .returned (.tuple #[.agg #[.int .u64 0, .int .u64 0, .int .u64 0, .int .u64 0, .int .u64 0, .int .u64 0, .int .u64 0, .int .u64 0, .bool false], .int .i64 51]) ∧ Below w.heap.size w w' := by
  have nc1 : (65 : Int) ≤ (c : Int) := by omega
  have nc2 : c ≠ 1 := by omega
  have nc3 : (33 : Int) ≤ (c : Int) := by omega
  have nc4 : c ≠ 33 := by omega
  have c0 : ∀ o, (w.alloc o).cell? ⟨bb, ob, none⟩ = some (.int .u8 4) := fun o => HF.out _ ((Below.refl _ _).alloc (Nat.le_refl _) o)
  have o3 : w.heap.size ≤ w.heap.size := Nat.le_refl _
  go_enter Tryd.func6, Tryd.ntmps6
  go_wp2_with fail
  refine calls_world (fun W => Below w.heap.size w W ∧ Bk9 W w.heap.size) ⟨by repeat (first | with_reducible exact Below.refl _ _ | with_reducible refine Below.alloc ?_ (by first | omega | (simp; done) | (simp; omega)) _), Bk9.new rfl⟩ ?_
  clear c0
  rintro W ⟨B, hR⟩
  with_reducible refine (G1.out W B).mono ?_
  rintro e w1 ⟨rfl, hb⟩
  replace B := B.trans (hb.mono B.size)
  replace hR := hR.keep hb
  clear hb W
  go_wp2_with fail
  refine calls_world (fun W => Below w.heap.size w W ∧ Bk9 W w.heap.size ∧ Nm W w1.heap.size x) ⟨B.alloc B.size _, hR.alloc _, Nm.newb rfl⟩ ?_
  clear B hR
  rintro W ⟨B, hR, hX⟩
  generalize w1.heap.size = bx at *
  clear w1
  with_reducible refine (L1.out W).mono ?_
  rintro e w2 ⟨rfl, hb⟩
  replace B := B.trans (hb.mono B.size)
  replace hR := hR.keep hb
  replace hX := hX.keep hb
  clear hb W
  go_wp2_with fail
  with_reducible refine (G2.out w2 B).mono ?_
  rintro e w3 ⟨rfl, hb⟩
  replace B := B.trans (hb.mono B.size)
  replace hR := hR.keep hb
  replace hX := hX.keep hb
  clear hb
  go_wp2_with fail
  refine calls_world (fun W => Below w.heap.size w W ∧ Bk9 W w.heap.size ∧ Nm W bx x ∧ Nm W w3.heap.size y) ⟨B.alloc B.size _, hR.alloc _, hX.alloc _, Nm.newb rfl⟩ ?_
  clear B hR hX
  rintro W ⟨B, hR, hX, hY⟩
  generalize w3.heap.size = bv at *
  clear w3
  with_reducible refine (L2.out W).mono ?_
  rintro e w4 ⟨rfl, hb⟩
  replace B := B.trans (hb.mono B.size)
  replace hR := hR.keep hb
  replace hX := hX.keep hb
  replace hY := hY.keep hb
  clear hb W
  have gR := hR.cells
  have fR := hR.free
  go_wp2
  simp [bodyPost, results, Tryd.results6, go_sem, gR]
  repeat (first | with_reducible exact B | with_reducible refine Below.setCell ?_ o3 _)
set_option maxRecDepth 100000 in
set_option maxHeartbeats 8000000 in
theorem rparse_off {bb ob c : Nat} {x y : Int} (hc : 65 ≤ c) (w : World) (HF : Hid (∀ W, Below w.heap.size w W → W.cell? ⟨bb, ob, none⟩ = some (.int .u8 4))) (G1 : Hid (∀ W, Below w.heap.size w W → Calls Tryd.prog 12 #[.slice (some ⟨bb, ob + 1, none⟩) 32 (c - 1)] W fun e w' => e = .returned (.tuple #[.agg #[.int .u64 (l0 x), .int .u64 (l1 x), .int .u64 (l2 x), .int .u64 (l3 x)], .int .i64 0]) ∧ Below W.heap.size W w')) (L1 : Hid (∀ w, Calls Tryd.prog 13 #[.agg #[.int .u64 (l0 x), .int .u64 (l1 x), .int .u64 (l2 x), .int .u64 (l3 x)]] w fun e w' => e = .returned (.bool true) ∧ Below w.heap.size w w')) (G2 : Hid (∀ W, Below w.heap.size w W → Calls Tryd.prog 12 #[.slice (some ⟨bb, ob + 33, none⟩) 32 (c - 33)] W fun e w' => e = .returned (.tuple #[.agg #[.int .u64 (l0 y), .int .u64 (l1 y), .int .u64 (l2 y), .int .u64 (l3 y)], .int .i64 0]) ∧ Below W.heap.size W w')) (L2 : Hid (∀ w, Calls Tryd.prog 13 #[.agg #[.int .u64 (l0 y), .int .u64 (l1 y), .int .u64 (l2 y), .int .u64 (l3 y)]] w fun e w' => e = .returned (.bool true) ∧ Below w.heap.size w w')) (ON : Hid (∀ w, Calls Tryd.prog 15 #[.agg #[.int .u64 (l0 x), .int .u64 (l1 x), .int .u64 (l2 x), .int .u64 (l3 x), .int .u64 (l0 y), .int .u64 (l1 y), .int .u64 (l2 y), .int .u64 (l3 y), .bool false]] w fun e w' => e = .returned (.bool false) ∧ Below w.heap.size w w')) :
    Calls Tryd.prog 6 #[.slice (some ⟨bb, ob, none⟩) 65 c] w fun e w' => e = .returned (.tuple #[.agg #[.int .u64 0, .int .u64 0, .int .u64 0, .int .u64 0, .int .u64 0, .int .u64 0, .int .u64 0, .int .u64 0, .bool false], .int .i64 50]) ∧ Below w.heap.size w w' := by
  have nc1 : (65 : Int) ≤ (c : Int) := by omega
  have nc2 : c ≠ 1 := by omega
  have nc3 : (33 : Int) ≤ (c : Int) := by omega
  have nc4 : c ≠ 33 := by omega
  have c0 : ∀ o, (w.alloc o).cell? ⟨bb, ob, none⟩ = some (.int .u8 4) := fun o => HF.out _ ((Below.refl _ _).alloc (Nat.le_refl _) o)
  have o3 : w.heap.size ≤ w.heap.size := Nat.le_refl _
  go_enter Tryd.func6, Tryd.ntmps6
  go_wp2_with fail
  refine calls_world (fun W => Below w.heap.size w W ∧ Bk9 W w.heap.size) ⟨by repeat (first | with_reducible exact Below.refl _ _ | with_reducible refine Below.alloc ?_ (by first | omega | (simp; done) | (simp; omega)) _), Bk9.new rfl⟩ ?_
  clear c0
  rintro W ⟨B, hR⟩
  with_reducible refine (G1.out W B).mono ?_
  rintro e w1 ⟨rfl, hb⟩
  replace B := B.trans (hb.mono B.size)
  replace hR := hR.keep hb
  clear hb W
  go_wp2_with fail
  refine calls_world (fun W => Below w.heap.size w W ∧ Bk9 W w.heap.size ∧ Nm W w1.heap.size x) ⟨B.alloc B.size _, hR.alloc _, Nm.newb rfl⟩ ?_
  clear B hR
  rintro W ⟨B, hR, hX⟩
  generalize w1.heap.size = bx at *
  clear w1
  with_reducible refine (L1.out W).mono ?_
  rintro e w2 ⟨rfl, hb⟩
  replace B := B.trans (hb.mono B.size)
  replace hR := hR.keep hb
  replace hX := hX.keep hb
  clear hb W
  go_wp2_with fail
  with_reducible refine (G2.out w2 B).mono ?_
  rintro e w3 ⟨rfl, hb⟩
  replace B := B.trans (hb.mono B.size)
  replace hR := hR.keep hb
  replace hX := hX.keep hb
  clear hb
  go_wp2_with fail
  refine calls_world (fun W => Below w.heap.size w W ∧ Bk9 W w.heap.size ∧ Nm W bx x ∧ Nm W w3.heap.size y) ⟨B.alloc B.size _, hR.alloc _, hX.alloc _, Nm.newb rfl⟩ ?_
  clear B hR hX
  rintro W ⟨B, hR, hX, hY⟩
  generalize w3.heap.size = bv at *
  clear w3
  with_reducible refine (L2.out W).mono ?_
  rintro e w4 ⟨rfl, hb⟩
  replace B := B.trans (hb.mono B.size)
  replace hR := hR.keep hb
  replace hX := hX.keep hb
  replace hY := hY.keep hb
  clear hb W
  have gX := hX.cells
  have gY := hY.cells
  go_wp2_with fail
  refine calls_world (fun W => Below w.heap.size w W ∧ Bk9 W w.heap.size ∧ Pnt W w4.heap.size x y false) ⟨B.alloc B.size _, hR.alloc _, Pnt.new rfl⟩ ?_
  clear B hR hX hY gX gY
  rintro W ⟨B, hR, hP⟩
  generalize w4.heap.size = bp at *
  clear w4
  with_reducible refine (ON.out W).mono ?_
  rintro e w5 ⟨rfl, hb⟩
  replace B := B.trans (hb.mono B.size)
  replace hR := hR.keep hb
  replace hP := hP.keep hb
  clear hb W
  have gP := hP.cells
  have gR := hR.cells
  have fR := hR.free
  go_wp2
  simp [bodyPost, results, Tryd.results6, go_sem, gR]
  repeat (first | with_reducible exact B | with_reducible refine Below.setCell ?_ o3 _)
set_option maxRecDepth 100000 in
set_option maxHeartbeats 8000000 in
theorem rparse_on {bb ob c : Nat} {x y : Int} (hc : 65 ≤ c) (w : World) (HF : Hid (∀ W, Below w.heap.size w W → W.cell? ⟨bb, ob, none⟩ = some (.int .u8 4))) (G1 : Hid (∀ W, Below w.heap.size w W → Calls Tryd.prog 12 #[.slice (some ⟨bb, ob + 1, none⟩) 32 (c - 1)] W fun e w' => e = .returned (.tuple #[.agg #[.int .u64 (l0 x), .int .u64 (l1 x), .int .u64 (l2 x), .int .u64 (l3 x)], .int .i64 0]) ∧ Below W.heap.size W w')) (L1 : Hid (∀ w, Calls Tryd.prog 13 #[.agg #[.int .u64 (l0 x), .int .u64 (l1 x), .int .u64 (l2 x), .int .u64 (l3 x)]] w fun e w' => e = .returned (.bool true) ∧ Below w.heap.size w w')) (G2 : Hid (∀ W, Below w.heap.size w W → Calls Tryd.prog 12 #[.slice (some ⟨bb, ob + 33, none⟩) 32 (c - 33)] W fun e w' => e = .returned (.tuple #[.agg #[.int .u64 (l0 y), .int .u64 (l1 y), .int .u64 (l2 y), .int .u64 (l3 y)], .int .i64 0]) ∧ Below W.heap.size W w')) (L2 : Hid (∀ w, Calls Tryd.prog 13 #[.agg #[.int .u64 (l0 y), .int .u64 (l1 y), .int .u64 (l2 y), .int .u64 (l3 y)]] w fun e w' => e = .returned (.bool true) ∧ Below w.heap.size w w')) (ON : Hid (∀ w, Calls Tryd.prog 15 #[.agg #[.int .u64 (l0 x), .int .u64 (l1 x), .int .u64 (l2 x), .int .u64 (l3 x), .int .u64 (l0 y), .int .u64 (l1 y), .int .u64 (l2 y), .int .u64 (l3 y), .bool false]] w fun e w' => e = .returned (.bool true) ∧ Below w.heap.size w w')) :
    Calls Tryd.prog 6 #[.slice (some ⟨bb, ob, none⟩) 65 c] w fun e w' => e = .returned (.tuple #[.agg #[.int .u64 (l0 x), .int .u64 (l1 x), .int .u64 (l2 x), .int .u64 (l3 x), .int .u64 (l0 y), .int .u64 (l1 y), .int .u64 (l2 y), .int .u64 (l3 y), .bool false], .int .i64 0]) ∧ Below w.heap.size w w' := by
  have nc1 : (65 : Int) ≤ (c : Int) := by omega
  have nc2 : c ≠ 1 := by omega
  have nc3 : (33 : Int) ≤ (c : Int) := by omega
  have nc4 : c ≠ 33 := by omega
  have c0 : ∀ o, (w.alloc o).cell? ⟨bb, ob, none⟩ = some (.int .u8 4) := fun o => HF.out _ ((Below.refl _ _).alloc (Nat.le_refl _) o)
  have o3 : w.heap.size ≤ w.heap.size := Nat.le_refl _
  go_enter Tryd.func6, Tryd.ntmps6
  go_wp2_with fail
  refine calls_world (fun W => Below w.heap.size w W ∧ Bk9 W w.heap.size) ⟨by repeat (first | with_reducible exact Below.refl _ _ | with_reducible refine Below.alloc ?_ (by first | omega | (simp; done) | (simp; omega)) _), Bk9.new rfl⟩ ?_
  clear c0
  rintro W ⟨B, hR⟩
  with_reducible refine (G1.out W B).mono ?_
  rintro e w1 ⟨rfl, hb⟩
  replace B := B.trans (hb.mono B.size)
  replace hR := hR.keep hb
  clear hb W
  go_wp2_with fail
  refine calls_world (fun W => Below w.heap.size w W ∧ Bk9 W w.heap.size ∧ Nm W w1.heap.size x) ⟨B.alloc B.size _, hR.alloc _, Nm.newb rfl⟩ ?_
  clear B hR
  rintro W ⟨B, hR, hX⟩
  generalize w1.heap.size = bx at *
  clear w1
  with_reducible refine (L1.out W).mono ?_
  rintro e w2 ⟨rfl, hb⟩
  replace B := B.trans (hb.mono B.size)
  replace hR := hR.keep hb
  replace hX := hX.keep hb
  clear hb W
  go_wp2_with fail
  with_reducible refine (G2.out w2 B).mono ?_
  rintro e w3 ⟨rfl, hb⟩
  replace B := B.trans (hb.mono B.size)
  replace hR := hR.keep hb
  replace hX := hX.keep hb
  clear hb
  go_wp2_with fail
  refine calls_world (fun W => Below w.heap.size w W ∧ Bk9 W w.heap.size ∧ Nm W bx x ∧ Nm W w3.heap.size y) ⟨B.alloc B.size _, hR.alloc _, hX.alloc _, Nm.newb rfl⟩ ?_
  clear B hR hX
  rintro W ⟨B, hR, hX, hY⟩
  generalize w3.heap.size = bv at *
  clear w3
  with_reducible refine (L2.out W).mono ?_
  rintro e w4 ⟨rfl, hb⟩
  replace B := B.trans (hb.mono B.size)
  replace hR := hR.keep hb
  replace hX := hX.keep hb
  replace hY := hY.keep hb
  clear hb W
  have gX := hX.cells
  have gY := hY.cells
  go_wp2_with fail
  refine calls_world (fun W => Below w.heap.size w W ∧ Bk9 W w.heap.size ∧ Pnt W w4.heap.size x y false) ⟨B.alloc B.size _, hR.alloc _, Pnt.new rfl⟩ ?_
  clear B hR hX hY gX gY
  rintro W ⟨B, hR, hP⟩
  generalize w4.heap.size = bp at *
  clear w4
  with_reducible refine (ON.out W).mono ?_
  rintro e w5 ⟨rfl, hb⟩
  replace B := B.trans (hb.mono B.size)
  replace hR := hR.keep hb
  replace hP := hP.keep hb
  clear hb W
  have gP := hP.cells
  have gR := hR.cells
  have fR := hR.free
  go_wp2
  simp [bodyPost, results, Tryd.results6, go_sem, gR]
  repeat (first | with_reducible exact B | with_reducible refine Below.setCell ?_ o3 _)
end Go.Proofs.YtjlilnjggmelgaaDoor
