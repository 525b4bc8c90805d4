import Derived.Test.YtllfmlgnemkklaaDoorTxQ
import Derived.Test.YtllfmlgnemkklaaDoorMulNum
import Derived.Test.YtllfmlgnemkklaaDoorOut
import Derived.Test.YtllfmlgnemkklaaDoorShl
import Derived.Test.YtllfmlgnemkklaaDoorHold
import Derived.Test.YtllfmlgnemkklaaDoorAdd
import Derived.Test.YtllfmlgnemkklaaDoorCmp
import Derived.StillTail
import Derived.BigQuiet
import Derived.Lib.QuietBelow
namespace Go.Proofs.YtllfmlgnemkklaaDoor
open Go.RowKit Go.Sort
open tq
theorem Blank.zeroT {W : World} {b : Nat} (h : Blank W b) : Var W b 0 := by
  obtain ⟨z0, z1, z2, z3⟩ := zero_limbs
  refine ⟨Row.hold ?_, h.2⟩
  rw [z0, z1, z2, z3]
  exact h.1
theorem cell_farT {w : World} {b i b' i' : Nat} {u v : Value} (h : w.cell? ⟨b, i, none⟩ = some v) (ne : b' ≠ b) : (w.setCell ⟨b', i', none⟩ u).cell? ⟨b, i, none⟩ = some v := by
  rw [World.cell?_setCell_far _ _ _ _ ne]; exact h
theorem tq.TxB.set {W : World} {b b' i : Nat} {t : Txv} {u : Value} (h : TxB W b t) (ne : b' ≠ b) : TxB (W.setCell ⟨b', i, none⟩ u) b t := ⟨fun j v hv => cell_farT (h.all j v hv) ne, h.len⟩
theorem tq.TxB.set4 {W : World} {b b' : Nat} {t : Txv} (h : TxB W b t) (ne : b' ≠ b) (v0 v1 v2 v3 : Value) : TxB ((((W.setCell ⟨b', 0, none⟩ v0).setCell ⟨b', 1, none⟩ v1).setCell ⟨b', 2, none⟩ v2).setCell ⟨b', 3, none⟩ v3) b t := (((h.set ne).set ne).set ne).set ne

set_option maxRecDepth 100000 in
set_option maxHeartbeats 4000000 in
theorem capped_tip {t : Txv} {b k1 : Int} (h20 : t.to.length = 20) (C1 : Hid (∀ w, Calls Tryd.prog 50 #[.agg #[.int .u64 (l0 t.ti), .int .u64 (l1 t.ti), .int .u64 (l2 t.ti), .int .u64 (l3 t.ti)], .agg #[.int .u64 (l0 t.ca), .int .u64 (l1 t.ca), .int .u64 (l2 t.ca), .int .u64 (l3 t.ca)]] w fun e w' => e = .returned (.int .i64 k1) ∧ Below w.heap.size w w')) (h1 : 0 < k1) (w : World) :
    Calls Tryd.prog 36 #[.agg (txC t).toArray, .agg #[.int .u64 (l0 b), .int .u64 (l1 b), .int .u64 (l2 b), .int .u64 (l3 b)]] w fun e w' => e = .returned (.tuple #[.agg #[.int .u64 0, .int .u64 0, .int .u64 0, .int .u64 0], .agg #[.int .u64 0, .int .u64 0, .int .u64 0, .int .u64 0], .int .i64 181]) ∧ Below w.heap.size w w' := by
  have hz := build_zero
  have hb3 : ∀ o1 o2 o3, TxB ((((w.alloc (.cells (txC t).toArray 32)).alloc o1).alloc o2).alloc o3) w.heap.size t := fun o1 o2 o3 => (TxB.new h20).keep ((((Below.refl _ _).alloc (Nat.le_refl _) _).alloc (by simp) _).alloc (by first | (simp; done) | (simp; omega)) _)
  have i0 := fun o1 o2 o3 => (hb3 o1 o2 o3).ti; have i1 := fun o1 o2 o3 => (hb3 o1 o2 o3).ca
  have HB3 : Hid (∀ o1 o2 o3, TxB ((((w.alloc (.cells (txC t).toArray 32)).alloc o1).alloc o2).alloc o3) w.heap.size t) := hb3
  clear hb3
  generalize txC t = M at *
  go_enter Tryd.func36, Tryd.ntmps36
  go_wp2_with fail
  refine calls_world (fun W => Below w.heap.size w W ∧ TxB W w.heap.size t ∧ Hold W (w.heap.size + 1) b ∧ Blank W (w.heap.size + 1 + 1) ∧ Blank W (w.heap.size + 1 + 1 + 1)) ⟨by repeat (first | with_reducible exact Below.refl _ _ | with_reducible refine Below.alloc ?_ (by first | omega | (simp; done) | (simp; omega)) _), HB3.out _ _ _, ((Hold.fresh (by simp)).alloc _).alloc _, (Blank.new (by simp)).alloc _, Blank.new (by simp)⟩ ?_
  clear i0 i1 HB3
  rintro W ⟨B, hX, hY, hP, hQ⟩
  have o1 : w.heap.size ≤ w.heap.size + 1 + 1 := by omega
  have o2 : w.heap.size ≤ w.heap.size + 1 + 1 + 1 := by omega
  have c1 : w.heap.size + 1 + 1 ≠ w.heap.size + 1 + 1 + 1 := by omega
  have c2 := c1.symm
  have c3 : w.heap.size + 1 + 1 + 1 ≠ w.heap.size := by omega
  have c4 : w.heap.size + 1 + 1 + 1 ≠ w.heap.size + 1 := by omega
  have c5 : w.heap.size + 1 + 1 ≠ w.heap.size := by omega
  have c6 : w.heap.size + 1 + 1 ≠ w.heap.size + 1 := by omega
  generalize w.heap.size + 1 + 1 + 1 = bt at *
  generalize w.heap.size + 1 + 1 = bp at *
  generalize w.heap.size + 1 = bb at *
  with_reducible refine (C1.out _).mono ?_
  rintro e w1 ⟨rfl, hb⟩
  replace B := B.trans (hb.mono B.size)
  replace hX := hX.keep hb; replace hY := hY.keep hb; replace hP := hP.keep hb; replace hQ := hQ.keep hb
  clear hb W
  have gP := hP.1.all4; have fP := hP.2.all4; have gQ := hQ.1.all4; have fQ := hQ.2.all4
  go_wp2
  simp [bodyPost, results, Tryd.results36, go_sem, *]
  repeat (first | with_reducible exact B | with_reducible refine Below.setCell ?_ o1 _ | with_reducible refine Below.setCell ?_ o2 _ | with_reducible refine Below.drew ?_)

set_option maxRecDepth 100000 in
set_option maxHeartbeats 4000000 in
theorem capped_low {t : Txv} {b k1 d : Int} (h20 : t.to.length = 20) (C1 : Hid (∀ w, Calls Tryd.prog 50 #[.agg #[.int .u64 (l0 t.ti), .int .u64 (l1 t.ti), .int .u64 (l2 t.ti), .int .u64 (l3 t.ti)], .agg #[.int .u64 (l0 t.ca), .int .u64 (l1 t.ca), .int .u64 (l2 t.ca), .int .u64 (l3 t.ca)]] w fun e w' => e = .returned (.int .i64 k1) ∧ Below w.heap.size w w')) (h1 : ¬ 0 < k1) (S1 : Hid (∀ w, Calls Tryd.prog 49 #[.agg #[.int .u64 (l0 t.ca), .int .u64 (l1 t.ca), .int .u64 (l2 t.ca), .int .u64 (l3 t.ca)], .agg #[.int .u64 (l0 b), .int .u64 (l1 b), .int .u64 (l2 b), .int .u64 (l3 b)]] w fun e w' => e = .returned (.tuple #[.agg #[.int .u64 (l0 d), .int .u64 (l1 d), .int .u64 (l2 d), .int .u64 (l3 d)], .int .u64 1]) ∧ Below w.heap.size w w')) (w : World) :
    Calls Tryd.prog 36 #[.agg (txC t).toArray, .agg #[.int .u64 (l0 b), .int .u64 (l1 b), .int .u64 (l2 b), .int .u64 (l3 b)]] w fun e w' => e = .returned (.tuple #[.agg #[.int .u64 0, .int .u64 0, .int .u64 0, .int .u64 0], .agg #[.int .u64 0, .int .u64 0, .int .u64 0, .int .u64 0], .int .i64 180]) ∧ Below w.heap.size w w' := by
  have hz := build_zero
  have hb3 : ∀ o1 o2 o3, TxB ((((w.alloc (.cells (txC t).toArray 32)).alloc o1).alloc o2).alloc o3) w.heap.size t := fun o1 o2 o3 => (TxB.new h20).keep ((((Below.refl _ _).alloc (Nat.le_refl _) _).alloc (by simp) _).alloc (by first | (simp; done) | (simp; omega)) _)
  have i0 := fun o1 o2 o3 => (hb3 o1 o2 o3).ti; have i1 := fun o1 o2 o3 => (hb3 o1 o2 o3).ca
  have HB3 : Hid (∀ o1 o2 o3, TxB ((((w.alloc (.cells (txC t).toArray 32)).alloc o1).alloc o2).alloc o3) w.heap.size t) := hb3
  clear hb3
  generalize txC t = M at *
  go_enter Tryd.func36, Tryd.ntmps36
  go_wp2_with fail
  refine calls_world (fun W => Below w.heap.size w W ∧ TxB W w.heap.size t ∧ Hold W (w.heap.size + 1) b ∧ Blank W (w.heap.size + 1 + 1) ∧ Blank W (w.heap.size + 1 + 1 + 1)) ⟨by repeat (first | with_reducible exact Below.refl _ _ | with_reducible refine Below.alloc ?_ (by first | omega | (simp; done) | (simp; omega)) _), HB3.out _ _ _, ((Hold.fresh (by simp)).alloc _).alloc _, (Blank.new (by simp)).alloc _, Blank.new (by simp)⟩ ?_
  clear i0 i1 HB3
  rintro W ⟨B, hX, hY, hP, hQ⟩
  have o1 : w.heap.size ≤ w.heap.size + 1 + 1 := by omega
  have o2 : w.heap.size ≤ w.heap.size + 1 + 1 + 1 := by omega
  have c1 : w.heap.size + 1 + 1 ≠ w.heap.size + 1 + 1 + 1 := by omega
  have c2 := c1.symm
  have c3 : w.heap.size + 1 + 1 + 1 ≠ w.heap.size := by omega
  have c4 : w.heap.size + 1 + 1 + 1 ≠ w.heap.size + 1 := by omega
  have c5 : w.heap.size + 1 + 1 ≠ w.heap.size := by omega
  have c6 : w.heap.size + 1 + 1 ≠ w.heap.size + 1 := by omega
  generalize w.heap.size + 1 + 1 + 1 = bt at *
  generalize w.heap.size + 1 + 1 = bp at *
  generalize w.heap.size + 1 = bb at *
  with_reducible refine (C1.out _).mono ?_
  rintro e w1 ⟨rfl, hb⟩
  replace B := B.trans (hb.mono B.size)
  replace hX := hX.keep hb; replace hY := hY.keep hb; replace hP := hP.keep hb; replace hQ := hQ.keep hb
  clear hb W
  have j1 := hX.ca; have gY := hY.cells
  go_wp2_with fail
  clear j1 gY
  with_reducible refine (S1.out _).mono ?_
  rintro e w2 ⟨rfl, hb⟩
  replace B := B.trans (hb.mono B.size)
  replace hX := hX.keep hb; replace hY := hY.keep hb; replace hP := hP.keep hb; replace hQ := hQ.keep hb
  clear hb
  have gQ := hQ.1.all4; have fQ := hQ.2.all4
  have gP := hP.1.all4; have fP := hP.2.all4
  go_wp2
  simp (config := { maxDischargeDepth := 6, maxSteps := 4000000 }) [bodyPost, results, Tryd.results36, go_sem, *]
  repeat (first | with_reducible exact B | with_reducible refine Below.setCell ?_ o1 _ | with_reducible refine Below.setCell ?_ o2 _ | with_reducible refine Below.drew ?_)

set_option maxRecDepth 100000 in
set_option maxHeartbeats 4000000 in
theorem capped_oka {t : Txv} {b k1 d k2 p k3 : Int} (h20 : t.to.length = 20) (C1 : Hid (∀ w, Calls Tryd.prog 50 #[.agg #[.int .u64 (l0 t.ti), .int .u64 (l1 t.ti), .int .u64 (l2 t.ti), .int .u64 (l3 t.ti)], .agg #[.int .u64 (l0 t.ca), .int .u64 (l1 t.ca), .int .u64 (l2 t.ca), .int .u64 (l3 t.ca)]] w fun e w' => e = .returned (.int .i64 k1) ∧ Below w.heap.size w w')) (h1 : ¬ 0 < k1) (S1 : Hid (∀ w, Calls Tryd.prog 49 #[.agg #[.int .u64 (l0 t.ca), .int .u64 (l1 t.ca), .int .u64 (l2 t.ca), .int .u64 (l3 t.ca)], .agg #[.int .u64 (l0 b), .int .u64 (l1 b), .int .u64 (l2 b), .int .u64 (l3 b)]] w fun e w' => e = .returned (.tuple #[.agg #[.int .u64 (l0 d), .int .u64 (l1 d), .int .u64 (l2 d), .int .u64 (l3 d)], .int .u64 0]) ∧ Below w.heap.size w w')) (C2 : Hid (∀ w, Calls Tryd.prog 50 #[.agg #[.int .u64 (l0 t.ti), .int .u64 (l1 t.ti), .int .u64 (l2 t.ti), .int .u64 (l3 t.ti)], .agg #[.int .u64 (l0 d), .int .u64 (l1 d), .int .u64 (l2 d), .int .u64 (l3 d)]] w fun e w' => e = .returned (.int .i64 k2) ∧ Below w.heap.size w w')) (h2 : k2 < 0) (A1 : Hid (∀ w, Calls Tryd.prog 51 #[.agg #[.int .u64 (l0 b), .int .u64 (l1 b), .int .u64 (l2 b), .int .u64 (l3 b)], .agg #[.int .u64 (l0 t.ti), .int .u64 (l1 t.ti), .int .u64 (l2 t.ti), .int .u64 (l3 t.ti)]] w fun e w' => e = .returned (.tuple #[.agg #[.int .u64 (l0 p), .int .u64 (l1 p), .int .u64 (l2 p), .int .u64 (l3 p)], .int .u64 k3]) ∧ Below w.heap.size w w')) (w : World) :
    Calls Tryd.prog 36 #[.agg (txC t).toArray, .agg #[.int .u64 (l0 b), .int .u64 (l1 b), .int .u64 (l2 b), .int .u64 (l3 b)]] w fun e w' => e = .returned (.tuple #[.agg #[.int .u64 (l0 p), .int .u64 (l1 p), .int .u64 (l2 p), .int .u64 (l3 p)], .agg #[.int .u64 (l0 t.ti), .int .u64 (l1 t.ti), .int .u64 (l2 t.ti), .int .u64 (l3 t.ti)], .int .i64 0]) ∧ Below w.heap.size w w' := by
  have hz := build_zero
  have hb3 : ∀ o1 o2 o3, TxB ((((w.alloc (.cells (txC t).toArray 32)).alloc o1).alloc o2).alloc o3) w.heap.size t := fun o1 o2 o3 => (TxB.new h20).keep ((((Below.refl _ _).alloc (Nat.le_refl _) _).alloc (by simp) _).alloc (by first | (simp; done) | (simp; omega)) _)
  have i0 := fun o1 o2 o3 => (hb3 o1 o2 o3).ti; have i1 := fun o1 o2 o3 => (hb3 o1 o2 o3).ca
  have HB3 : Hid (∀ o1 o2 o3, TxB ((((w.alloc (.cells (txC t).toArray 32)).alloc o1).alloc o2).alloc o3) w.heap.size t) := hb3
  clear hb3
  generalize txC t = M at *
  go_enter Tryd.func36, Tryd.ntmps36
  go_wp2_with fail
  refine calls_world (fun W => Below w.heap.size w W ∧ TxB W w.heap.size t ∧ Hold W (w.heap.size + 1) b ∧ Blank W (w.heap.size + 1 + 1) ∧ Blank W (w.heap.size + 1 + 1 + 1)) ⟨by repeat (first | with_reducible exact Below.refl _ _ | with_reducible refine Below.alloc ?_ (by first | omega | (simp; done) | (simp; omega)) _), HB3.out _ _ _, ((Hold.fresh (by simp)).alloc _).alloc _, (Blank.new (by simp)).alloc _, Blank.new (by simp)⟩ ?_
  clear i0 i1 HB3
  rintro W ⟨B, hX, hY, hP, hQ⟩
  have o1 : w.heap.size ≤ w.heap.size + 1 + 1 := by omega
  have o2 : w.heap.size ≤ w.heap.size + 1 + 1 + 1 := by omega
  have c1 : w.heap.size + 1 + 1 ≠ w.heap.size + 1 + 1 + 1 := by omega
  have c2 := c1.symm
  have c3 : w.heap.size + 1 + 1 + 1 ≠ w.heap.size := by omega
  have c4 : w.heap.size + 1 + 1 + 1 ≠ w.heap.size + 1 := by omega
  have c5 : w.heap.size + 1 + 1 ≠ w.heap.size := by omega
  have c6 : w.heap.size + 1 + 1 ≠ w.heap.size + 1 := by omega
  generalize w.heap.size + 1 + 1 + 1 = bt at *
  generalize w.heap.size + 1 + 1 = bp at *
  generalize w.heap.size + 1 = bb at *
  with_reducible refine (C1.out _).mono ?_
  rintro e w1 ⟨rfl, hb⟩
  replace B := B.trans (hb.mono B.size)
  replace hX := hX.keep hb; replace hY := hY.keep hb; replace hP := hP.keep hb; replace hQ := hQ.keep hb
  clear hb W
  have j1 := hX.ca; have gY := hY.cells
  go_wp2_with fail
  clear j1 gY
  with_reducible refine (S1.out _).mono ?_
  rintro e w2 ⟨rfl, hb⟩
  replace B := B.trans (hb.mono B.size)
  replace hX := hX.keep hb; replace hY := hY.keep hb; replace hP := hP.keep hb; replace hQ := hQ.keep hb
  clear hb
  have gQ := hQ.1.all4; have fQ := hQ.2.all4
  have j2 := hX.ti
  go_wp2_with fail
  refine calls_world (fun W => Below w.heap.size w W ∧ TxB W w.heap.size t ∧ Hold W bb b ∧ Blank W bp ∧ Var W bt d) ⟨below_set4 B o2 _ _ _ _, hX.set4 c3 _ _ _ _, hY.set4 c4 _ _ _ _, hP.set4 c2 _ _ _ _, (Blank.zeroT hQ).sets _⟩ ?_
  clear B hX hY hP hQ j2 gQ fQ
  rintro W ⟨B, hX, hY, hP, hQ⟩
  with_reducible refine (C2.out _).mono ?_
  rintro e w3 ⟨rfl, hb⟩
  replace B := B.trans (hb.mono B.size)
  replace hX := hX.keep hb; replace hY := hY.keep hb; replace hP := hP.keep hb; replace hQ := hQ.keep hb
  clear hb W
  have j2 := hX.ti; have gY := hY.cells; have gQ := hQ.1.cells; have fQ := hQ.2.all4
  go_wp2_with fail
  refine calls_world (fun W => Below w.heap.size w W ∧ Blank W bp ∧ Var W bt t.ti) ⟨below_set4 B o2 _ _ _ _, hP.set4 c2 _ _ _ _, hQ.sets _⟩ ?_
  clear B hX hY hP hQ j2 gY gQ fQ
  rintro W ⟨B, hP, hQ⟩
  with_reducible refine (A1.out _).mono ?_
  rintro e w4 ⟨rfl, hb⟩
  replace B := B.trans (hb.mono B.size)
  replace hP := hP.keep hb; replace hQ := hQ.keep hb
  clear hb W
  have gQ := hQ.1.cells; have fQ := hQ.2.all4; have gP := hP.1.all4; have fP := hP.2.all4
  go_wp2_with fail
  refine wp_world (fun W => Below w.heap.size w W ∧ Var W bp p ∧ Var W bt t.ti) ⟨below_set4 B o1 _ _ _ _, (Blank.zeroT hP).sets _, hQ.set4 c1 _ _ _ _⟩ ?_
  clear B hP hQ gQ fQ gP fP
  rintro W ⟨B, hP, hQ⟩
  have gQ := hQ.1.cells; have fQ := hQ.2.all4; have gP := hP.1.cells; have fP := hP.2.all4
  clear hP hQ
  repeat (go_region; go_wp2)
  all_goals simp [bodyPost, results, Tryd.results36, go_sem, *]
  all_goals repeat (first | with_reducible exact B | with_reducible refine Below.setCell ?_ o1 _ | with_reducible refine Below.setCell ?_ o2 _ | with_reducible refine Below.drew ?_)

set_option maxRecDepth 100000 in
set_option maxHeartbeats 4000000 in
theorem capped_okb {t : Txv} {b k1 d k2 p k3 : Int} (h20 : t.to.length = 20) (C1 : Hid (∀ w, Calls Tryd.prog 50 #[.agg #[.int .u64 (l0 t.ti), .int .u64 (l1 t.ti), .int .u64 (l2 t.ti), .int .u64 (l3 t.ti)], .agg #[.int .u64 (l0 t.ca), .int .u64 (l1 t.ca), .int .u64 (l2 t.ca), .int .u64 (l3 t.ca)]] w fun e w' => e = .returned (.int .i64 k1) ∧ Below w.heap.size w w')) (h1 : ¬ 0 < k1) (S1 : Hid (∀ w, Calls Tryd.prog 49 #[.agg #[.int .u64 (l0 t.ca), .int .u64 (l1 t.ca), .int .u64 (l2 t.ca), .int .u64 (l3 t.ca)], .agg #[.int .u64 (l0 b), .int .u64 (l1 b), .int .u64 (l2 b), .int .u64 (l3 b)]] w fun e w' => e = .returned (.tuple #[.agg #[.int .u64 (l0 d), .int .u64 (l1 d), .int .u64 (l2 d), .int .u64 (l3 d)], .int .u64 0]) ∧ Below w.heap.size w w')) (C2 : Hid (∀ w, Calls Tryd.prog 50 #[.agg #[.int .u64 (l0 t.ti), .int .u64 (l1 t.ti), .int .u64 (l2 t.ti), .int .u64 (l3 t.ti)], .agg #[.int .u64 (l0 d), .int .u64 (l1 d), .int .u64 (l2 d), .int .u64 (l3 d)]] w fun e w' => e = .returned (.int .i64 k2) ∧ Below w.heap.size w w')) (h2 : ¬ k2 < 0) (A1 : Hid (∀ w, Calls Tryd.prog 51 #[.agg #[.int .u64 (l0 b), .int .u64 (l1 b), .int .u64 (l2 b), .int .u64 (l3 b)], .agg #[.int .u64 (l0 d), .int .u64 (l1 d), .int .u64 (l2 d), .int .u64 (l3 d)]] w fun e w' => e = .returned (.tuple #[.agg #[.int .u64 (l0 p), .int .u64 (l1 p), .int .u64 (l2 p), .int .u64 (l3 p)], .int .u64 k3]) ∧ Below w.heap.size w w')) (w : World) :
    Calls Tryd.prog 36 #[.agg (txC t).toArray, .agg #[.int .u64 (l0 b), .int .u64 (l1 b), .int .u64 (l2 b), .int .u64 (l3 b)]] w fun e w' => e = .returned (.tuple #[.agg #[.int .u64 (l0 p), .int .u64 (l1 p), .int .u64 (l2 p), .int .u64 (l3 p)], .agg #[.int .u64 (l0 d), .int .u64 (l1 d), .int .u64 (l2 d), .int .u64 (l3 d)], .int .i64 0]) ∧ Below w.heap.size w w' := by
  have hz := build_zero
  have hb3 : ∀ o1 o2 o3, TxB ((((w.alloc (.cells (txC t).toArray 32)).alloc o1).alloc o2).alloc o3) w.heap.size t := fun o1 o2 o3 => (TxB.new h20).keep ((((Below.refl _ _).alloc (Nat.le_refl _) _).alloc (by simp) _).alloc (by first | (simp; done) | (simp; omega)) _)
  have i0 := fun o1 o2 o3 => (hb3 o1 o2 o3).ti; have i1 := fun o1 o2 o3 => (hb3 o1 o2 o3).ca
  have HB3 : Hid (∀ o1 o2 o3, TxB ((((w.alloc (.cells (txC t).toArray 32)).alloc o1).alloc o2).alloc o3) w.heap.size t) := hb3
  clear hb3
  generalize txC t = M at *
  go_enter Tryd.func36, Tryd.ntmps36
  go_wp2_with fail
  refine calls_world (fun W => Below w.heap.size w W ∧ TxB W w.heap.size t ∧ Hold W (w.heap.size + 1) b ∧ Blank W (w.heap.size + 1 + 1) ∧ Blank W (w.heap.size + 1 + 1 + 1)) ⟨by repeat (first | with_reducible exact Below.refl _ _ | with_reducible refine Below.alloc ?_ (by first | omega | (simp; done) | (simp; omega)) _), HB3.out _ _ _, ((Hold.fresh (by simp)).alloc _).alloc _, (Blank.new (by simp)).alloc _, Blank.new (by simp)⟩ ?_
  clear i0 i1 HB3
  rintro W ⟨B, hX, hY, hP, hQ⟩
  have o1 : w.heap.size ≤ w.heap.size + 1 + 1 := by omega
  have o2 : w.heap.size ≤ w.heap.size + 1 + 1 + 1 := by omega
  have c1 : w.heap.size + 1 + 1 ≠ w.heap.size + 1 + 1 + 1 := by omega
  have c2 := c1.symm
  have c3 : w.heap.size + 1 + 1 + 1 ≠ w.heap.size := by omega
  have c4 : w.heap.size + 1 + 1 + 1 ≠ w.heap.size + 1 := by omega
  have c5 : w.heap.size + 1 + 1 ≠ w.heap.size := by omega
  have c6 : w.heap.size + 1 + 1 ≠ w.heap.size + 1 := by omega
  generalize w.heap.size + 1 + 1 + 1 = bt at *
  generalize w.heap.size + 1 + 1 = bp at *
  generalize w.heap.size + 1 = bb at *
  with_reducible refine (C1.out _).mono ?_
  rintro e w1 ⟨rfl, hb⟩
  replace B := B.trans (hb.mono B.size)
  replace hX := hX.keep hb; replace hY := hY.keep hb; replace hP := hP.keep hb; replace hQ := hQ.keep hb
  clear hb W
  have j1 := hX.ca; have gY := hY.cells
  go_wp2_with fail
  clear j1 gY
  with_reducible refine (S1.out _).mono ?_
  rintro e w2 ⟨rfl, hb⟩
  replace B := B.trans (hb.mono B.size)
  replace hX := hX.keep hb; replace hY := hY.keep hb; replace hP := hP.keep hb; replace hQ := hQ.keep hb
  clear hb
  have gQ := hQ.1.all4; have fQ := hQ.2.all4
  have j2 := hX.ti
  go_wp2_with fail
  refine calls_world (fun W => Below w.heap.size w W ∧ TxB W w.heap.size t ∧ Hold W bb b ∧ Blank W bp ∧ Var W bt d) ⟨below_set4 B o2 _ _ _ _, hX.set4 c3 _ _ _ _, hY.set4 c4 _ _ _ _, hP.set4 c2 _ _ _ _, (Blank.zeroT hQ).sets _⟩ ?_
  clear B hX hY hP hQ j2 gQ fQ
  rintro W ⟨B, hX, hY, hP, hQ⟩
  with_reducible refine (C2.out _).mono ?_
  rintro e w3 ⟨rfl, hb⟩
  replace B := B.trans (hb.mono B.size)
  replace hX := hX.keep hb; replace hY := hY.keep hb; replace hP := hP.keep hb; replace hQ := hQ.keep hb
  clear hb W
  have j2 := hX.ti; have gY := hY.cells; have gQ := hQ.1.cells; have fQ := hQ.2.all4
  go_wp2_with fail
  refine calls_world (fun W => Below w.heap.size w W ∧ Blank W bp ∧ Var W bt d) ⟨B, hP, hQ⟩ ?_
  clear B hX hY hP hQ j2 gY gQ fQ
  rintro W ⟨B, hP, hQ⟩
  with_reducible refine (A1.out _).mono ?_
  rintro e w4 ⟨rfl, hb⟩
  replace B := B.trans (hb.mono B.size)
  replace hP := hP.keep hb; replace hQ := hQ.keep hb
  clear hb W
  have gQ := hQ.1.cells; have fQ := hQ.2.all4; have gP := hP.1.all4; have fP := hP.2.all4
  go_wp2_with fail
  refine wp_world (fun W => Below w.heap.size w W ∧ Var W bp p ∧ Var W bt d) ⟨below_set4 B o1 _ _ _ _, (Blank.zeroT hP).sets _, hQ.set4 c1 _ _ _ _⟩ ?_
  clear B hP hQ gQ fQ gP fP
  rintro W ⟨B, hP, hQ⟩
  have gQ := hQ.1.cells; have fQ := hQ.2.all4; have gP := hP.1.cells; have fP := hP.2.all4
  clear hP hQ
  repeat (go_region; go_wp2)
  all_goals simp [bodyPost, results, Tryd.results36, go_sem, *]
  all_goals repeat (first | with_reducible exact B | with_reducible refine Below.setCell ?_ o1 _ | with_reducible refine Below.setCell ?_ o2 _ | with_reducible refine Below.drew ?_)

end Go.Proofs.YtllfmlgnemkklaaDoor
