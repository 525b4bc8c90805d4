import Derived.Test.YtaefmdofchjofaaGet
import Derived.Test.YtaefmdofchjofaaReduce
import Derived.Test.YtaefmdofchjofaaHold
import Derived.Test.YtaefmdofchjofaaLen
import Derived.Test.YtaefmdofchjofaaCmp
import Derived.StillTail
import Derived.BigQuiet
import Derived.Below
import Derived.Test.YtaefmdofchjofaaNum
namespace Go.Proofs.Ytaefmdofchjofaa
open Go.RowKit

theorem get_long {n : Nat} {p : Option Addr} {cb : Nat} (hl : 32 < n) (w : World) :
    Calls Try.prog 78 #[.slice p n cb] w fun e w' => e = .returned (.tuple #[.agg #[.int .u64 (l0 0), .int .u64 (l1 0), .int .u64 (l2 0), .int .u64 (l3 0)], .int .i64 11]) ∧ Below w.heap.size w w' := by
  have hl' : (32 : Int) < n := by omega
  obtain ⟨z0, z1, z2, z3⟩ := zero_limbs
  rw [z0, z1, z2, z3]
  clear z0 z1 z2 z3
  have hb := build_zero
  go_enter Try.func78, Try.ntmps78
  go_wp2
  simp [bodyPost, results, Try.results78, go_sem]
  repeat (first | with_reducible exact Below.refl _ _ | with_reducible refine Below.drew ?_ | with_reducible refine Below.alloc ?_ (by first | omega | (simp; done) | (simp; omega)) _)

theorem rget_long {n : Nat} {p : Option Addr} {cb : Nat} (hl : 32 < n) (w : World) :
    Calls Try.prog 66 #[.slice p n cb] w fun e w' => e = .returned (.tuple #[.agg #[.int .u64 (l0 0), .int .u64 (l1 0), .int .u64 (l2 0), .int .u64 (l3 0)], .int .i64 11]) ∧ Below w.heap.size w w' := by
  have hl' : (32 : Int) < n := by omega
  obtain ⟨z0, z1, z2, z3⟩ := zero_limbs
  rw [z0, z1, z2, z3]
  clear z0 z1 z2 z3
  have hb := build_zero
  go_enter Try.func66, Try.ntmps66
  go_wp2
  simp [bodyPost, results, Try.results66, go_sem]
  repeat (first | with_reducible exact Below.refl _ _ | with_reducible refine Below.drew ?_ | with_reducible refine Below.alloc ?_ (by first | omega | (simp; done) | (simp; omega)) _)

set_option maxHeartbeats 1000000 in
theorem strict_bad {n cb : Nat} {p : Option Addr} {N er : Int} (w : World) (he : er ≠ 0) (GT : Hid (∀ W, Below w.heap.size w W → Calls Try.prog 78 #[.slice p n cb] W fun e w' => e = .returned (.tuple #[.agg #[.int .u64 (l0 N), .int .u64 (l1 N), .int .u64 (l2 N), .int .u64 (l3 N)], .int .i64 er]) ∧ Below W.heap.size W w')) :
    Calls Try.prog 63 #[.slice p n cb] w fun e w' => e = .returned (.tuple #[.agg #[.int .u64 (l0 N), .int .u64 (l1 N), .int .u64 (l2 N), .int .u64 (l3 N)], .int .i64 er]) ∧ Below w.heap.size w w' := by
  have he' : (er == 0) = false := by simp [he]
  have hb0 := build_zero
  go_enter Try.func63, Try.ntmps63
  go_wp2_with fail
  refine calls_world (fun W => Below w.heap.size w W ∧ Blank W w.heap.size) ⟨(Below.refl _ _).alloc (Nat.le_refl _) _, Blank.new rfl⟩ ?_
  rintro W ⟨B, hR⟩
  with_reducible refine (GT.out _ B).mono ?_
  rintro e w1 ⟨rfl, hb⟩
  replace B := B.trans (hb.mono B.size)
  replace hR := hR.keep hb
  clear hb W GT
  have gR := fun o => (hR.alloc o).1.all4
  have fR := fun o => (hR.alloc o).2.all4
  go_wp2
  repeat (go_region; go_wp2)
  simp [bodyPost, results, Try.results63, go_sem, gR]
  exact below_set4 (B.alloc B.size _) (Nat.le_refl _) _ _ _ _

set_option maxHeartbeats 1000000 in
theorem strict_none {n cb : Nat} {p : Option Addr} {N : Int} (w : World) (h0 : n = 0) (GT : Hid (∀ W, Below w.heap.size w W → Calls Try.prog 78 #[.slice p n cb] W fun e w' => e = .returned (.tuple #[.agg #[.int .u64 (l0 N), .int .u64 (l1 N), .int .u64 (l2 N), .int .u64 (l3 N)], .int .i64 0]) ∧ Below W.heap.size W w')) :
    Calls Try.prog 63 #[.slice p n cb] w fun e w' => e = .returned (.tuple #[.agg #[.int .u64 (l0 N), .int .u64 (l1 N), .int .u64 (l2 N), .int .u64 (l3 N)], .int .i64 0]) ∧ Below w.heap.size w w' := by
  subst h0
  have hb0 := build_zero
  go_enter Try.func63, Try.ntmps63
  go_wp2_with fail
  refine calls_world (fun W => Below w.heap.size w W ∧ Blank W w.heap.size) ⟨(Below.refl _ _).alloc (Nat.le_refl _) _, Blank.new rfl⟩ ?_
  rintro W ⟨B, hR⟩
  with_reducible refine (GT.out _ B).mono ?_
  rintro e w1 ⟨rfl, hb⟩
  replace B := B.trans (hb.mono B.size)
  replace hR := hR.keep hb
  clear hb W GT
  have gR := fun o => (hR.alloc o).1.all4
  have fR := fun o => (hR.alloc o).2.all4
  go_wp2
  repeat (go_region; go_wp2)
  simp [bodyPost, results, Try.results63, go_sem, gR]
  exact below_set4 (B.alloc B.size _) (Nat.le_refl _) _ _ _ _

set_option maxHeartbeats 1000000 in
theorem strict_lead {n cb : Nat} {bb ob : Nat} {N : Int} (w : World) (h0 : 0 < n) (hc : w.cell? ⟨bb, ob, none⟩ = some (.int .u8 0)) (GT : Hid (∀ W, Below w.heap.size w W → Calls Try.prog 78 #[.slice (some ⟨bb, ob, none⟩) n cb] W fun e w' => e = .returned (.tuple #[.agg #[.int .u64 (l0 N), .int .u64 (l1 N), .int .u64 (l2 N), .int .u64 (l3 N)], .int .i64 0]) ∧ Below W.heap.size W w')) :
    Calls Try.prog 63 #[.slice (some ⟨bb, ob, none⟩) n cb] w fun e w' => e = .returned (.tuple #[.agg #[.int .u64 0, .int .u64 0, .int .u64 0, .int .u64 0], .int .i64 13]) ∧ Below w.heap.size w w' := by
  have lt := World.block_lt_of_cell? w _ hc
  have h0' : (0 : Int) < n := by omega
  have hb0 := build_zero
  go_enter Try.func63, Try.ntmps63
  go_wp2_with fail
  refine calls_world (fun W => Below w.heap.size w W ∧ Blank W w.heap.size) ⟨(Below.refl _ _).alloc (Nat.le_refl _) _, Blank.new rfl⟩ ?_
  rintro W ⟨B, hR⟩
  with_reducible refine (GT.out _ B).mono ?_
  rintro e w1 ⟨rfl, hb⟩
  replace B := B.trans (hb.mono B.size)
  replace hR := hR.keep hb
  clear hb W GT
  have hc1 : w1.cell? ⟨bb, ob, none⟩ = some (.int .u8 0) := by rw [B.cell (p := ⟨bb, ob, none⟩) lt]; exact hc
  have hc2 := fun o => cell_alloc (w := w1) (o := o) hc1
  have gR := fun o => (hR.alloc o).1.all4
  have fR := fun o => (hR.alloc o).2.all4
  go_wp2
  repeat (go_region; go_wp2)
  simp [bodyPost, results, Try.results63, go_sem, gR]
  exact below_set4 (B.alloc B.size _) (Nat.le_refl _) _ _ _ _

set_option maxHeartbeats 1000000 in
theorem strict_some {n cb : Nat} {bb ob : Nat} {N : Int} (w : World) (h0 : 0 < n) {v : Int} (hv : v ≠ 0) (hc : w.cell? ⟨bb, ob, none⟩ = some (.int .u8 v)) (GT : Hid (∀ W, Below w.heap.size w W → Calls Try.prog 78 #[.slice (some ⟨bb, ob, none⟩) n cb] W fun e w' => e = .returned (.tuple #[.agg #[.int .u64 (l0 N), .int .u64 (l1 N), .int .u64 (l2 N), .int .u64 (l3 N)], .int .i64 0]) ∧ Below W.heap.size W w')) :
    Calls Try.prog 63 #[.slice (some ⟨bb, ob, none⟩) n cb] w fun e w' => e = .returned (.tuple #[.agg #[.int .u64 (l0 N), .int .u64 (l1 N), .int .u64 (l2 N), .int .u64 (l3 N)], .int .i64 0]) ∧ Below w.heap.size w w' := by
  have lt := World.block_lt_of_cell? w _ hc
  have h0' : (0 : Int) < n := by omega
  have hv' : (v == 0) = false := by simp [hv]
  have hb0 := build_zero
  go_enter Try.func63, Try.ntmps63
  go_wp2_with fail
  refine calls_world (fun W => Below w.heap.size w W ∧ Blank W w.heap.size) ⟨(Below.refl _ _).alloc (Nat.le_refl _) _, Blank.new rfl⟩ ?_
  rintro W ⟨B, hR⟩
  with_reducible refine (GT.out _ B).mono ?_
  rintro e w1 ⟨rfl, hb⟩
  replace B := B.trans (hb.mono B.size)
  replace hR := hR.keep hb
  clear hb W GT
  have hc1 : w1.cell? ⟨bb, ob, none⟩ = some (.int .u8 v) := by rw [B.cell (p := ⟨bb, ob, none⟩) lt]; exact hc
  have hc2 := fun o => cell_alloc (w := w1) (o := o) hc1
  have gR := fun o => (hR.alloc o).1.all4
  have fR := fun o => (hR.alloc o).2.all4
  go_wp2
  repeat (go_region; go_wp2)
  simp [bodyPost, results, Try.results63, go_sem, gR]
  exact below_set4 (B.alloc B.size _) (Nat.le_refl _) _ _ _ _

end Go.Proofs.Ytaefmdofchjofaa
