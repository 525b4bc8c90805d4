import Derived.Test.YtncpjgpioajbeaaGreatDoorENum
import Derived.Test.YtncpjgpioajbeaaGreatDoorFRefY
import Derived.Test.YtncpjgpioajbeaaGreatDoorFRInv
namespace Go.Proofs.YtncpjgpioajbeaaGreatDoor
open Go.RowKit Go.Sort

set_option maxRecDepth 100000 in
set_option maxHeartbeats 2000000 in
theorem r6plus_walk {x y r : Int} (C : Hid (∀ w, Calls Tryz.prog 126 #[.int .i64 1, .agg #[.int .u64 (l0 x), .int .u64 (l1 x), .int .u64 (l2 x), .int .u64 (l3 x)], .agg #[.int .u64 (l0 y), .int .u64 (l1 y), .int .u64 (l2 y), .int .u64 (l3 y)]] w fun e w' => e = .returned (.tuple #[.agg #[.int .u64 (l0 r), .int .u64 (l1 r), .int .u64 (l2 r), .int .u64 (l3 r)], .int .i64 0]) ∧ Below w.heap.size w w')) (w : World) :
    Calls Tryz.prog 101 #[.agg #[.int .u64 (l0 x), .int .u64 (l1 x), .int .u64 (l2 x), .int .u64 (l3 x)], .agg #[.int .u64 (l0 y), .int .u64 (l1 y), .int .u64 (l2 y), .int .u64 (l3 y)]] w fun e w' => e = .returned (.agg #[.int .u64 (l0 r), .int .u64 (l1 r), .int .u64 (l2 r), .int .u64 (l3 r)]) ∧ Below w.heap.size w w' := by
  go_enter Tryz.func101, Tryz.ntmps101
  go_wp2_with fail
  refine calls_world (fun W => Below w.heap.size w W ∧ Blank W (w.heap.size + 1 + 1)) ⟨by repeat (first | with_reducible exact Below.refl _ _ | with_reducible refine Below.alloc ?_ (by first | omega | (simp; done) | (simp; omega)) _), Blank.new (by simp)⟩ ?_
  rintro W ⟨B, hR⟩
  have o3 : w.heap.size ≤ w.heap.size + 1 + 1 := by omega
  generalize w.heap.size + 1 + 1 = br at *
  with_reducible refine (C.out _).mono ?_
  rintro e w1 ⟨rfl, hb⟩
  replace B := B.trans (hb.mono B.size)
  replace hR := hR.keep hb
  have lr := hR.1.lt (by simp)
  have nr : w1.heap.size ≠ br := by omega
  have nr' := nr.symm
  clear hb W
  have gR := fun o => (hR.alloc o).1.all4
  have fR := fun o => (hR.alloc o).2.all4
  have gR0 := hR.1.all4
  have fR0 := hR.2.all4
  have sz := B.size
  have BB : Hid (Below w.heap.size w w1) := B
  clear B hR
  go_wp2
  simp [bodyPost, results, Tryz.results101, go_sem, *]
  repeat (first | with_reducible exact BB.out | with_reducible refine Below.setCell ?_ o3 _ | with_reducible refine Below.alloc ?_ (by first | omega | (simp; omega)) _)

set_option maxRecDepth 100000 in
set_option maxHeartbeats 2000000 in
theorem r6times_walk {x y r : Int} (C : Hid (∀ w, Calls Tryz.prog 125 #[.int .i64 1, .agg #[.int .u64 (l0 x), .int .u64 (l1 x), .int .u64 (l2 x), .int .u64 (l3 x)], .agg #[.int .u64 (l0 y), .int .u64 (l1 y), .int .u64 (l2 y), .int .u64 (l3 y)]] w fun e w' => e = .returned (.tuple #[.agg #[.int .u64 (l0 r), .int .u64 (l1 r), .int .u64 (l2 r), .int .u64 (l3 r)], .int .i64 0]) ∧ Below w.heap.size w w')) (w : World) :
    Calls Tryz.prog 100 #[.agg #[.int .u64 (l0 x), .int .u64 (l1 x), .int .u64 (l2 x), .int .u64 (l3 x)], .agg #[.int .u64 (l0 y), .int .u64 (l1 y), .int .u64 (l2 y), .int .u64 (l3 y)]] w fun e w' => e = .returned (.agg #[.int .u64 (l0 r), .int .u64 (l1 r), .int .u64 (l2 r), .int .u64 (l3 r)]) ∧ Below w.heap.size w w' := by
  go_enter Tryz.func100, Tryz.ntmps100
  go_wp2_with fail
  refine calls_world (fun W => Below w.heap.size w W ∧ Blank W (w.heap.size + 1 + 1)) ⟨by repeat (first | with_reducible exact Below.refl _ _ | with_reducible refine Below.alloc ?_ (by first | omega | (simp; done) | (simp; omega)) _), Blank.new (by simp)⟩ ?_
  rintro W ⟨B, hR⟩
  have o3 : w.heap.size ≤ w.heap.size + 1 + 1 := by omega
  generalize w.heap.size + 1 + 1 = br at *
  with_reducible refine (C.out _).mono ?_
  rintro e w1 ⟨rfl, hb⟩
  replace B := B.trans (hb.mono B.size)
  replace hR := hR.keep hb
  have lr := hR.1.lt (by simp)
  have nr : w1.heap.size ≠ br := by omega
  have nr' := nr.symm
  clear hb W
  have gR := fun o => (hR.alloc o).1.all4
  have fR := fun o => (hR.alloc o).2.all4
  have gR0 := hR.1.all4
  have fR0 := hR.2.all4
  have sz := B.size
  have BB : Hid (Below w.heap.size w w1) := B
  clear B hR
  go_wp2
  simp [bodyPost, results, Tryz.results100, go_sem, *]
  repeat (first | with_reducible exact BB.out | with_reducible refine Below.setCell ?_ o3 _ | with_reducible refine Below.alloc ?_ (by first | omega | (simp; omega)) _)

set_option maxRecDepth 100000 in
set_option maxHeartbeats 2000000 in
theorem r6inv_walk {x r : Int} (C : Hid (∀ w, Calls Tryz.prog 127 #[.int .i64 1, .agg #[.int .u64 (l0 x), .int .u64 (l1 x), .int .u64 (l2 x), .int .u64 (l3 x)]] w fun e w' => e = .returned (.tuple #[.agg #[.int .u64 (l0 r), .int .u64 (l1 r), .int .u64 (l2 r), .int .u64 (l3 r)], .int .i64 0]) ∧ Below w.heap.size w w')) (w : World) :
    Calls Tryz.prog 102 #[.agg #[.int .u64 (l0 x), .int .u64 (l1 x), .int .u64 (l2 x), .int .u64 (l3 x)]] w fun e w' => e = .returned (.agg #[.int .u64 (l0 r), .int .u64 (l1 r), .int .u64 (l2 r), .int .u64 (l3 r)]) ∧ Below w.heap.size w w' := by
  go_enter Tryz.func102, Tryz.ntmps102
  go_wp2_with fail
  refine calls_world (fun W => Below w.heap.size w W ∧ Blank W (w.heap.size + 1)) ⟨by repeat (first | with_reducible exact Below.refl _ _ | with_reducible refine Below.alloc ?_ (by first | omega | (simp; done) | (simp; omega)) _), Blank.new (by simp)⟩ ?_
  rintro W ⟨B, hR⟩
  have o3 : w.heap.size ≤ w.heap.size + 1 := by omega
  generalize w.heap.size + 1 = br at *
  with_reducible refine (C.out _).mono ?_
  rintro e w1 ⟨rfl, hb⟩
  replace B := B.trans (hb.mono B.size)
  replace hR := hR.keep hb
  have lr := hR.1.lt (by simp)
  have nr : w1.heap.size ≠ br := by omega
  have nr' := nr.symm
  clear hb W
  have gR := fun o => (hR.alloc o).1.all4
  have fR := fun o => (hR.alloc o).2.all4
  have gR0 := hR.1.all4
  have fR0 := hR.2.all4
  have sz := B.size
  have BB : Hid (Below w.heap.size w w1) := B
  clear B hR
  go_wp2
  simp [bodyPost, results, Tryz.results102, go_sem, *]
  repeat (first | with_reducible exact BB.out | with_reducible refine Below.setCell ?_ o3 _ | with_reducible refine Below.alloc ?_ (by first | omega | (simp; omega)) _)

theorem r6plus_any {x y : Int} (hx : Num x) (hy : Num y) : Hid (∀ w, Calls Tryz.prog 101 #[.agg #[.int .u64 (l0 x), .int .u64 (l1 x), .int .u64 (l2 x), .int .u64 (l3 x)], .agg #[.int .u64 (l0 y), .int .u64 (l1 y), .int .u64 (l2 y), .int .u64 (l3 y)]] w fun e w' => e = .returned (.agg #[.int .u64 (l0 (modN nN (x + y))), .int .u64 (l1 (modN nN (x + y))), .int .u64 (l2 (modN nN (x + y))), .int .u64 (l3 (modN nN (x + y)))]) ∧ Below w.heap.size w w') := fun w => r6plus_walk (fun w => rAdd_good (.inr rfl) hx hy w) w
theorem r6times_any {x y : Int} (hx : Num x) (hy : Num y) : Hid (∀ w, Calls Tryz.prog 100 #[.agg #[.int .u64 (l0 x), .int .u64 (l1 x), .int .u64 (l2 x), .int .u64 (l3 x)], .agg #[.int .u64 (l0 y), .int .u64 (l1 y), .int .u64 (l2 y), .int .u64 (l3 y)]] w fun e w' => e = .returned (.agg #[.int .u64 (l0 (modN nN (x * y))), .int .u64 (l1 (modN nN (x * y))), .int .u64 (l2 (modN nN (x * y))), .int .u64 (l3 (modN nN (x * y)))]) ∧ Below w.heap.size w w') := fun w => r6times_walk (fun w => rMul_good (.inr rfl) hx hy w) w
theorem r6inv_any {x : Int} (hx : Num x) (hz : modN nN x ≠ 0) : Hid (∀ w, Calls Tryz.prog 102 #[.agg #[.int .u64 (l0 x), .int .u64 (l1 x), .int .u64 (l2 x), .int .u64 (l3 x)]] w fun e w' => e = .returned (.agg #[.int .u64 (l0 (invN nN x)), .int .u64 (l1 (invN nN x)), .int .u64 (l2 (invN nN x)), .int .u64 (l3 (invN nN x))]) ∧ Below w.heap.size w w') := fun w => r6inv_walk (fun w => rInverse_good (.inr rfl) hx hz w) w
theorem r4red_n {x : Int} (hx : Num x) : Hid (∀ w, Calls Tryz.prog 120 #[.int .i64 1, .agg #[.int .u64 0, .int .u64 0, .int .u64 0, .int .u64 0], .agg #[.int .u64 (l0 x), .int .u64 (l1 x), .int .u64 (l2 x), .int .u64 (l3 x)]] w fun e w' => e = .returned (.tuple #[.agg #[.int .u64 (l0 (modN nN x)), .int .u64 (l1 (modN nN x)), .int .u64 (l2 (modN nN x)), .int .u64 (l3 (modN nN x))], .int .i64 0]) ∧ Below w.heap.size w w') := fun w => by
  have := rReduce_good (k := 1) (x := 0) (.inr rfl) ⟨by decide, by decide⟩ hx w
  obtain ⟨z0, z1, z2, z3⟩ := zero_limbs
  rw [z0, z1, z2, z3, show wideN 0 x = x by unfold wideN; omega] at this
  exact this

set_option maxRecDepth 100000 in
set_option maxHeartbeats 2000000 in
theorem r6number_any {A : List Int} (hA : Byts A) (hl : A.length = 32) (w : World) :
    Calls Tryz.prog 96 #[hashV A] w fun e w' => e = .returned (.agg #[.int .u64 (l0 (modN nN (sufN A 32))), .int .u64 (l1 (modN nN (sufN A 32))), .int .u64 (l2 (modN nN (sufN A 32))), .int .u64 (l3 (modN nN (sufN A 32)))]) ∧ Below w.heap.size w w' := by
  have C : Hid (∀ w bb, (∀ i, i < A.length → w.cell? ⟨bb, 0 + i, none⟩ = some (.int .u8 (A.getD i 0))) → Calls Tryz.prog 98 #[.slice (some ⟨bb, 0, none⟩) 32 32] w fun e w' => e = .returned (.tuple #[.agg #[.int .u64 (l0 (sufN A 32)), .int .u64 (l1 (sufN A 32)), .int .u64 (l2 (sufN A 32)), .int .u64 (l3 (sufN A 32))], .int .i64 0]) ∧ Below w.heap.size w w') := fun w bb h => by
    have := rget_some (ob := 0) (cb := 32) hA (by omega) w h
    rw [hl] at this
    exact this
  have hn : Num (sufN A 32) := by
    have := sufN_bound hA 32
    exact ⟨this.1, by have := this.2; simpa using this⟩
  have C2 := r4red_n hn
  generalize modN nN (sufN A 32) = r at *
  generalize sufN A 32 = n at *
  unfold hashV
  clear hA hn
  go_enter Tryz.func96, Tryz.ntmps96
  go_wp2_with fail
  refine calls_world (fun W => Below w.heap.size w W ∧ (∀ i, i < A.length → W.cell? ⟨w.heap.size, 0 + i, none⟩ = some (.int .u8 (A.getD i 0))) ∧ Blank W (w.heap.size + 1)) ⟨by repeat (first | with_reducible exact Below.refl _ _ | with_reducible refine Below.alloc ?_ (by first | omega | (simp; done) | (simp; omega)) _), fun i hi => cell_keep ((Below.refl _ _).alloc (Nat.le_refl _) _) (hash_cells i hi), Blank.new (by simp)⟩ ?_
  rintro W ⟨B, hY, hR⟩
  have o3 : w.heap.size ≤ w.heap.size + 1 := by omega
  generalize w.heap.size + 1 = br at *
  with_reducible refine (C.out _ _ hY).mono ?_
  rintro e w1 ⟨rfl, hb⟩
  replace B := B.trans (hb.mono B.size)
  replace hR := hR.keep hb
  clear hb hY W C
  go_wp2_with fail
  refine calls_world (fun W => Below w.heap.size w W ∧ Blank W br) ⟨B.alloc B.size _, hR.alloc _⟩ ?_
  clear B hR
  rintro W ⟨B, hR⟩
  with_reducible refine (C2.out _).mono ?_
  rintro e w2 ⟨rfl, hb⟩
  replace B := B.trans (hb.mono B.size)
  replace hR := hR.keep hb
  have lr := hR.1.lt (by simp)
  have nr : w2.heap.size ≠ br := by omega
  have nr' := nr.symm
  clear hb W C2
  have gR := fun o => (hR.alloc o).1.all4
  have fR := fun o => (hR.alloc o).2.all4
  have gR0 := hR.1.all4
  have fR0 := hR.2.all4
  have sz := B.size
  have BB : Hid (Below w.heap.size w w2) := B
  clear B hR
  go_wp2
  simp [bodyPost, results, Tryz.results96, go_sem, *]
  repeat (first | with_reducible exact BB.out | with_reducible refine Below.setCell ?_ o3 _ | with_reducible refine Below.alloc ?_ (by first | omega | (simp; omega)) _)
end Go.Proofs.YtncpjgpioajbeaaGreatDoor
