import Derived.Test.YtfpiopjlcjckeabDoorFBin
import Derived.Test.YtfpiopjlcjckeabDoorFRInv
namespace Go.Proofs.YtfpiopjlcjckeabDoor
open Go.RowKit Go.Sort

theorem fnum_any (v : Int) (w : World) : Calls Tryd.prog 9 #[.int .i64 v] w fun e w' => e = .returned (.int .i64 v) ∧ Below w.heap.size w w' := by
  go_enter Tryd.func9, Tryd.ntmps9
  go_wp2
  simp [bodyPost, results, Tryd.results9, go_sem]
  repeat (first | with_reducible exact Below.refl _ _ | with_reducible refine Below.drew ?_ | with_reducible refine Below.alloc ?_ (by first | omega | (simp; done) | (simp; omega)) _)

set_option maxRecDepth 100000 in
set_option maxHeartbeats 8000000 in
theorem fpowers_walk {k x y r0 r1 e0 e1 : Int} (O0 : Hid (∀ w, Mds w → Calls Tryd.prog 16 #[.int .i64 k, .agg #[.int .u64 (l0 x), .int .u64 (l1 x), .int .u64 (l2 x), .int .u64 (l3 x)], .agg #[.int .u64 (l0 y), .int .u64 (l1 y), .int .u64 (l2 y), .int .u64 (l3 y)]] w fun e w' => e = .returned (.tuple #[.agg #[.int .u64 (l0 r0), .int .u64 (l1 r0), .int .u64 (l2 r0), .int .u64 (l3 r0)], .int .i64 e0]) ∧ Below w.heap.size w w')) (R0 : Hid (∀ w, Calls Tryd.prog 17 #[.int .i64 k, .agg #[.int .u64 (l0 x), .int .u64 (l1 x), .int .u64 (l2 x), .int .u64 (l3 x)], .agg #[.int .u64 (l0 y), .int .u64 (l1 y), .int .u64 (l2 y), .int .u64 (l3 y)]] w fun e w' => e = .returned (.tuple #[.agg #[.int .u64 (l0 r0), .int .u64 (l1 r0), .int .u64 (l2 r0), .int .u64 (l3 r0)], .int .i64 e0]) ∧ Below w.heap.size w w')) (O1 : Hid (∀ w, Mds w → Calls Tryd.prog 18 #[.int .i64 k, .agg #[.int .u64 (l0 x), .int .u64 (l1 x), .int .u64 (l2 x), .int .u64 (l3 x)]] w fun e w' => e = .returned (.tuple #[.agg #[.int .u64 (l0 r1), .int .u64 (l1 r1), .int .u64 (l2 r1), .int .u64 (l3 r1)], .int .i64 e1]) ∧ Below w.heap.size w w')) (R1 : Hid (∀ w, Calls Tryd.prog 19 #[.int .i64 k, .agg #[.int .u64 (l0 x), .int .u64 (l1 x), .int .u64 (l2 x), .int .u64 (l3 x)]] w fun e w' => e = .returned (.tuple #[.agg #[.int .u64 (l0 r1), .int .u64 (l1 r1), .int .u64 (l2 r1), .int .u64 (l3 r1)], .int .i64 e1]) ∧ Below w.heap.size w w')) (w : World) (hm : Mds w) :
    Calls Tryd.prog 4 #[.int .i64 k, .agg #[.int .u64 (l0 x), .int .u64 (l1 x), .int .u64 (l2 x), .int .u64 (l3 x)], .agg #[.int .u64 (l0 y), .int .u64 (l1 y), .int .u64 (l2 y), .int .u64 (l3 y)]] w fun e w' => e = .returned (.bool true) ∧ Below w.heap.size w w' := by
  have ey : ∀ n w, (Op.equalIn 10000 24 (.agg #[.int .u64 (l0 n), .int .u64 (l1 n), .int .u64 (l2 n), .int .u64 (l3 n)]) (.agg #[.int .u64 (l0 n), .int .u64 (l1 n), .int .u64 (l2 n), .int .u64 (l3 n)])).run Tryd.prog w = .ok true w := fun n w => eq_yes w
  have nm : Hid (∀ v w, Calls Tryd.prog 9 #[.int .i64 v] w fun e w' => e = .returned (.int .i64 v) ∧ Below w.heap.size w w') := fnum_any
  go_enter Tryd.func4, Tryd.ntmps4
  go_wp2_with fail
  refine calls_world (fun W => Below w.heap.size w W ∧ Mds W ∧ Hold W w.heap.size x ∧ Hold W (w.heap.size + 1) y) ⟨by repeat (first | with_reducible exact Below.refl _ _ | with_reducible refine Below.alloc ?_ (by first | omega | (simp; done) | (simp; omega)) _), (hm.alloc _).alloc _, (Hold.fresh (by simp)).alloc _, Hold.fresh (by simp)⟩ ?_
  rintro W ⟨B, hD, hX, hY⟩
  have nx : w.heap.size + 1 ≠ w.heap.size := by omega
  generalize w.heap.size + 1 = bw at *
  with_reducible refine (O0.out _ hD).mono ?_
  rintro e w1 ⟨rfl, hb⟩
  replace B := B.trans (hb.mono B.size)
  replace hD := hD.keep hb; replace hX := hX.keep hb; replace hY := hY.keep hb
  clear hb W
  have gX := hX.allocs; have gY := hY.allocs
  go_wp2_with fail
  have o1 : w.heap.size ≤ w1.heap.size := B.size
  have a1 : w1.heap.size ≠ w.heap.size := by have := hX.row.lt (by simp); omega
  have a2 : w1.heap.size ≠ bw := by have := hY.row.lt (by simp); omega
  have a3 : w1.heap.size ≠ 0 := by have := hD.lt; omega
  refine calls_world (fun W => Below w.heap.size w W ∧ Mds W ∧ Hold W w.heap.size x ∧ Hold W bw y ∧ Var W w1.heap.size r0) ⟨B.alloc B.size _, hD.alloc _, hX.alloc _, hY.alloc _, Var.new rfl⟩ ?_
  clear B hD hX hY gX gY
  rintro W ⟨B, hD, hX, hY, hA⟩
  generalize w1.heap.size = ba at *
  with_reducible refine (R0.out _).mono ?_
  rintro e w2 ⟨rfl, hb⟩
  replace B := B.trans (hb.mono B.size)
  replace hD := hD.keep hb; replace hX := hX.keep hb; replace hY := hY.keep hb; replace hA := hA.keep hb
  clear hb W
  have gA := fun o => (hA.alloc o).1.cells
  go_wp2_with fail
  have o2 : w.heap.size ≤ w2.heap.size := B.size
  have b1 : w2.heap.size ≠ w.heap.size := by have := hX.row.lt (by simp); omega
  have b2 : w2.heap.size ≠ bw := by have := hY.row.lt (by simp); omega
  have b3 : w2.heap.size ≠ 0 := by have := hD.lt; omega
  have b4 : w2.heap.size ≠ ba := by have := hA.1.row.lt (by simp); omega
  have b5 := b4.symm
  refine calls_world (fun W => Below w.heap.size w W ∧ Mds W ∧ Hold W w.heap.size x ∧ Hold W bw y ∧ Var W ba r0 ∧ Var W w2.heap.size r0) ⟨B.alloc B.size _, hD.alloc _, hX.alloc _, hY.alloc _, hA.alloc _, Var.new rfl⟩ ?_
  clear B hD hX hY hA gA
  rintro W ⟨B, hD, hX, hY, hA, hB⟩
  generalize w2.heap.size = bb at *
  with_reducible refine (nm.out _ _).mono ?_
  rintro e v1 ⟨rfl, hb⟩
  replace B := B.trans (hb.mono B.size)
  replace hD := hD.keep hb; replace hX := hX.keep hb; replace hY := hY.keep hb; replace hA := hA.keep hb; replace hB := hB.keep hb
  clear hb W
  have gX := hX.cells; have gY := hY.cells
  go_wp2_with fail
  clear gX gY
  with_reducible refine (O1.out _ hD).mono ?_
  rintro e p1 ⟨rfl, hb⟩
  replace B := B.trans (hb.mono B.size)
  replace hD := hD.keep hb; replace hX := hX.keep hb; replace hY := hY.keep hb; replace hA := hA.keep hb; replace hB := hB.keep hb
  clear hb v1
  have gA := hA.1.cells; have fA := hA.2.all4; have gX := hX.cells; have gY := hY.cells
  go_wp2_with fail
  refine calls_world (fun W => Below w.heap.size w W ∧ Mds W ∧ Hold W w.heap.size x ∧ Hold W bw y ∧ Var W ba r1 ∧ Var W bb r0) ⟨below_set4 B o1 _ _ _ _, hD.set4 a3 _ _ _ _, hX.set4 a1 _ _ _ _, hY.set4 a2 _ _ _ _, hA.sets _, hB.set4 b5 _ _ _ _⟩ ?_
  clear B hD hX hY hA hB gA fA gX gY p1
  rintro W ⟨B, hD, hX, hY, hA, hB⟩
  with_reducible refine (R1.out _).mono ?_
  rintro e p1 ⟨rfl, hb⟩
  replace B := B.trans (hb.mono B.size)
  replace hD := hD.keep hb; replace hX := hX.keep hb; replace hY := hY.keep hb; replace hA := hA.keep hb; replace hB := hB.keep hb
  clear hb W
  have gA := hA.1.cells; have gB := hB.1.cells; have fB := hB.2.all4
  go_wp2_with fail
  refine calls_world (fun W => Below w.heap.size w W ∧ Mds W ∧ Hold W w.heap.size x ∧ Hold W bw y ∧ Var W ba r1 ∧ Var W bb r1) ⟨below_set4 B o2 _ _ _ _, hD.set4 b3 _ _ _ _, hX.set4 b1 _ _ _ _, hY.set4 b2 _ _ _ _, hA.set4 b4 _ _ _ _, hB.sets _⟩ ?_
  clear B hD hX hY hA hB gA gB fB p1
  rintro W ⟨B, hD, hX, hY, hA, hB⟩
  with_reducible refine (nm.out _ _).mono ?_
  rintro e v2 ⟨rfl, hb⟩
  replace B := B.trans (hb.mono B.size)
  clear hb hD hX hY hA hB
  go_wp2
  simp [bodyPost, results, Tryd.results4, go_sem]
  exact B

theorem kind_of {k : Int} (hk : k = 0 ∨ k = 1) : Kind k (rM k) (rC k) := by
  rcases hk with rfl | rfl
  · exact kind_p
  · exact kind_n

theorem fpowers_any {k x y : Int} (hx : Num x) (hy : Num y) (w : World) (hm : Mds w) :
    Calls Tryd.prog 4 #[.int .i64 k, .agg #[.int .u64 (l0 x), .int .u64 (l1 x), .int .u64 (l2 x), .int .u64 (l3 x)], .agg #[.int .u64 (l0 y), .int .u64 (l1 y), .int .u64 (l2 y), .int .u64 (l3 y)]] w fun e w' => e = .returned (.bool true) ∧ Below w.heap.size w w' := by
  by_cases hk : k = 0 ∨ k = 1
  · have K := kind_of hk
    by_cases hz : modN (rM k) x = 0
    · exact fpowers_walk (fun w h => Exp_good K hx hy w h) (rExp_good hk hx hy) (fun w h => Inverse_zero K hx hz w h) (rInverse_zero hk hx hz) w hm
    · exact fpowers_walk (fun w h => Exp_good K hx hy w h) (rExp_good hk hx hy) (fun w h => Inverse_good K hx hz w h) (rInverse_good hk hx hz) w hm
  · have h0 : k ≠ 0 := fun h => hk (.inl h)
    have h1 : k ≠ 1 := fun h => hk (.inr h)
    exact fpowers_walk (fun w h => Exp_bad h0 h1 w h) (rExp_bad h0 h1) (fun w h => Inverse_bad h0 h1 w h) (rInverse_bad h0 h1) w hm
end Go.Proofs.YtfpiopjlcjckeabDoor
