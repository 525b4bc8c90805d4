import Derived.Test.YtmegdnalpaddmaaFeA
namespace Go.Proofs.Ytmegdnalpaddmaa
open Go.RowKit Go.Sort

theorem numF_any (v : Int) (w : World) : Calls Try.prog 15 #[.int .i64 v] w fun e w' => e = .returned (.int .i64 v) ∧ Below w.heap.size w w' := by
  go_enter Try.func15, Try.ntmps15
  go_wp2
  simp [bodyPost, results, Try.results15, go_sem]
  repeat (first | with_reducible exact Below.refl _ _ | with_reducible refine Below.drew ?_ | with_reducible refine Below.alloc ?_ (by first | omega | (simp; done) | (simp; omega)) _)

set_option maxRecDepth 100000 in
set_option maxHeartbeats 4000000 in
theorem bases_walk {b l u x y : Int} (N1 : Hid (∀ w, Calls Try.prog 7 #[.agg #[.int .u64 (l0 b), .int .u64 (l1 b), .int .u64 (l2 b), .int .u64 (l3 b)], .int .u64 l, .int .u64 u] w fun e w' => e = .returned (.tuple #[.agg #[.int .u64 (l0 x), .int .u64 (l1 x), .int .u64 (l2 x), .int .u64 (l3 x)], .int .i64 y]) ∧ Below w.heap.size w w')) (N2 : Hid (∀ w, Calls Try.prog 14 #[.agg #[.int .u64 (l0 b), .int .u64 (l1 b), .int .u64 (l2 b), .int .u64 (l3 b)], .int .u64 l, .int .u64 u] w fun e w' => e = .returned (.tuple #[.agg #[.int .u64 (l0 x), .int .u64 (l1 x), .int .u64 (l2 x), .int .u64 (l3 x)], .int .i64 y]) ∧ Below w.heap.size w w')) (w : World) :
    Calls Try.prog 5 #[.agg #[.int .u64 (l0 b), .int .u64 (l1 b), .int .u64 (l2 b), .int .u64 (l3 b)], .int .u64 l, .int .u64 u] w fun e w' => e = .returned (.bool true) ∧ Below w.heap.size w w' := by
  have ey : ∀ n w, (Op.equalIn 10000 24 (.agg #[.int .u64 (l0 n), .int .u64 (l1 n), .int .u64 (l2 n), .int .u64 (l3 n)]) (.agg #[.int .u64 (l0 n), .int .u64 (l1 n), .int .u64 (l2 n), .int .u64 (l3 n)])).run Try.prog w = .ok true w := fun n w => eq_yes w
  go_enter Try.func5, Try.ntmps5
  go_wp2_with fail
  refine calls_world (fun W => Below w.heap.size w W ∧ Hold W w.heap.size b) ⟨by repeat (first | with_reducible exact Below.refl _ _ | with_reducible refine Below.alloc ?_ (by first | omega | (simp; done) | (simp; omega)) _), Hold.fresh rfl⟩ ?_
  rintro W ⟨B, hX⟩
  with_reducible refine (N1.out _).mono ?_
  rintro e w1 ⟨rfl, hb⟩
  replace B := B.trans (hb.mono B.size)
  replace hX := hX.keep hb
  clear hb W
  have ghX := hX.allocs
  go_wp2_with fail
  refine calls_world (fun W => Below w.heap.size w W ∧ Hold W w.heap.size b ∧ Hold W w1.heap.size x) ⟨B.alloc B.size _, hX.alloc _, Hold.new _ _ _⟩ ?_
  clear B hX ghX
  rintro W ⟨B, hX, hA⟩
  generalize w1.heap.size = ba at *
  with_reducible refine (N2.out _).mono ?_
  rintro e w2 ⟨rfl, hb⟩
  replace B := B.trans (hb.mono B.size)
  replace hX := hX.keep hb; replace hA := hA.keep hb
  clear hb W
  have ghA := hA.allocs
  go_wp2_with fail
  refine calls_world (fun W => Below w.heap.size w W ∧ Hold W w.heap.size b ∧ Hold W ba x ∧ Hold W w2.heap.size x) ⟨B.alloc B.size _, hX.alloc _, hA.alloc _, Hold.new _ _ _⟩ ?_
  clear B hX hA ghA
  rintro W ⟨B, hX, hA, hB⟩
  generalize w2.heap.size = bb at *
  with_reducible refine (numF_any _ _).mono ?_
  rintro e w9 ⟨rfl, hb⟩
  replace B := B.trans (hb.mono B.size)
  clear hb
  go_wp2
  simp [bodyPost, results, Try.results5, go_sem]
  exact B

set_option maxRecDepth 100000 in
set_option maxHeartbeats 4000000 in
theorem blobs_walk {a u t f x y p q : Int} (X1 : Hid (∀ w, Calls Try.prog 13 #[.int .u64 a, .int .u64 u, .int .u64 t] w fun e w' => e = .returned (.tuple #[.int .u64 x, .int .i64 y]) ∧ Below w.heap.size w w')) (X2 : Hid (∀ w, Calls Try.prog 16 #[.int .u64 a, .int .u64 u, .int .u64 t] w fun e w' => e = .returned (.tuple #[.int .u64 x, .int .i64 y]) ∧ Below w.heap.size w w')) (P1 : Hid (∀ w, Calls Try.prog 12 #[.int .u64 a, .int .u64 f] w fun e w' => e = .returned (.tuple #[.agg #[.int .u64 (l0 p), .int .u64 (l1 p), .int .u64 (l2 p), .int .u64 (l3 p)], .int .i64 q]) ∧ Below w.heap.size w w')) (P2 : Hid (∀ w, Calls Try.prog 17 #[.int .u64 a, .int .u64 f] w fun e w' => e = .returned (.tuple #[.agg #[.int .u64 (l0 p), .int .u64 (l1 p), .int .u64 (l2 p), .int .u64 (l3 p)], .int .i64 q]) ∧ Below w.heap.size w w')) (w : World) :
    Calls Try.prog 6 #[.int .u64 a, .int .u64 u, .int .u64 t, .int .u64 f] w fun e w' => e = .returned (.bool true) ∧ Below w.heap.size w w' := by
  have ey : ∀ n w, (Op.equalIn 10000 24 (.agg #[.int .u64 (l0 n), .int .u64 (l1 n), .int .u64 (l2 n), .int .u64 (l3 n)]) (.agg #[.int .u64 (l0 n), .int .u64 (l1 n), .int .u64 (l2 n), .int .u64 (l3 n)])).run Try.prog w = .ok true w := fun n w => eq_yes w
  go_enter Try.func6, Try.ntmps6
  go_wp2_with fail
  refine calls_world (fun W => Below w.heap.size w W) (Below.refl _ _) ?_
  rintro W B
  with_reducible refine (X1.out _).mono ?_
  rintro e w1 ⟨rfl, hb⟩
  replace B := B.trans (hb.mono B.size)
  clear hb W
  go_wp2_with fail
  refine calls_world (fun W => Below w.heap.size w W) B ?_
  clear B
  rintro W B
  with_reducible refine (X2.out _).mono ?_
  rintro e w2 ⟨rfl, hb⟩
  replace B := B.trans (hb.mono B.size)
  clear hb W
  go_wp2_with fail
  refine calls_world (fun W => Below w.heap.size w W) B ?_
  clear B
  rintro W B
  with_reducible refine (P1.out _).mono ?_
  rintro e w4 ⟨rfl, hb⟩
  replace B := B.trans (hb.mono B.size)
  clear hb W
  go_wp2_with fail
  refine calls_world (fun W => Below w.heap.size w W ∧ Hold W w4.heap.size p) ⟨B.alloc B.size _, Hold.new _ _ _⟩ ?_
  clear B  
  rintro W ⟨B, hA⟩
  generalize w4.heap.size = ba at *
  with_reducible refine (P2.out _).mono ?_
  rintro e w5 ⟨rfl, hb⟩
  replace B := B.trans (hb.mono B.size)
  replace hA := hA.keep hb
  clear hb W
  go_wp2_with fail
  refine calls_world (fun W => Below w.heap.size w W ∧ Hold W ba p ∧ Hold W w5.heap.size p) ⟨B.alloc B.size _, hA.alloc _, Hold.new _ _ _⟩ ?_
  clear B hA 
  rintro W ⟨B, hA, hB⟩
  generalize w5.heap.size = bb at *
  with_reducible refine (numF_any _ _).mono ?_
  rintro e w6 ⟨rfl, hb⟩
  replace B := B.trans (hb.mono B.size)
  replace hA := hA.keep hb; replace hB := hB.keep hb
  clear hb W
  have ghA := hA.cells
  have ghB := hB.cells
  go_wp2_with fail
  refine calls_world (fun W => Below w.heap.size w W ∧ Hold W ba p ∧ Hold W bb p) ⟨B, hA, hB⟩ ?_
  clear B hA hB ghA ghB
  rintro W ⟨B, hA, hB⟩
  with_reducible refine (numF_any _ _).mono ?_
  rintro e w9 ⟨rfl, hb⟩
  replace B := B.trans (hb.mono B.size)
  clear hb
  go_wp2
  simp [bodyPost, results, Try.results6, go_sem]
  exact B

end Go.Proofs.Ytmegdnalpaddmaa
