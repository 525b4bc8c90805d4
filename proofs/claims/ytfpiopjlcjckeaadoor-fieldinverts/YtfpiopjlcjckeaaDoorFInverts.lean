import Derived.Test.YtfpiopjlcjckeaaDoorFSum
import Derived.Test.YtfpiopjlcjckeaaDoorFUn
import Derived.Test.YtfpiopjlcjckeaaDoorFInv
import Derived.Test.YtfpiopjlcjckeaaDoorFFermat
namespace Go.Proofs.YtfpiopjlcjckeaaDoor
open Go.RowKit Go.Sort

theorem Smm.grown {W : World} {b : Nat} {k : Int} (h : Smm W b k) : ∀ d os, ((grow (redrawn W d) os).cell? ⟨b, 0, none⟩ = some (.int .i64 k) ∧ (grow (redrawn W d) os).cell? ⟨b, 1, none⟩ = some (.bool false)) :=
  fun d os => (h.keep (below_regrown W d os)).1
theorem Smm.allocs {W : World} {b : Nat} {k : Int} (h : Smm W b k) : ∀ o, ((W.alloc o).cell? ⟨b, 0, none⟩ = some (.int .i64 k) ∧ (W.alloc o).cell? ⟨b, 1, none⟩ = some (.bool false)) := fun o => (h.alloc o).1

set_option maxRecDepth 100000 in
set_option maxHeartbeats 16000000 in
theorem finverts_some {v k x a m r y ls hf rs pv qv wv z1 : Int} (K0 : Hid (∀ w, Calls Tryd.prog 9 #[.int .i64 v] w fun e w' => e = .returned (.int .i64 k) ∧ Below w.heap.size w w'))
    (O1 : Hid (∀ w, Mds w → Calls Tryd.prog 15 #[.int .i64 k] w fun e w' => e = .returned (.tuple #[.agg #[.int .u64 (l0 m), .int .u64 (l1 m), .int .u64 (l2 m), .int .u64 (l3 m)], .int .i64 0]) ∧ Below w.heap.size w w')) (O2 : Hid (∀ w, Mds w → Calls Tryd.prog 20 #[.int .i64 k, .agg #[.int .u64 0, .int .u64 0, .int .u64 0, .int .u64 0], .agg #[.int .u64 (l0 x), .int .u64 (l1 x), .int .u64 (l2 x), .int .u64 (l3 x)]] w fun e w' => e = .returned (.tuple #[.agg #[.int .u64 (l0 r), .int .u64 (l1 r), .int .u64 (l2 r), .int .u64 (l3 r)], .int .i64 0]) ∧ Below w.heap.size w w')) (O3 : Hid (∀ w, Mds w → Calls Tryd.prog 12 #[.int .i64 k, .agg #[.int .u64 (l0 x), .int .u64 (l1 x), .int .u64 (l2 x), .int .u64 (l3 x)]] w fun e w' => e = .returned (.tuple #[.agg #[.int .u64 (l0 y), .int .u64 (l1 y), .int .u64 (l2 y), .int .u64 (l3 y)], .int .i64 0]) ∧ Below w.heap.size w w')) (O4 : Hid (∀ w, Mds w → Calls Tryd.prog 12 #[.int .i64 k, .agg #[.int .u64 (l0 y), .int .u64 (l1 y), .int .u64 (l2 y), .int .u64 (l3 y)]] w fun e w' => e = .returned (.tuple #[.agg #[.int .u64 (l0 r), .int .u64 (l1 r), .int .u64 (l2 r), .int .u64 (l3 r)], .int .i64 0]) ∧ Below w.heap.size w w'))
    (F1 : Hid (∀ w, Calls Tryd.prog 14 #[.int .u64 1] w fun e w' => e = .returned (.agg #[.int .u64 (l0 1), .int .u64 (l1 1), .int .u64 (l2 1), .int .u64 (l3 1)]) ∧ Below w.heap.size w w')) (S1 : Hid (∀ w, Calls Tryd.prog 28 #[.agg #[.int .u64 (l0 m), .int .u64 (l1 m), .int .u64 (l2 m), .int .u64 (l3 m)], .agg #[.int .u64 (l0 1), .int .u64 (l1 1), .int .u64 (l2 1), .int .u64 (l3 1)]] w fun e w' => e = .returned (.tuple #[.agg #[.int .u64 (l0 ls), .int .u64 (l1 ls), .int .u64 (l2 ls), .int .u64 (l3 ls)], .int .u64 z1]) ∧ Below w.heap.size w w')) (O5 : Hid (∀ w, Mds w → Calls Tryd.prog 29 #[.int .i64 k, .agg #[.int .u64 (l0 x), .int .u64 (l1 x), .int .u64 (l2 x), .int .u64 (l3 x)], .agg #[.int .u64 (l0 ls), .int .u64 (l1 ls), .int .u64 (l2 ls), .int .u64 (l3 ls)]] w fun e w' => e = .returned (.tuple #[.agg #[.int .u64 (l0 1), .int .u64 (l1 1), .int .u64 (l2 1), .int .u64 (l3 1)], .int .i64 0]) ∧ Below w.heap.size w w'))
    (P1 : Hid (∀ w b, Mds w → Smm w b k → Calls Tryd.prog 24 #[.pointer (some ⟨b, 0, none⟩), .agg #[.int .u64 (l0 x), .int .u64 (l1 x), .int .u64 (l2 x), .int .u64 (l3 x)], .agg #[.int .u64 (l0 y), .int .u64 (l1 y), .int .u64 (l2 y), .int .u64 (l3 y)]] w fun e w' => e = .returned (.agg #[.int .u64 (l0 1), .int .u64 (l1 1), .int .u64 (l2 1), .int .u64 (l3 1)]) ∧ Below w.heap.size w w')) (H1 : Hid (∀ w, Calls Tryd.prog 30 #[.agg #[.int .u64 (l0 a), .int .u64 (l1 a), .int .u64 (l2 a), .int .u64 (l3 a)], .int .i64 1] w fun e w' => e = .returned (.agg #[.int .u64 (l0 hf), .int .u64 (l1 hf), .int .u64 (l2 hf), .int .u64 (l3 hf)]) ∧ Below w.heap.size w w')) (S2 : Hid (∀ w, Calls Tryd.prog 28 #[.agg #[.int .u64 (l0 a), .int .u64 (l1 a), .int .u64 (l2 a), .int .u64 (l3 a)], .agg #[.int .u64 (l0 hf), .int .u64 (l1 hf), .int .u64 (l2 hf), .int .u64 (l3 hf)]] w fun e w' => e = .returned (.tuple #[.agg #[.int .u64 (l0 rs), .int .u64 (l1 rs), .int .u64 (l2 rs), .int .u64 (l3 rs)], .int .u64 0]) ∧ Below w.heap.size w w'))
    (O6 : Hid (∀ w, Mds w → Calls Tryd.prog 29 #[.int .i64 k, .agg #[.int .u64 (l0 x), .int .u64 (l1 x), .int .u64 (l2 x), .int .u64 (l3 x)], .agg #[.int .u64 (l0 hf), .int .u64 (l1 hf), .int .u64 (l2 hf), .int .u64 (l3 hf)]] w fun e w' => e = .returned (.tuple #[.agg #[.int .u64 (l0 pv), .int .u64 (l1 pv), .int .u64 (l2 pv), .int .u64 (l3 pv)], .int .i64 0]) ∧ Below w.heap.size w w')) (O7 : Hid (∀ w, Mds w → Calls Tryd.prog 29 #[.int .i64 k, .agg #[.int .u64 (l0 x), .int .u64 (l1 x), .int .u64 (l2 x), .int .u64 (l3 x)], .agg #[.int .u64 (l0 rs), .int .u64 (l1 rs), .int .u64 (l2 rs), .int .u64 (l3 rs)]] w fun e w' => e = .returned (.tuple #[.agg #[.int .u64 (l0 qv), .int .u64 (l1 qv), .int .u64 (l2 qv), .int .u64 (l3 qv)], .int .i64 0]) ∧ Below w.heap.size w w')) (O8 : Hid (∀ w, Mds w → Calls Tryd.prog 29 #[.int .i64 k, .agg #[.int .u64 (l0 x), .int .u64 (l1 x), .int .u64 (l2 x), .int .u64 (l3 x)], .agg #[.int .u64 (l0 a), .int .u64 (l1 a), .int .u64 (l2 a), .int .u64 (l3 a)]] w fun e w' => e = .returned (.tuple #[.agg #[.int .u64 (l0 wv), .int .u64 (l1 wv), .int .u64 (l2 wv), .int .u64 (l3 wv)], .int .i64 0]) ∧ Below w.heap.size w w'))
    (P2 : Hid (∀ w b, Mds w → Smm w b k → Calls Tryd.prog 24 #[.pointer (some ⟨b, 0, none⟩), .agg #[.int .u64 (l0 pv), .int .u64 (l1 pv), .int .u64 (l2 pv), .int .u64 (l3 pv)], .agg #[.int .u64 (l0 qv), .int .u64 (l1 qv), .int .u64 (l2 qv), .int .u64 (l3 qv)]] w fun e w' => e = .returned (.agg #[.int .u64 (l0 wv), .int .u64 (l1 wv), .int .u64 (l2 wv), .int .u64 (l3 wv)]) ∧ Below w.heap.size w w')) (hz : Hid (r ≠ 0)) (nr : Num r) (w : World) (hm : Mds w) :
    Calls Tryd.prog 6 #[.int .i64 v, .agg #[.int .u64 (l0 x), .int .u64 (l1 x), .int .u64 (l2 x), .int .u64 (l3 x)], .agg #[.int .u64 (l0 a), .int .u64 (l1 a), .int .u64 (l2 a), .int .u64 (l3 a)]] w fun e w' => e = .returned (.bool true) ∧ Below w.heap.size w w' := by
  have ey : ∀ n w, (Op.equalIn 10000 30 (.agg #[.int .u64 (l0 n), .int .u64 (l1 n), .int .u64 (l2 n), .int .u64 (l3 n)]) (.agg #[.int .u64 (l0 n), .int .u64 (l1 n), .int .u64 (l2 n), .int .u64 (l3 n)])).run Tryd.prog w = .ok true w := fun n w => eq_yes w
  have ez : ∀ w, (Op.equalIn 10000 30 (.agg #[.int .u64 (l0 r), .int .u64 (l1 r), .int .u64 (l2 r), .int .u64 (l3 r)]) (.agg #[.int .u64 0, .int .u64 0, .int .u64 0, .int .u64 0])).run Tryd.prog w = .ok false w := fun w => by rw [feq_zero nr]; simp [show ¬ r = 0 from hz.out]
  have bz := build_zero
  clear nr hz
  go_enter Tryd.func6, Tryd.ntmps6
  go_wp2_with fail
  refine calls_world (fun W => Below w.heap.size w W ∧ Mds W ∧ Hold W w.heap.size x ∧ Hold W (w.heap.size + 1) a) ⟨by repeat (first | with_reducible exact Below.refl _ _ | with_reducible refine Below.alloc ?_ (by first | omega | (simp; done) | (simp; omega)) _), (hm.alloc _).alloc _, (Hold.fresh (by simp)).alloc _, Hold.fresh (by simp)⟩ ?_
  rintro W ⟨B, hD, hX, hA⟩
  generalize w.heap.size + 1 = ba at *
  with_reducible refine (K0.out _).mono ?_
  rintro e w1 ⟨rfl, hb⟩
  replace B := B.trans (hb.mono B.size)
  replace hD := hD.keep hb; replace hX := hX.keep hb; replace hA := hA.keep hb
  clear hb W
  go_wp2_with fail
  refine calls_world (fun W => Below w.heap.size w W ∧ Mds W ∧ Hold W w.heap.size x ∧ Hold W ba a ∧ Smm W w1.heap.size k) ⟨B.alloc B.size _, hD.alloc _, hX.alloc _, hA.alloc _, Smm.new rfl⟩ ?_
  clear B hD hX hA
  rintro W ⟨B, hD, hX, hA, hS⟩
  generalize w1.heap.size = bb at *
  with_reducible refine (O1.out _ hD).mono ?_
  rintro e w2 ⟨rfl, hb⟩
  replace B := B.trans (hb.mono B.size)
  replace hD := hD.keep hb; replace hX := hX.keep hb; replace hA := hA.keep hb; replace hS := hS.keep hb
  clear hb W
  go_wp2_with fail
  refine wp_world (fun W => Below w.heap.size w W ∧ Mds W ∧ Hold W w.heap.size x ∧ Hold W ba a ∧ Smm W bb k ∧ Hold W w2.heap.size m) ⟨B.alloc B.size _, hD.alloc _, hX.alloc _, hA.alloc _, hS.alloc _, Hold.new _ _ _⟩ ?_
  clear B hD hX hA hS 
  rintro W ⟨B, hD, hX, hA, hS, hM⟩
  generalize w2.heap.size = bm at *
  have lthD : 0 < W.heap.size := hD.lt
  have ghX := hX.cells
  have lthX : w.heap.size < W.heap.size := World.block_lt_of_cell? W _ hX.1
  have lthA : ba < W.heap.size := World.block_lt_of_cell? W _ hA.1
  have ghS := hS.1
  have lthS : bb < W.heap.size := hS.lt
  have lthM : bm < W.heap.size := World.block_lt_of_cell? W _ hM.1
  have BB : Hid (Below w.heap.size w W) := B
  have QhD : Hid (Mds W) := hD
  have QhX : Hid (Hold W w.heap.size x) := hX
  have QhA : Hid (Hold W ba a) := hA
  have QhS : Hid (Smm W bb k) := hS
  have QhM : Hid (Hold W bm m) := hM
  have geB : w.heap.size ≤ W.heap.size := B.size
  clear B hD hX hA hS hM
  generalize hbx : w.heap.size = bx at *
  refine wp_out (fun a' W' => ∃ br, Below bx w W' ∧ Mds W' ∧ Hold W' bx x ∧ Hold W' ba a ∧ Smm W' bb k ∧ Hold W' bm m ∧ Hold W' br r ∧ a' = { tmps := #[.int .i64 v, .agg #[.int .u64 (l0 x), .int .u64 (l1 x), .int .u64 (l2 x), .int .u64 (l3 x)], .agg #[.int .u64 (l0 a), .int .u64 (l1 a), .int .u64 (l2 a), .int .u64 (l3 a)], Go.undef, .pointer (some { block := bx, off := 0 }), .pointer (some { block := ba, off := 0 }), .bool false, .pointer (some { block := bb, off := 0 }), .pointer (some { block := bm, off := 0 }), .int .i64 0, .pointer (some { block := br, off := 0 }), .int .i64 0, Go.undef, Go.undef, Go.undef, Go.undef, Go.undef, Go.undef, Go.undef, Go.undef, Go.undef, Go.undef, Go.undef, Go.undef, Go.undef, Go.undef, Go.undef, Go.undef, Go.undef, .int .i64 v, .int .i64 k, .agg #[.int .i64 k, .bool false], .pointer (some { block := bb, off := 0 }), .tuple #[.agg #[.int .u64 (l0 m), .int .u64 (l1 m), .int .u64 (l2 m), .int .u64 (l3 m)], .int .i64 0], .pointer (some { block := bb, off := 0 }), .pointer (some { block := bb, off := 0 }), .pointer (some { block := bb, off := 0 }), .int .i64 k, .tuple #[.agg #[.int .u64 (l0 m), .int .u64 (l1 m), .int .u64 (l2 m), .int .u64 (l3 m)], .int .i64 0], .agg #[.int .u64 (l0 m), .int .u64 (l1 m), .int .u64 (l2 m), .int .u64 (l3 m)], .int .i64 0, .tuple #[.agg #[.int .u64 (l0 r), .int .u64 (l1 r), .int .u64 (l2 r), .int .u64 (l3 r)], .int .i64 0], .pointer (some { block := bb, off := 0 }), .pointer (some { block := bb, off := 0 }), .pointer (some { block := bb, off := 0 }), .int .i64 k, .agg #[.int .u64 0, .int .u64 0, .int .u64 0, .int .u64 0], .agg #[.int .u64 (l0 x), .int .u64 (l1 x), .int .u64 (l2 x), .int .u64 (l3 x)], .tuple #[.agg #[.int .u64 (l0 r), .int .u64 (l1 r), .int .u64 (l2 r), .int .u64 (l3 r)], .int .i64 0], .agg #[.int .u64 (l0 r), .int .u64 (l1 r), .int .u64 (l2 r), .int .u64 (l3 r)], .int .i64 0, Go.undef, Go.undef, Go.undef, Go.undef, Go.undef, Go.undef, Go.undef, Go.undef, Go.undef, Go.undef, Go.undef, Go.undef, Go.undef, Go.undef, Go.undef, Go.undef, Go.undef, Go.undef, Go.undef, Go.undef, Go.undef, Go.undef, Go.undef, Go.undef, Go.undef, Go.undef, Go.undef, Go.undef, Go.undef, Go.undef, Go.undef, Go.undef, Go.undef, Go.undef, Go.undef, Go.undef, Go.undef, Go.undef, Go.undef, Go.undef, Go.undef, Go.undef, Go.undef, Go.undef, Go.undef, Go.undef, Go.undef, Go.undef, Go.undef, Go.undef, Go.undef, Go.undef, Go.undef, Go.undef, Go.undef, Go.undef, Go.undef, Go.undef, Go.undef, Go.undef, Go.undef, Go.undef, Go.undef, Go.undef, Go.undef, Go.undef, Go.undef, Go.undef, Go.undef, Go.undef, Go.undef, Go.undef, Go.undef, Go.undef, Go.undef, Go.undef, Go.undef, Go.undef, Go.undef, Go.undef, Go.undef, Go.undef, Go.undef, Go.undef, Go.undef, Go.undef, Go.undef, Go.undef, Go.undef, Go.undef, Go.undef, Go.undef, Go.undef, Go.undef, Go.undef, Go.undef, Go.undef, Go.undef, Go.undef, Go.undef, Go.undef, Go.undef, Go.undef, Go.undef, Go.undef, Go.undef, Go.undef, Go.undef, Go.undef, Go.undef, Go.undef, Go.undef, Go.undef, Go.undef, Go.undef, Go.undef, Go.undef, Go.undef, Go.undef, Go.undef, Go.undef, Go.undef, Go.undef, Go.undef, Go.undef, Go.undef, Go.undef, Go.undef, Go.undef, Go.undef, Go.undef, Go.undef, Go.undef, Go.undef, Go.undef, Go.undef, Go.undef, Go.undef, Go.undef, Go.undef, Go.undef, Go.undef, Go.undef, Go.undef, Go.undef, Go.undef], defers := [] }) ?_ ?_
  · have dz : W.drew.heap.size = W.heap.size := rfl
    have _ : bx < W.heap.size := by omega
    have _ : bx ≤ W.heap.size := by omega
    have _ : bx < W.heap.size + 1 := by omega
    have _ : bx < W.heap.size + 1 + 1 := by omega
    have _ : bx ≠ W.heap.size := by omega
    have _ : W.heap.size ≠ bx := by omega
    have _ : bx ≠ W.heap.size + 1 := by omega
    have _ : W.heap.size + 1 ≠ bx := by omega
    have _ : ba < W.heap.size := by omega
    have _ : ba ≤ W.heap.size := by omega
    have _ : ba < W.heap.size + 1 := by omega
    have _ : ba < W.heap.size + 1 + 1 := by omega
    have _ : ba ≠ W.heap.size := by omega
    have _ : W.heap.size ≠ ba := by omega
    have _ : ba ≠ W.heap.size + 1 := by omega
    have _ : W.heap.size + 1 ≠ ba := by omega
    have _ : bb < W.heap.size := by omega
    have _ : bb ≤ W.heap.size := by omega
    have _ : bb < W.heap.size + 1 := by omega
    have _ : bb < W.heap.size + 1 + 1 := by omega
    have _ : bb ≠ W.heap.size := by omega
    have _ : W.heap.size ≠ bb := by omega
    have _ : bb ≠ W.heap.size + 1 := by omega
    have _ : W.heap.size + 1 ≠ bb := by omega
    have _ : bm < W.heap.size := by omega
    have _ : bm ≤ W.heap.size := by omega
    have _ : bm < W.heap.size + 1 := by omega
    have _ : bm < W.heap.size + 1 + 1 := by omega
    have _ : bm ≠ W.heap.size := by omega
    have _ : W.heap.size ≠ bm := by omega
    have _ : bm ≠ W.heap.size + 1 := by omega
    have _ : W.heap.size + 1 ≠ bm := by omega
    have _ : 0 < W.heap.size := by omega
    have _ : 0 ≤ W.heap.size := by omega
    have _ : 0 < W.heap.size + 1 := by omega
    have _ : 0 < W.heap.size + 1 + 1 := by omega
    have _ : 0 ≠ W.heap.size := by omega
    have _ : W.heap.size ≠ 0 := by omega
    have _ : 0 ≠ W.heap.size + 1 := by omega
    have _ : W.heap.size + 1 ≠ 0 := by omega
    go_region_held3 (fun w' => w'.cell? ⟨bx, 0, none⟩ = some (.int .u64 (l0 x)) ∧ w'.cell? ⟨bx, 1, none⟩ = some (.int .u64 (l1 x)) ∧ w'.cell? ⟨bx, 2, none⟩ = some (.int .u64 (l2 x)) ∧ w'.cell? ⟨bx, 3, none⟩ = some (.int .u64 (l3 x)) ∧ w'.cell? ⟨bb, 0, none⟩ = some (.int .i64 k)) (((try dsimp only); (repeat' (apply And.intro)); (all_goals repeat (first | with_reducible assumption | with_reducible apply cell_keep hb1 | with_reducible apply cell_alloc | (with_reducible refine cell_set ?_ (by with_reducible assumption)) | (simp [go_sem, *]; done)))))
      (first
        | (go_at_call 20; with_reducible refine (O2.out _ (by repeat (first | with_reducible exact QhD.out | with_reducible refine Mds.alloc ?_ _ | with_reducible refine Mds.drew ?_))).mono ?_; rintro e w1 ⟨rfl, hb1⟩; have hc1 := oldCells hb1; have hz1 := hb1.size; (try simp at hz1); (try (have := fun j => oldCells hb1 (W.heap.size) j (by first | omega | (simp; done) | (simp; omega)))); (try (have := fun j => oldCells hb1 (W.heap.size + 1) j (by first | omega | (simp; done) | (simp; omega)))); have _ : bx < w1.heap.size := (by omega); have _ : bx ≤ w1.heap.size := (by omega); have _ : bx < w1.heap.size + 1 := (by omega); have _ : bx < w1.heap.size + 1 + 1 := (by omega); have _ : bx ≠ w1.heap.size := (by omega); have _ : w1.heap.size ≠ bx := (by omega); have _ : bx ≠ w1.heap.size + 1 := (by omega); have _ : w1.heap.size + 1 ≠ bx := (by omega); have _ : ba < w1.heap.size := (by omega); have _ : ba ≤ w1.heap.size := (by omega); have _ : ba < w1.heap.size + 1 := (by omega); have _ : ba < w1.heap.size + 1 + 1 := (by omega); have _ : ba ≠ w1.heap.size := (by omega); have _ : w1.heap.size ≠ ba := (by omega); have _ : ba ≠ w1.heap.size + 1 := (by omega); have _ : w1.heap.size + 1 ≠ ba := (by omega); have _ : bb < w1.heap.size := (by omega); have _ : bb ≤ w1.heap.size := (by omega); have _ : bb < w1.heap.size + 1 := (by omega); have _ : bb < w1.heap.size + 1 + 1 := (by omega); have _ : bb ≠ w1.heap.size := (by omega); have _ : w1.heap.size ≠ bb := (by omega); have _ : bb ≠ w1.heap.size + 1 := (by omega); have _ : w1.heap.size + 1 ≠ bb := (by omega); have _ : bm < w1.heap.size := (by omega); have _ : bm ≤ w1.heap.size := (by omega); have _ : bm < w1.heap.size + 1 := (by omega); have _ : bm < w1.heap.size + 1 + 1 := (by omega); have _ : bm ≠ w1.heap.size := (by omega); have _ : w1.heap.size ≠ bm := (by omega); have _ : bm ≠ w1.heap.size + 1 := (by omega); have _ : w1.heap.size + 1 ≠ bm := (by omega); have _ : 0 < w1.heap.size := (by omega); have _ : 0 ≤ w1.heap.size := (by omega); have _ : 0 < w1.heap.size + 1 := (by omega); have _ : 0 < w1.heap.size + 1 + 1 := (by omega); have _ : 0 ≠ w1.heap.size := (by omega); have _ : w1.heap.size ≠ 0 := (by omega); have _ : 0 ≠ w1.heap.size + 1 := (by omega); have _ : w1.heap.size + 1 ≠ 0 := (by omega); (try (have _ : W.heap.size < w1.heap.size := (by omega))); (try (have _ : W.heap.size ≤ w1.heap.size := (by omega))); (try (have _ : W.heap.size ≠ w1.heap.size := (by omega))); (try (have _ : w1.heap.size ≠ W.heap.size := (by omega))); (try (have _ : W.heap.size < w1.heap.size + 1 := (by omega))); (try (have _ : W.heap.size + 1 < w1.heap.size := (by omega))); (try (have _ : W.heap.size + 1 ≤ w1.heap.size := (by omega))); (try (have _ : W.heap.size + 1 ≠ w1.heap.size := (by omega))); (try (have _ : w1.heap.size ≠ W.heap.size + 1 := (by omega))); (try (have _ : W.heap.size + 1 < w1.heap.size + 1 := (by omega)))))
    all_goals (refine OutQ.intro ⟨_, ?_, ?_, ?_, ?_, ?_, ?_, ?_, rfl⟩)
    all_goals repeat (first | with_reducible exact BB.out | with_reducible exact QhD.out | with_reducible exact QhX.out | with_reducible exact QhA.out | with_reducible exact QhS.out | with_reducible exact QhM.out | with_reducible refine Hold.fresh (by first | rfl | (simp; done) | fail) | with_reducible refine Hold.sets4 ?_ | with_reducible refine Var.new (by first | rfl | (simp; done) | fail) | with_reducible refine Hold.alloc ?_ _ | with_reducible refine Hold.drew ?_ | with_reducible refine Hold.set4 ?_ (by with_reducible assumption) _ _ _ _ | with_reducible refine HoldM.alloc ?_ _ | with_reducible refine HoldM.drew ?_ | with_reducible refine HoldM.set4 ?_ (by with_reducible assumption) _ _ _ _ | with_reducible refine Blank.alloc ?_ _ | with_reducible refine Blank.drew ?_ | with_reducible refine Blank.set4 ?_ (by with_reducible assumption) _ _ _ _ | with_reducible refine Smm.alloc ?_ _ | with_reducible refine Smm.drew ?_ | with_reducible refine Smm.set4 ?_ (by with_reducible assumption) _ _ _ _ | with_reducible refine Mds.alloc ?_ _ | with_reducible refine Mds.drew ?_ | with_reducible refine Mds.set4 ?_ (by with_reducible assumption) _ _ _ _ | with_reducible refine Var.alloc ?_ _ | with_reducible refine Var.set4 ?_ (by with_reducible assumption) _ _ _ _ | with_reducible refine below_alloc hbx ?_ _ | with_reducible refine Below.drew ?_ | with_reducible refine Below.setCell ?_ (by with_reducible assumption) _ | with_reducible refine Has.fresh (by first | rfl | (simp; done) | fail) (by first | (simp; done) | fail) | with_reducible refine Has.alloc ?_ _ | with_reducible refine Has.drew ?_ | with_reducible refine Has.keep ?_ hb1 | with_reducible refine Hold.keep ?_ hb1 | with_reducible refine HoldM.keep ?_ hb1 | with_reducible refine Blank.keep ?_ hb1 | with_reducible refine Smm.keep ?_ hb1 | with_reducible refine Mds.keep ?_ hb1 | with_reducible refine Var.keep ?_ hb1 | with_reducible refine below_then hbx ?_ hb1)
  rintro _ W ⟨br, B, hD, hX, hA, hS, hM, hR, rfl⟩
  subst hbx
  clear BB geB QhD QhX QhA QhS QhM ghX ghS lthD lthX lthA lthS lthM
  go_wp2_with fail
  have lthD : 0 < W.heap.size := hD.lt
  have ghX := hX.cells
  have lthX : w.heap.size < W.heap.size := World.block_lt_of_cell? W _ hX.1
  have lthA : ba < W.heap.size := World.block_lt_of_cell? W _ hA.1
  have ghS := hS.1
  have lthS : bb < W.heap.size := hS.lt
  have lthM : bm < W.heap.size := World.block_lt_of_cell? W _ hM.1
  have lthR : br < W.heap.size := World.block_lt_of_cell? W _ hR.1
  have BB : Hid (Below w.heap.size w W) := B
  have QhD : Hid (Mds W) := hD
  have QhX : Hid (Hold W w.heap.size x) := hX
  have QhA : Hid (Hold W ba a) := hA
  have QhS : Hid (Smm W bb k) := hS
  have QhM : Hid (Hold W bm m) := hM
  have QhR : Hid (Hold W br r) := hR
  have geB : w.heap.size ≤ W.heap.size := B.size
  clear B hD hX hA hS hM hR
  generalize hbx : w.heap.size = bx at *
  refine wp_out (fun a' W' => ∃ bu, Below bx w W' ∧ Mds W' ∧ Hold W' bx x ∧ Hold W' ba a ∧ Smm W' bb k ∧ Hold W' bm m ∧ Hold W' br r ∧ Hold W' bu y ∧ a' = { tmps := #[.int .i64 v, .agg #[.int .u64 (l0 x), .int .u64 (l1 x), .int .u64 (l2 x), .int .u64 (l3 x)], .agg #[.int .u64 (l0 a), .int .u64 (l1 a), .int .u64 (l2 a), .int .u64 (l3 a)], Go.undef, .pointer (some { block := bx, off := 0 }), .pointer (some { block := ba, off := 0 }), .bool false, .pointer (some { block := bb, off := 0 }), .pointer (some { block := bm, off := 0 }), .int .i64 0, .pointer (some { block := br, off := 0 }), .int .i64 0, .pointer (some { block := bu, off := 0 }), .int .i64 0, Go.undef, Go.undef, Go.undef, Go.undef, Go.undef, Go.undef, Go.undef, Go.undef, Go.undef, Go.undef, Go.undef, Go.undef, Go.undef, Go.undef, Go.undef, .int .i64 v, .int .i64 k, .agg #[.int .i64 k, .bool false], .pointer (some { block := bb, off := 0 }), .tuple #[.agg #[.int .u64 (l0 m), .int .u64 (l1 m), .int .u64 (l2 m), .int .u64 (l3 m)], .int .i64 0], .pointer (some { block := bb, off := 0 }), .pointer (some { block := bb, off := 0 }), .pointer (some { block := bb, off := 0 }), .int .i64 k, .tuple #[.agg #[.int .u64 (l0 m), .int .u64 (l1 m), .int .u64 (l2 m), .int .u64 (l3 m)], .int .i64 0], .agg #[.int .u64 (l0 m), .int .u64 (l1 m), .int .u64 (l2 m), .int .u64 (l3 m)], .int .i64 0, .tuple #[.agg #[.int .u64 (l0 r), .int .u64 (l1 r), .int .u64 (l2 r), .int .u64 (l3 r)], .int .i64 0], .pointer (some { block := bb, off := 0 }), .pointer (some { block := bb, off := 0 }), .pointer (some { block := bb, off := 0 }), .int .i64 k, .agg #[.int .u64 0, .int .u64 0, .int .u64 0, .int .u64 0], .agg #[.int .u64 (l0 x), .int .u64 (l1 x), .int .u64 (l2 x), .int .u64 (l3 x)], .tuple #[.agg #[.int .u64 (l0 r), .int .u64 (l1 r), .int .u64 (l2 r), .int .u64 (l3 r)], .int .i64 0], .agg #[.int .u64 (l0 r), .int .u64 (l1 r), .int .u64 (l2 r), .int .u64 (l3 r)], .int .i64 0, .tuple #[.agg #[.int .u64 (l0 y), .int .u64 (l1 y), .int .u64 (l2 y), .int .u64 (l3 y)], .int .i64 0], .pointer (some { block := bb, off := 0 }), .pointer (some { block := bb, off := 0 }), .pointer (some { block := bb, off := 0 }), .int .i64 k, .agg #[.int .u64 (l0 x), .int .u64 (l1 x), .int .u64 (l2 x), .int .u64 (l3 x)], .tuple #[.agg #[.int .u64 (l0 y), .int .u64 (l1 y), .int .u64 (l2 y), .int .u64 (l3 y)], .int .i64 0], .agg #[.int .u64 (l0 y), .int .u64 (l1 y), .int .u64 (l2 y), .int .u64 (l3 y)], .int .i64 0, Go.undef, Go.undef, Go.undef, Go.undef, Go.undef, Go.undef, Go.undef, Go.undef, Go.undef, Go.undef, Go.undef, Go.undef, Go.undef, Go.undef, Go.undef, Go.undef, Go.undef, Go.undef, Go.undef, Go.undef, Go.undef, Go.undef, Go.undef, Go.undef, Go.undef, Go.undef, Go.undef, Go.undef, Go.undef, Go.undef, Go.undef, Go.undef, Go.undef, Go.undef, Go.undef, Go.undef, Go.undef, Go.undef, Go.undef, Go.undef, Go.undef, Go.undef, Go.undef, Go.undef, Go.undef, Go.undef, Go.undef, Go.undef, Go.undef, Go.undef, Go.undef, Go.undef, Go.undef, Go.undef, Go.undef, Go.undef, Go.undef, Go.undef, Go.undef, Go.undef, Go.undef, Go.undef, Go.undef, Go.undef, Go.undef, Go.undef, Go.undef, Go.undef, Go.undef, Go.undef, Go.undef, Go.undef, Go.undef, Go.undef, Go.undef, Go.undef, Go.undef, Go.undef, Go.undef, Go.undef, Go.undef, Go.undef, Go.undef, Go.undef, Go.undef, Go.undef, Go.undef, Go.undef, Go.undef, Go.undef, Go.undef, Go.undef, Go.undef, Go.undef, Go.undef, Go.undef, Go.undef, Go.undef, Go.undef, Go.undef, Go.undef, Go.undef, Go.undef, Go.undef, Go.undef, Go.undef, Go.undef, Go.undef, Go.undef, Go.undef, Go.undef, Go.undef, Go.undef, Go.undef, Go.undef, Go.undef, Go.undef, Go.undef, Go.undef, Go.undef, Go.undef, Go.undef, Go.undef, Go.undef, Go.undef, Go.undef, Go.undef, Go.undef, Go.undef, Go.undef, Go.undef, Go.undef, Go.undef, Go.undef, Go.undef, Go.undef, Go.undef], defers := [] }) ?_ ?_
  · have dz : W.drew.heap.size = W.heap.size := rfl
    have _ : bx < W.heap.size := by omega
    have _ : bx ≤ W.heap.size := by omega
    have _ : bx < W.heap.size + 1 := by omega
    have _ : bx < W.heap.size + 1 + 1 := by omega
    have _ : bx ≠ W.heap.size := by omega
    have _ : W.heap.size ≠ bx := by omega
    have _ : bx ≠ W.heap.size + 1 := by omega
    have _ : W.heap.size + 1 ≠ bx := by omega
    have _ : ba < W.heap.size := by omega
    have _ : ba ≤ W.heap.size := by omega
    have _ : ba < W.heap.size + 1 := by omega
    have _ : ba < W.heap.size + 1 + 1 := by omega
    have _ : ba ≠ W.heap.size := by omega
    have _ : W.heap.size ≠ ba := by omega
    have _ : ba ≠ W.heap.size + 1 := by omega
    have _ : W.heap.size + 1 ≠ ba := by omega
    have _ : bb < W.heap.size := by omega
    have _ : bb ≤ W.heap.size := by omega
    have _ : bb < W.heap.size + 1 := by omega
    have _ : bb < W.heap.size + 1 + 1 := by omega
    have _ : bb ≠ W.heap.size := by omega
    have _ : W.heap.size ≠ bb := by omega
    have _ : bb ≠ W.heap.size + 1 := by omega
    have _ : W.heap.size + 1 ≠ bb := by omega
    have _ : bm < W.heap.size := by omega
    have _ : bm ≤ W.heap.size := by omega
    have _ : bm < W.heap.size + 1 := by omega
    have _ : bm < W.heap.size + 1 + 1 := by omega
    have _ : bm ≠ W.heap.size := by omega
    have _ : W.heap.size ≠ bm := by omega
    have _ : bm ≠ W.heap.size + 1 := by omega
    have _ : W.heap.size + 1 ≠ bm := by omega
    have _ : br < W.heap.size := by omega
    have _ : br ≤ W.heap.size := by omega
    have _ : br < W.heap.size + 1 := by omega
    have _ : br < W.heap.size + 1 + 1 := by omega
    have _ : br ≠ W.heap.size := by omega
    have _ : W.heap.size ≠ br := by omega
    have _ : br ≠ W.heap.size + 1 := by omega
    have _ : W.heap.size + 1 ≠ br := by omega
    have _ : 0 < W.heap.size := by omega
    have _ : 0 ≤ W.heap.size := by omega
    have _ : 0 < W.heap.size + 1 := by omega
    have _ : 0 < W.heap.size + 1 + 1 := by omega
    have _ : 0 ≠ W.heap.size := by omega
    have _ : W.heap.size ≠ 0 := by omega
    have _ : 0 ≠ W.heap.size + 1 := by omega
    have _ : W.heap.size + 1 ≠ 0 := by omega
    go_region_held3 (fun w' => w'.cell? ⟨bx, 0, none⟩ = some (.int .u64 (l0 x)) ∧ w'.cell? ⟨bx, 1, none⟩ = some (.int .u64 (l1 x)) ∧ w'.cell? ⟨bx, 2, none⟩ = some (.int .u64 (l2 x)) ∧ w'.cell? ⟨bx, 3, none⟩ = some (.int .u64 (l3 x)) ∧ w'.cell? ⟨bb, 0, none⟩ = some (.int .i64 k)) (((try dsimp only); (repeat' (apply And.intro)); (all_goals repeat (first | with_reducible assumption | with_reducible apply cell_keep hb1 | with_reducible apply cell_alloc | (with_reducible refine cell_set ?_ (by with_reducible assumption)) | (simp [go_sem, *]; done)))))
      (first
        | (go_at_call 12; with_reducible refine (O3.out _ (by repeat (first | with_reducible exact QhD.out | with_reducible refine Mds.alloc ?_ _ | with_reducible refine Mds.drew ?_))).mono ?_; rintro e w1 ⟨rfl, hb1⟩; have hc1 := oldCells hb1; have hz1 := hb1.size; (try simp at hz1); (try (have := fun j => oldCells hb1 (W.heap.size) j (by first | omega | (simp; done) | (simp; omega)))); (try (have := fun j => oldCells hb1 (W.heap.size + 1) j (by first | omega | (simp; done) | (simp; omega)))); have _ : bx < w1.heap.size := (by omega); have _ : bx ≤ w1.heap.size := (by omega); have _ : bx < w1.heap.size + 1 := (by omega); have _ : bx < w1.heap.size + 1 + 1 := (by omega); have _ : bx ≠ w1.heap.size := (by omega); have _ : w1.heap.size ≠ bx := (by omega); have _ : bx ≠ w1.heap.size + 1 := (by omega); have _ : w1.heap.size + 1 ≠ bx := (by omega); have _ : ba < w1.heap.size := (by omega); have _ : ba ≤ w1.heap.size := (by omega); have _ : ba < w1.heap.size + 1 := (by omega); have _ : ba < w1.heap.size + 1 + 1 := (by omega); have _ : ba ≠ w1.heap.size := (by omega); have _ : w1.heap.size ≠ ba := (by omega); have _ : ba ≠ w1.heap.size + 1 := (by omega); have _ : w1.heap.size + 1 ≠ ba := (by omega); have _ : bb < w1.heap.size := (by omega); have _ : bb ≤ w1.heap.size := (by omega); have _ : bb < w1.heap.size + 1 := (by omega); have _ : bb < w1.heap.size + 1 + 1 := (by omega); have _ : bb ≠ w1.heap.size := (by omega); have _ : w1.heap.size ≠ bb := (by omega); have _ : bb ≠ w1.heap.size + 1 := (by omega); have _ : w1.heap.size + 1 ≠ bb := (by omega); have _ : bm < w1.heap.size := (by omega); have _ : bm ≤ w1.heap.size := (by omega); have _ : bm < w1.heap.size + 1 := (by omega); have _ : bm < w1.heap.size + 1 + 1 := (by omega); have _ : bm ≠ w1.heap.size := (by omega); have _ : w1.heap.size ≠ bm := (by omega); have _ : bm ≠ w1.heap.size + 1 := (by omega); have _ : w1.heap.size + 1 ≠ bm := (by omega); have _ : br < w1.heap.size := (by omega); have _ : br ≤ w1.heap.size := (by omega); have _ : br < w1.heap.size + 1 := (by omega); have _ : br < w1.heap.size + 1 + 1 := (by omega); have _ : br ≠ w1.heap.size := (by omega); have _ : w1.heap.size ≠ br := (by omega); have _ : br ≠ w1.heap.size + 1 := (by omega); have _ : w1.heap.size + 1 ≠ br := (by omega); have _ : 0 < w1.heap.size := (by omega); have _ : 0 ≤ w1.heap.size := (by omega); have _ : 0 < w1.heap.size + 1 := (by omega); have _ : 0 < w1.heap.size + 1 + 1 := (by omega); have _ : 0 ≠ w1.heap.size := (by omega); have _ : w1.heap.size ≠ 0 := (by omega); have _ : 0 ≠ w1.heap.size + 1 := (by omega); have _ : w1.heap.size + 1 ≠ 0 := (by omega); (try (have _ : W.heap.size < w1.heap.size := (by omega))); (try (have _ : W.heap.size ≤ w1.heap.size := (by omega))); (try (have _ : W.heap.size ≠ w1.heap.size := (by omega))); (try (have _ : w1.heap.size ≠ W.heap.size := (by omega))); (try (have _ : W.heap.size < w1.heap.size + 1 := (by omega))); (try (have _ : W.heap.size + 1 < w1.heap.size := (by omega))); (try (have _ : W.heap.size + 1 ≤ w1.heap.size := (by omega))); (try (have _ : W.heap.size + 1 ≠ w1.heap.size := (by omega))); (try (have _ : w1.heap.size ≠ W.heap.size + 1 := (by omega))); (try (have _ : W.heap.size + 1 < w1.heap.size + 1 := (by omega)))))
    all_goals (refine OutQ.intro ⟨_, ?_, ?_, ?_, ?_, ?_, ?_, ?_, ?_, rfl⟩)
    all_goals repeat (first | with_reducible exact BB.out | with_reducible exact QhD.out | with_reducible exact QhX.out | with_reducible exact QhA.out | with_reducible exact QhS.out | with_reducible exact QhM.out | with_reducible exact QhR.out | with_reducible refine Hold.fresh (by first | rfl | (simp; done) | fail) | with_reducible refine Hold.sets4 ?_ | with_reducible refine Var.new (by first | rfl | (simp; done) | fail) | with_reducible refine Hold.alloc ?_ _ | with_reducible refine Hold.drew ?_ | with_reducible refine Hold.set4 ?_ (by with_reducible assumption) _ _ _ _ | with_reducible refine HoldM.alloc ?_ _ | with_reducible refine HoldM.drew ?_ | with_reducible refine HoldM.set4 ?_ (by with_reducible assumption) _ _ _ _ | with_reducible refine Blank.alloc ?_ _ | with_reducible refine Blank.drew ?_ | with_reducible refine Blank.set4 ?_ (by with_reducible assumption) _ _ _ _ | with_reducible refine Smm.alloc ?_ _ | with_reducible refine Smm.drew ?_ | with_reducible refine Smm.set4 ?_ (by with_reducible assumption) _ _ _ _ | with_reducible refine Mds.alloc ?_ _ | with_reducible refine Mds.drew ?_ | with_reducible refine Mds.set4 ?_ (by with_reducible assumption) _ _ _ _ | with_reducible refine Var.alloc ?_ _ | with_reducible refine Var.set4 ?_ (by with_reducible assumption) _ _ _ _ | with_reducible refine below_alloc hbx ?_ _ | with_reducible refine Below.drew ?_ | with_reducible refine Below.setCell ?_ (by with_reducible assumption) _ | with_reducible refine Has.fresh (by first | rfl | (simp; done) | fail) (by first | (simp; done) | fail) | with_reducible refine Has.alloc ?_ _ | with_reducible refine Has.drew ?_ | with_reducible refine Has.keep ?_ hb1 | with_reducible refine Hold.keep ?_ hb1 | with_reducible refine HoldM.keep ?_ hb1 | with_reducible refine Blank.keep ?_ hb1 | with_reducible refine Smm.keep ?_ hb1 | with_reducible refine Mds.keep ?_ hb1 | with_reducible refine Var.keep ?_ hb1 | with_reducible refine below_then hbx ?_ hb1)
  rintro _ W ⟨bu, B, hD, hX, hA, hS, hM, hR, hY, rfl⟩
  subst hbx
  clear BB geB QhD QhX QhA QhS QhM QhR ghX ghS lthD lthX lthA lthS lthM lthR
  have ghR := hR.cells
  go_wp2_with fail
  clear ghR
  have lthD : 0 < W.heap.size := hD.lt
  have lthX : w.heap.size < W.heap.size := World.block_lt_of_cell? W _ hX.1
  have lthA : ba < W.heap.size := World.block_lt_of_cell? W _ hA.1
  have ghS := hS.1
  have lthS : bb < W.heap.size := hS.lt
  have lthM : bm < W.heap.size := World.block_lt_of_cell? W _ hM.1
  have lthR : br < W.heap.size := World.block_lt_of_cell? W _ hR.1
  have ghY := hY.cells
  have lthY : bu < W.heap.size := World.block_lt_of_cell? W _ hY.1
  have BB : Hid (Below w.heap.size w W) := B
  have QhD : Hid (Mds W) := hD
  have QhX : Hid (Hold W w.heap.size x) := hX
  have QhA : Hid (Hold W ba a) := hA
  have QhS : Hid (Smm W bb k) := hS
  have QhM : Hid (Hold W bm m) := hM
  have QhR : Hid (Hold W br r) := hR
  have QhY : Hid (Hold W bu y) := hY
  have geB : w.heap.size ≤ W.heap.size := B.size
  clear B hD hX hA hS hM hR hY
  generalize hbx : w.heap.size = bx at *
  refine wp_out (fun a' W' => ∃ bk, Below bx w W' ∧ Mds W' ∧ Hold W' bx x ∧ Hold W' ba a ∧ Smm W' bb k ∧ Hold W' bm m ∧ Hold W' br r ∧ Hold W' bu y ∧ Hold W' bk r ∧ a' = { tmps := #[.int .i64 v, .agg #[.int .u64 (l0 x), .int .u64 (l1 x), .int .u64 (l2 x), .int .u64 (l3 x)], .agg #[.int .u64 (l0 a), .int .u64 (l1 a), .int .u64 (l2 a), .int .u64 (l3 a)], Go.undef, .pointer (some { block := bx, off := 0 }), .pointer (some { block := ba, off := 0 }), .bool false, .pointer (some { block := bb, off := 0 }), .pointer (some { block := bm, off := 0 }), .int .i64 0, .pointer (some { block := br, off := 0 }), .int .i64 0, .pointer (some { block := bu, off := 0 }), .int .i64 0, .pointer (some { block := bk, off := 0 }), .int .i64 0, Go.undef, Go.undef, Go.undef, Go.undef, Go.undef, Go.undef, Go.undef, Go.undef, Go.undef, Go.undef, Go.undef, Go.undef, Go.undef, .int .i64 v, .int .i64 k, .agg #[.int .i64 k, .bool false], .pointer (some { block := bb, off := 0 }), .tuple #[.agg #[.int .u64 (l0 m), .int .u64 (l1 m), .int .u64 (l2 m), .int .u64 (l3 m)], .int .i64 0], .pointer (some { block := bb, off := 0 }), .pointer (some { block := bb, off := 0 }), .pointer (some { block := bb, off := 0 }), .int .i64 k, .tuple #[.agg #[.int .u64 (l0 m), .int .u64 (l1 m), .int .u64 (l2 m), .int .u64 (l3 m)], .int .i64 0], .agg #[.int .u64 (l0 m), .int .u64 (l1 m), .int .u64 (l2 m), .int .u64 (l3 m)], .int .i64 0, .tuple #[.agg #[.int .u64 (l0 r), .int .u64 (l1 r), .int .u64 (l2 r), .int .u64 (l3 r)], .int .i64 0], .pointer (some { block := bb, off := 0 }), .pointer (some { block := bb, off := 0 }), .pointer (some { block := bb, off := 0 }), .int .i64 k, .agg #[.int .u64 0, .int .u64 0, .int .u64 0, .int .u64 0], .agg #[.int .u64 (l0 x), .int .u64 (l1 x), .int .u64 (l2 x), .int .u64 (l3 x)], .tuple #[.agg #[.int .u64 (l0 r), .int .u64 (l1 r), .int .u64 (l2 r), .int .u64 (l3 r)], .int .i64 0], .agg #[.int .u64 (l0 r), .int .u64 (l1 r), .int .u64 (l2 r), .int .u64 (l3 r)], .int .i64 0, .tuple #[.agg #[.int .u64 (l0 y), .int .u64 (l1 y), .int .u64 (l2 y), .int .u64 (l3 y)], .int .i64 0], .pointer (some { block := bb, off := 0 }), .pointer (some { block := bb, off := 0 }), .pointer (some { block := bb, off := 0 }), .int .i64 k, .agg #[.int .u64 (l0 x), .int .u64 (l1 x), .int .u64 (l2 x), .int .u64 (l3 x)], .tuple #[.agg #[.int .u64 (l0 y), .int .u64 (l1 y), .int .u64 (l2 y), .int .u64 (l3 y)], .int .i64 0], .agg #[.int .u64 (l0 y), .int .u64 (l1 y), .int .u64 (l2 y), .int .u64 (l3 y)], .int .i64 0, .int .i64 0, .bool false, .bool false, .int .i64 0, .bool false, .bool false, .agg #[.int .u64 (l0 r), .int .u64 (l1 r), .int .u64 (l2 r), .int .u64 (l3 r)], .agg #[.int .u64 0, .int .u64 0, .int .u64 0, .int .u64 0], .bool false, Go.undef, Go.undef, Go.undef, Go.undef, Go.undef, Go.undef, Go.undef, Go.undef, .tuple #[.agg #[.int .u64 (l0 r), .int .u64 (l1 r), .int .u64 (l2 r), .int .u64 (l3 r)], .int .i64 0], .pointer (some { block := bb, off := 0 }), .pointer (some { block := bb, off := 0 }), .pointer (some { block := bb, off := 0 }), .int .i64 k, .agg #[.int .u64 (l0 y), .int .u64 (l1 y), .int .u64 (l2 y), .int .u64 (l3 y)], .tuple #[.agg #[.int .u64 (l0 r), .int .u64 (l1 r), .int .u64 (l2 r), .int .u64 (l3 r)], .int .i64 0], .agg #[.int .u64 (l0 r), .int .u64 (l1 r), .int .u64 (l2 r), .int .u64 (l3 r)], .int .i64 0, Go.undef, Go.undef, Go.undef, Go.undef, Go.undef, Go.undef, Go.undef, Go.undef, Go.undef, Go.undef, Go.undef, Go.undef, Go.undef, Go.undef, Go.undef, Go.undef, Go.undef, Go.undef, Go.undef, Go.undef, Go.undef, Go.undef, Go.undef, Go.undef, Go.undef, Go.undef, Go.undef, Go.undef, Go.undef, Go.undef, Go.undef, Go.undef, Go.undef, Go.undef, Go.undef, Go.undef, Go.undef, Go.undef, Go.undef, Go.undef, Go.undef, Go.undef, Go.undef, Go.undef, Go.undef, Go.undef, Go.undef, Go.undef, Go.undef, Go.undef, Go.undef, Go.undef, Go.undef, Go.undef, Go.undef, Go.undef, Go.undef, Go.undef, Go.undef, Go.undef, Go.undef, Go.undef, Go.undef, Go.undef, Go.undef, Go.undef, Go.undef, Go.undef, Go.undef, Go.undef, Go.undef, Go.undef, Go.undef, Go.undef, Go.undef, Go.undef, Go.undef, Go.undef, Go.undef, Go.undef, Go.undef, Go.undef, Go.undef, Go.undef, Go.undef, Go.undef, Go.undef, Go.undef, Go.undef, Go.undef, Go.undef, Go.undef, Go.undef, Go.undef, Go.undef, Go.undef, Go.undef, Go.undef, Go.undef, Go.undef, Go.undef, Go.undef, Go.undef, Go.undef, Go.undef, Go.undef, Go.undef, Go.undef, Go.undef, Go.undef, Go.undef], defers := [] }) ?_ ?_
  · have dz : W.drew.heap.size = W.heap.size := rfl
    have _ : bx < W.heap.size := by omega
    have _ : bx ≤ W.heap.size := by omega
    have _ : bx < W.heap.size + 1 := by omega
    have _ : bx < W.heap.size + 1 + 1 := by omega
    have _ : bx ≠ W.heap.size := by omega
    have _ : W.heap.size ≠ bx := by omega
    have _ : bx ≠ W.heap.size + 1 := by omega
    have _ : W.heap.size + 1 ≠ bx := by omega
    have _ : ba < W.heap.size := by omega
    have _ : ba ≤ W.heap.size := by omega
    have _ : ba < W.heap.size + 1 := by omega
    have _ : ba < W.heap.size + 1 + 1 := by omega
    have _ : ba ≠ W.heap.size := by omega
    have _ : W.heap.size ≠ ba := by omega
    have _ : ba ≠ W.heap.size + 1 := by omega
    have _ : W.heap.size + 1 ≠ ba := by omega
    have _ : bb < W.heap.size := by omega
    have _ : bb ≤ W.heap.size := by omega
    have _ : bb < W.heap.size + 1 := by omega
    have _ : bb < W.heap.size + 1 + 1 := by omega
    have _ : bb ≠ W.heap.size := by omega
    have _ : W.heap.size ≠ bb := by omega
    have _ : bb ≠ W.heap.size + 1 := by omega
    have _ : W.heap.size + 1 ≠ bb := by omega
    have _ : bm < W.heap.size := by omega
    have _ : bm ≤ W.heap.size := by omega
    have _ : bm < W.heap.size + 1 := by omega
    have _ : bm < W.heap.size + 1 + 1 := by omega
    have _ : bm ≠ W.heap.size := by omega
    have _ : W.heap.size ≠ bm := by omega
    have _ : bm ≠ W.heap.size + 1 := by omega
    have _ : W.heap.size + 1 ≠ bm := by omega
    have _ : br < W.heap.size := by omega
    have _ : br ≤ W.heap.size := by omega
    have _ : br < W.heap.size + 1 := by omega
    have _ : br < W.heap.size + 1 + 1 := by omega
    have _ : br ≠ W.heap.size := by omega
    have _ : W.heap.size ≠ br := by omega
    have _ : br ≠ W.heap.size + 1 := by omega
    have _ : W.heap.size + 1 ≠ br := by omega
    have _ : bu < W.heap.size := by omega
    have _ : bu ≤ W.heap.size := by omega
    have _ : bu < W.heap.size + 1 := by omega
    have _ : bu < W.heap.size + 1 + 1 := by omega
    have _ : bu ≠ W.heap.size := by omega
    have _ : W.heap.size ≠ bu := by omega
    have _ : bu ≠ W.heap.size + 1 := by omega
    have _ : W.heap.size + 1 ≠ bu := by omega
    have _ : 0 < W.heap.size := by omega
    have _ : 0 ≤ W.heap.size := by omega
    have _ : 0 < W.heap.size + 1 := by omega
    have _ : 0 < W.heap.size + 1 + 1 := by omega
    have _ : 0 ≠ W.heap.size := by omega
    have _ : W.heap.size ≠ 0 := by omega
    have _ : 0 ≠ W.heap.size + 1 := by omega
    have _ : W.heap.size + 1 ≠ 0 := by omega
    go_region_held3 (fun w' => w'.cell? ⟨bb, 0, none⟩ = some (.int .i64 k) ∧ w'.cell? ⟨bu, 0, none⟩ = some (.int .u64 (l0 y)) ∧ w'.cell? ⟨bu, 1, none⟩ = some (.int .u64 (l1 y)) ∧ w'.cell? ⟨bu, 2, none⟩ = some (.int .u64 (l2 y)) ∧ w'.cell? ⟨bu, 3, none⟩ = some (.int .u64 (l3 y))) (((try dsimp only); (repeat' (apply And.intro)); (all_goals repeat (first | with_reducible assumption | with_reducible apply cell_keep hb1 | with_reducible apply cell_alloc | (with_reducible refine cell_set ?_ (by with_reducible assumption)) | (simp [go_sem, *]; done)))))
      (first
        | (go_at_call 12; with_reducible refine (O4.out _ (by repeat (first | with_reducible exact QhD.out | with_reducible refine Mds.alloc ?_ _ | with_reducible refine Mds.drew ?_))).mono ?_; rintro e w1 ⟨rfl, hb1⟩; have hc1 := oldCells hb1; have hz1 := hb1.size; (try simp at hz1); (try (have := fun j => oldCells hb1 (W.heap.size) j (by first | omega | (simp; done) | (simp; omega)))); (try (have := fun j => oldCells hb1 (W.heap.size + 1) j (by first | omega | (simp; done) | (simp; omega)))); have _ : bx < w1.heap.size := (by omega); have _ : bx ≤ w1.heap.size := (by omega); have _ : bx < w1.heap.size + 1 := (by omega); have _ : bx < w1.heap.size + 1 + 1 := (by omega); have _ : bx ≠ w1.heap.size := (by omega); have _ : w1.heap.size ≠ bx := (by omega); have _ : bx ≠ w1.heap.size + 1 := (by omega); have _ : w1.heap.size + 1 ≠ bx := (by omega); have _ : ba < w1.heap.size := (by omega); have _ : ba ≤ w1.heap.size := (by omega); have _ : ba < w1.heap.size + 1 := (by omega); have _ : ba < w1.heap.size + 1 + 1 := (by omega); have _ : ba ≠ w1.heap.size := (by omega); have _ : w1.heap.size ≠ ba := (by omega); have _ : ba ≠ w1.heap.size + 1 := (by omega); have _ : w1.heap.size + 1 ≠ ba := (by omega); have _ : bb < w1.heap.size := (by omega); have _ : bb ≤ w1.heap.size := (by omega); have _ : bb < w1.heap.size + 1 := (by omega); have _ : bb < w1.heap.size + 1 + 1 := (by omega); have _ : bb ≠ w1.heap.size := (by omega); have _ : w1.heap.size ≠ bb := (by omega); have _ : bb ≠ w1.heap.size + 1 := (by omega); have _ : w1.heap.size + 1 ≠ bb := (by omega); have _ : bm < w1.heap.size := (by omega); have _ : bm ≤ w1.heap.size := (by omega); have _ : bm < w1.heap.size + 1 := (by omega); have _ : bm < w1.heap.size + 1 + 1 := (by omega); have _ : bm ≠ w1.heap.size := (by omega); have _ : w1.heap.size ≠ bm := (by omega); have _ : bm ≠ w1.heap.size + 1 := (by omega); have _ : w1.heap.size + 1 ≠ bm := (by omega); have _ : br < w1.heap.size := (by omega); have _ : br ≤ w1.heap.size := (by omega); have _ : br < w1.heap.size + 1 := (by omega); have _ : br < w1.heap.size + 1 + 1 := (by omega); have _ : br ≠ w1.heap.size := (by omega); have _ : w1.heap.size ≠ br := (by omega); have _ : br ≠ w1.heap.size + 1 := (by omega); have _ : w1.heap.size + 1 ≠ br := (by omega); have _ : bu < w1.heap.size := (by omega); have _ : bu ≤ w1.heap.size := (by omega); have _ : bu < w1.heap.size + 1 := (by omega); have _ : bu < w1.heap.size + 1 + 1 := (by omega); have _ : bu ≠ w1.heap.size := (by omega); have _ : w1.heap.size ≠ bu := (by omega); have _ : bu ≠ w1.heap.size + 1 := (by omega); have _ : w1.heap.size + 1 ≠ bu := (by omega); have _ : 0 < w1.heap.size := (by omega); have _ : 0 ≤ w1.heap.size := (by omega); have _ : 0 < w1.heap.size + 1 := (by omega); have _ : 0 < w1.heap.size + 1 + 1 := (by omega); have _ : 0 ≠ w1.heap.size := (by omega); have _ : w1.heap.size ≠ 0 := (by omega); have _ : 0 ≠ w1.heap.size + 1 := (by omega); have _ : w1.heap.size + 1 ≠ 0 := (by omega); (try (have _ : W.heap.size < w1.heap.size := (by omega))); (try (have _ : W.heap.size ≤ w1.heap.size := (by omega))); (try (have _ : W.heap.size ≠ w1.heap.size := (by omega))); (try (have _ : w1.heap.size ≠ W.heap.size := (by omega))); (try (have _ : W.heap.size < w1.heap.size + 1 := (by omega))); (try (have _ : W.heap.size + 1 < w1.heap.size := (by omega))); (try (have _ : W.heap.size + 1 ≤ w1.heap.size := (by omega))); (try (have _ : W.heap.size + 1 ≠ w1.heap.size := (by omega))); (try (have _ : w1.heap.size ≠ W.heap.size + 1 := (by omega))); (try (have _ : W.heap.size + 1 < w1.heap.size + 1 := (by omega)))))
    all_goals (refine OutQ.intro ⟨_, ?_, ?_, ?_, ?_, ?_, ?_, ?_, ?_, ?_, rfl⟩)
    all_goals repeat (first | with_reducible exact BB.out | with_reducible exact QhD.out | with_reducible exact QhX.out | with_reducible exact QhA.out | with_reducible exact QhS.out | with_reducible exact QhM.out | with_reducible exact QhR.out | with_reducible exact QhY.out | with_reducible refine Hold.fresh (by first | rfl | (simp; done) | fail) | with_reducible refine Hold.sets4 ?_ | with_reducible refine Var.new (by first | rfl | (simp; done) | fail) | with_reducible refine Hold.alloc ?_ _ | with_reducible refine Hold.drew ?_ | with_reducible refine Hold.set4 ?_ (by with_reducible assumption) _ _ _ _ | with_reducible refine HoldM.alloc ?_ _ | with_reducible refine HoldM.drew ?_ | with_reducible refine HoldM.set4 ?_ (by with_reducible assumption) _ _ _ _ | with_reducible refine Blank.alloc ?_ _ | with_reducible refine Blank.drew ?_ | with_reducible refine Blank.set4 ?_ (by with_reducible assumption) _ _ _ _ | with_reducible refine Smm.alloc ?_ _ | with_reducible refine Smm.drew ?_ | with_reducible refine Smm.set4 ?_ (by with_reducible assumption) _ _ _ _ | with_reducible refine Mds.alloc ?_ _ | with_reducible refine Mds.drew ?_ | with_reducible refine Mds.set4 ?_ (by with_reducible assumption) _ _ _ _ | with_reducible refine Var.alloc ?_ _ | with_reducible refine Var.set4 ?_ (by with_reducible assumption) _ _ _ _ | with_reducible refine below_alloc hbx ?_ _ | with_reducible refine Below.drew ?_ | with_reducible refine Below.setCell ?_ (by with_reducible assumption) _ | with_reducible refine Has.fresh (by first | rfl | (simp; done) | fail) (by first | (simp; done) | fail) | with_reducible refine Has.alloc ?_ _ | with_reducible refine Has.drew ?_ | with_reducible refine Has.keep ?_ hb1 | with_reducible refine Hold.keep ?_ hb1 | with_reducible refine HoldM.keep ?_ hb1 | with_reducible refine Blank.keep ?_ hb1 | with_reducible refine Smm.keep ?_ hb1 | with_reducible refine Mds.keep ?_ hb1 | with_reducible refine Var.keep ?_ hb1 | with_reducible refine below_then hbx ?_ hb1)
  rintro _ W ⟨bk, B, hD, hX, hA, hS, hM, hR, hY, hK, rfl⟩
  subst hbx
  clear BB geB QhD QhX QhA QhS QhM QhR QhY ghS ghY lthD lthX lthA lthS lthM lthR lthY
  go_wp2_with fail
  have lthD : 0 < W.heap.size := hD.lt
  have lthX : w.heap.size < W.heap.size := World.block_lt_of_cell? W _ hX.1
  have lthA : ba < W.heap.size := World.block_lt_of_cell? W _ hA.1
  have lthS : bb < W.heap.size := hS.lt
  have ghM := hM.cells
  have lthM : bm < W.heap.size := World.block_lt_of_cell? W _ hM.1
  have lthR : br < W.heap.size := World.block_lt_of_cell? W _ hR.1
  have lthY : bu < W.heap.size := World.block_lt_of_cell? W _ hY.1
  have lthK : bk < W.heap.size := World.block_lt_of_cell? W _ hK.1
  have BB : Hid (Below w.heap.size w W) := B
  have QhD : Hid (Mds W) := hD
  have QhX : Hid (Hold W w.heap.size x) := hX
  have QhA : Hid (Hold W ba a) := hA
  have QhS : Hid (Smm W bb k) := hS
  have QhM : Hid (Hold W bm m) := hM
  have QhR : Hid (Hold W br r) := hR
  have QhY : Hid (Hold W bu y) := hY
  have QhK : Hid (Hold W bk r) := hK
  have geB : w.heap.size ≤ W.heap.size := B.size
  clear B hD hX hA hS hM hR hY hK
  generalize hbx : w.heap.size = bx at *
  refine wp_out (fun a' W' => ∃ bl, Below bx w W' ∧ Mds W' ∧ Hold W' bx x ∧ Hold W' ba a ∧ Smm W' bb k ∧ Hold W' bm m ∧ Hold W' br r ∧ Hold W' bu y ∧ Hold W' bk r ∧ Hold W' bl ls ∧ a' = { tmps := #[.int .i64 v, .agg #[.int .u64 (l0 x), .int .u64 (l1 x), .int .u64 (l2 x), .int .u64 (l3 x)], .agg #[.int .u64 (l0 a), .int .u64 (l1 a), .int .u64 (l2 a), .int .u64 (l3 a)], Go.undef, .pointer (some { block := bx, off := 0 }), .pointer (some { block := ba, off := 0 }), .bool false, .pointer (some { block := bb, off := 0 }), .pointer (some { block := bm, off := 0 }), .int .i64 0, .pointer (some { block := br, off := 0 }), .int .i64 0, .pointer (some { block := bu, off := 0 }), .int .i64 0, .pointer (some { block := bk, off := 0 }), .int .i64 0, .pointer (some { block := bl, off := 0 }), .int .u64 z1, Go.undef, Go.undef, Go.undef, Go.undef, Go.undef, Go.undef, Go.undef, Go.undef, Go.undef, Go.undef, Go.undef, .int .i64 v, .int .i64 k, .agg #[.int .i64 k, .bool false], .pointer (some { block := bb, off := 0 }), .tuple #[.agg #[.int .u64 (l0 m), .int .u64 (l1 m), .int .u64 (l2 m), .int .u64 (l3 m)], .int .i64 0], .pointer (some { block := bb, off := 0 }), .pointer (some { block := bb, off := 0 }), .pointer (some { block := bb, off := 0 }), .int .i64 k, .tuple #[.agg #[.int .u64 (l0 m), .int .u64 (l1 m), .int .u64 (l2 m), .int .u64 (l3 m)], .int .i64 0], .agg #[.int .u64 (l0 m), .int .u64 (l1 m), .int .u64 (l2 m), .int .u64 (l3 m)], .int .i64 0, .tuple #[.agg #[.int .u64 (l0 r), .int .u64 (l1 r), .int .u64 (l2 r), .int .u64 (l3 r)], .int .i64 0], .pointer (some { block := bb, off := 0 }), .pointer (some { block := bb, off := 0 }), .pointer (some { block := bb, off := 0 }), .int .i64 k, .agg #[.int .u64 0, .int .u64 0, .int .u64 0, .int .u64 0], .agg #[.int .u64 (l0 x), .int .u64 (l1 x), .int .u64 (l2 x), .int .u64 (l3 x)], .tuple #[.agg #[.int .u64 (l0 r), .int .u64 (l1 r), .int .u64 (l2 r), .int .u64 (l3 r)], .int .i64 0], .agg #[.int .u64 (l0 r), .int .u64 (l1 r), .int .u64 (l2 r), .int .u64 (l3 r)], .int .i64 0, .tuple #[.agg #[.int .u64 (l0 y), .int .u64 (l1 y), .int .u64 (l2 y), .int .u64 (l3 y)], .int .i64 0], .pointer (some { block := bb, off := 0 }), .pointer (some { block := bb, off := 0 }), .pointer (some { block := bb, off := 0 }), .int .i64 k, .agg #[.int .u64 (l0 x), .int .u64 (l1 x), .int .u64 (l2 x), .int .u64 (l3 x)], .tuple #[.agg #[.int .u64 (l0 y), .int .u64 (l1 y), .int .u64 (l2 y), .int .u64 (l3 y)], .int .i64 0], .agg #[.int .u64 (l0 y), .int .u64 (l1 y), .int .u64 (l2 y), .int .u64 (l3 y)], .int .i64 0, .int .i64 0, .bool false, .bool false, .int .i64 0, .bool false, .bool false, .agg #[.int .u64 (l0 r), .int .u64 (l1 r), .int .u64 (l2 r), .int .u64 (l3 r)], .agg #[.int .u64 0, .int .u64 0, .int .u64 0, .int .u64 0], .bool false, Go.undef, Go.undef, Go.undef, Go.undef, Go.undef, Go.undef, Go.undef, Go.undef, .tuple #[.agg #[.int .u64 (l0 r), .int .u64 (l1 r), .int .u64 (l2 r), .int .u64 (l3 r)], .int .i64 0], .pointer (some { block := bb, off := 0 }), .pointer (some { block := bb, off := 0 }), .pointer (some { block := bb, off := 0 }), .int .i64 k, .agg #[.int .u64 (l0 y), .int .u64 (l1 y), .int .u64 (l2 y), .int .u64 (l3 y)], .tuple #[.agg #[.int .u64 (l0 r), .int .u64 (l1 r), .int .u64 (l2 r), .int .u64 (l3 r)], .int .i64 0], .agg #[.int .u64 (l0 r), .int .u64 (l1 r), .int .u64 (l2 r), .int .u64 (l3 r)], .int .i64 0, .tuple #[.agg #[.int .u64 (l0 ls), .int .u64 (l1 ls), .int .u64 (l2 ls), .int .u64 (l3 ls)], .int .u64 z1], .agg #[.int .u64 (l0 m), .int .u64 (l1 m), .int .u64 (l2 m), .int .u64 (l3 m)], .agg #[.int .u64 (l0 1), .int .u64 (l1 1), .int .u64 (l2 1), .int .u64 (l3 1)], .tuple #[.agg #[.int .u64 (l0 ls), .int .u64 (l1 ls), .int .u64 (l2 ls), .int .u64 (l3 ls)], .int .u64 z1], .agg #[.int .u64 (l0 ls), .int .u64 (l1 ls), .int .u64 (l2 ls), .int .u64 (l3 ls)], .int .u64 z1, Go.undef, Go.undef, Go.undef, Go.undef, Go.undef, Go.undef, Go.undef, Go.undef, Go.undef, Go.undef, Go.undef, Go.undef, Go.undef, Go.undef, Go.undef, Go.undef, Go.undef, Go.undef, Go.undef, Go.undef, Go.undef, Go.undef, Go.undef, Go.undef, Go.undef, Go.undef, Go.undef, Go.undef, Go.undef, Go.undef, Go.undef, Go.undef, Go.undef, Go.undef, Go.undef, Go.undef, Go.undef, Go.undef, Go.undef, Go.undef, Go.undef, Go.undef, Go.undef, Go.undef, Go.undef, Go.undef, Go.undef, Go.undef, Go.undef, Go.undef, Go.undef, Go.undef, Go.undef, Go.undef, Go.undef, Go.undef, Go.undef, Go.undef, Go.undef, Go.undef, Go.undef, Go.undef, Go.undef, Go.undef, Go.undef, Go.undef, Go.undef, Go.undef, Go.undef, Go.undef, Go.undef, Go.undef, Go.undef, Go.undef, Go.undef, Go.undef, Go.undef, Go.undef, Go.undef, Go.undef, Go.undef, Go.undef, Go.undef, Go.undef, Go.undef, Go.undef, Go.undef, Go.undef, Go.undef, Go.undef, Go.undef, Go.undef, Go.undef, Go.undef, Go.undef, Go.undef, Go.undef, Go.undef, Go.undef, Go.undef, Go.undef, Go.undef, Go.undef, Go.undef, Go.undef], defers := [] }) ?_ ?_
  · have dz : W.drew.heap.size = W.heap.size := rfl
    have _ : bx < W.heap.size := by omega
    have _ : bx ≤ W.heap.size := by omega
    have _ : bx < W.heap.size + 1 := by omega
    have _ : bx < W.heap.size + 1 + 1 := by omega
    have _ : bx ≠ W.heap.size := by omega
    have _ : W.heap.size ≠ bx := by omega
    have _ : bx ≠ W.heap.size + 1 := by omega
    have _ : W.heap.size + 1 ≠ bx := by omega
    have _ : ba < W.heap.size := by omega
    have _ : ba ≤ W.heap.size := by omega
    have _ : ba < W.heap.size + 1 := by omega
    have _ : ba < W.heap.size + 1 + 1 := by omega
    have _ : ba ≠ W.heap.size := by omega
    have _ : W.heap.size ≠ ba := by omega
    have _ : ba ≠ W.heap.size + 1 := by omega
    have _ : W.heap.size + 1 ≠ ba := by omega
    have _ : bb < W.heap.size := by omega
    have _ : bb ≤ W.heap.size := by omega
    have _ : bb < W.heap.size + 1 := by omega
    have _ : bb < W.heap.size + 1 + 1 := by omega
    have _ : bb ≠ W.heap.size := by omega
    have _ : W.heap.size ≠ bb := by omega
    have _ : bb ≠ W.heap.size + 1 := by omega
    have _ : W.heap.size + 1 ≠ bb := by omega
    have _ : bm < W.heap.size := by omega
    have _ : bm ≤ W.heap.size := by omega
    have _ : bm < W.heap.size + 1 := by omega
    have _ : bm < W.heap.size + 1 + 1 := by omega
    have _ : bm ≠ W.heap.size := by omega
    have _ : W.heap.size ≠ bm := by omega
    have _ : bm ≠ W.heap.size + 1 := by omega
    have _ : W.heap.size + 1 ≠ bm := by omega
    have _ : br < W.heap.size := by omega
    have _ : br ≤ W.heap.size := by omega
    have _ : br < W.heap.size + 1 := by omega
    have _ : br < W.heap.size + 1 + 1 := by omega
    have _ : br ≠ W.heap.size := by omega
    have _ : W.heap.size ≠ br := by omega
    have _ : br ≠ W.heap.size + 1 := by omega
    have _ : W.heap.size + 1 ≠ br := by omega
    have _ : bu < W.heap.size := by omega
    have _ : bu ≤ W.heap.size := by omega
    have _ : bu < W.heap.size + 1 := by omega
    have _ : bu < W.heap.size + 1 + 1 := by omega
    have _ : bu ≠ W.heap.size := by omega
    have _ : W.heap.size ≠ bu := by omega
    have _ : bu ≠ W.heap.size + 1 := by omega
    have _ : W.heap.size + 1 ≠ bu := by omega
    have _ : bk < W.heap.size := by omega
    have _ : bk ≤ W.heap.size := by omega
    have _ : bk < W.heap.size + 1 := by omega
    have _ : bk < W.heap.size + 1 + 1 := by omega
    have _ : bk ≠ W.heap.size := by omega
    have _ : W.heap.size ≠ bk := by omega
    have _ : bk ≠ W.heap.size + 1 := by omega
    have _ : W.heap.size + 1 ≠ bk := by omega
    have _ : 0 < W.heap.size := by omega
    have _ : 0 ≤ W.heap.size := by omega
    have _ : 0 < W.heap.size + 1 := by omega
    have _ : 0 < W.heap.size + 1 + 1 := by omega
    have _ : 0 ≠ W.heap.size := by omega
    have _ : W.heap.size ≠ 0 := by omega
    have _ : 0 ≠ W.heap.size + 1 := by omega
    have _ : W.heap.size + 1 ≠ 0 := by omega
    go_region_held3 (fun w' => w'.cell? ⟨bm, 0, none⟩ = some (.int .u64 (l0 m)) ∧ w'.cell? ⟨bm, 1, none⟩ = some (.int .u64 (l1 m)) ∧ w'.cell? ⟨bm, 2, none⟩ = some (.int .u64 (l2 m)) ∧ w'.cell? ⟨bm, 3, none⟩ = some (.int .u64 (l3 m))) (((try dsimp only); (repeat' (apply And.intro)); (all_goals repeat (first | with_reducible assumption | with_reducible apply cell_keep hb2 | with_reducible apply cell_keep hb1 | with_reducible apply cell_alloc | (with_reducible refine cell_set ?_ (by with_reducible assumption)) | (simp [go_sem, *]; done)))))
      (first
        | (go_at_call 14; with_reducible refine (F1.out _).mono ?_; rintro e w1 ⟨rfl, hb1⟩; have hc1 := oldCells hb1; have hz1 := hb1.size; (try simp at hz1); (try (have := fun j => oldCells hb1 (W.heap.size) j (by first | omega | (simp; done) | (simp; omega)))); (try (have := fun j => oldCells hb1 (W.heap.size + 1) j (by first | omega | (simp; done) | (simp; omega)))); have _ : bx < w1.heap.size := (by omega); have _ : bx ≤ w1.heap.size := (by omega); have _ : bx < w1.heap.size + 1 := (by omega); have _ : bx < w1.heap.size + 1 + 1 := (by omega); have _ : bx ≠ w1.heap.size := (by omega); have _ : w1.heap.size ≠ bx := (by omega); have _ : bx ≠ w1.heap.size + 1 := (by omega); have _ : w1.heap.size + 1 ≠ bx := (by omega); have _ : ba < w1.heap.size := (by omega); have _ : ba ≤ w1.heap.size := (by omega); have _ : ba < w1.heap.size + 1 := (by omega); have _ : ba < w1.heap.size + 1 + 1 := (by omega); have _ : ba ≠ w1.heap.size := (by omega); have _ : w1.heap.size ≠ ba := (by omega); have _ : ba ≠ w1.heap.size + 1 := (by omega); have _ : w1.heap.size + 1 ≠ ba := (by omega); have _ : bb < w1.heap.size := (by omega); have _ : bb ≤ w1.heap.size := (by omega); have _ : bb < w1.heap.size + 1 := (by omega); have _ : bb < w1.heap.size + 1 + 1 := (by omega); have _ : bb ≠ w1.heap.size := (by omega); have _ : w1.heap.size ≠ bb := (by omega); have _ : bb ≠ w1.heap.size + 1 := (by omega); have _ : w1.heap.size + 1 ≠ bb := (by omega); have _ : bm < w1.heap.size := (by omega); have _ : bm ≤ w1.heap.size := (by omega); have _ : bm < w1.heap.size + 1 := (by omega); have _ : bm < w1.heap.size + 1 + 1 := (by omega); have _ : bm ≠ w1.heap.size := (by omega); have _ : w1.heap.size ≠ bm := (by omega); have _ : bm ≠ w1.heap.size + 1 := (by omega); have _ : w1.heap.size + 1 ≠ bm := (by omega); have _ : br < w1.heap.size := (by omega); have _ : br ≤ w1.heap.size := (by omega); have _ : br < w1.heap.size + 1 := (by omega); have _ : br < w1.heap.size + 1 + 1 := (by omega); have _ : br ≠ w1.heap.size := (by omega); have _ : w1.heap.size ≠ br := (by omega); have _ : br ≠ w1.heap.size + 1 := (by omega); have _ : w1.heap.size + 1 ≠ br := (by omega); have _ : bu < w1.heap.size := (by omega); have _ : bu ≤ w1.heap.size := (by omega); have _ : bu < w1.heap.size + 1 := (by omega); have _ : bu < w1.heap.size + 1 + 1 := (by omega); have _ : bu ≠ w1.heap.size := (by omega); have _ : w1.heap.size ≠ bu := (by omega); have _ : bu ≠ w1.heap.size + 1 := (by omega); have _ : w1.heap.size + 1 ≠ bu := (by omega); have _ : bk < w1.heap.size := (by omega); have _ : bk ≤ w1.heap.size := (by omega); have _ : bk < w1.heap.size + 1 := (by omega); have _ : bk < w1.heap.size + 1 + 1 := (by omega); have _ : bk ≠ w1.heap.size := (by omega); have _ : w1.heap.size ≠ bk := (by omega); have _ : bk ≠ w1.heap.size + 1 := (by omega); have _ : w1.heap.size + 1 ≠ bk := (by omega); have _ : 0 < w1.heap.size := (by omega); have _ : 0 ≤ w1.heap.size := (by omega); have _ : 0 < w1.heap.size + 1 := (by omega); have _ : 0 < w1.heap.size + 1 + 1 := (by omega); have _ : 0 ≠ w1.heap.size := (by omega); have _ : w1.heap.size ≠ 0 := (by omega); have _ : 0 ≠ w1.heap.size + 1 := (by omega); have _ : w1.heap.size + 1 ≠ 0 := (by omega); (try (have _ : W.heap.size < w1.heap.size := (by omega))); (try (have _ : W.heap.size ≤ w1.heap.size := (by omega))); (try (have _ : W.heap.size ≠ w1.heap.size := (by omega))); (try (have _ : w1.heap.size ≠ W.heap.size := (by omega))); (try (have _ : W.heap.size < w1.heap.size + 1 := (by omega))); (try (have _ : W.heap.size + 1 < w1.heap.size := (by omega))); (try (have _ : W.heap.size + 1 ≤ w1.heap.size := (by omega))); (try (have _ : W.heap.size + 1 ≠ w1.heap.size := (by omega))); (try (have _ : w1.heap.size ≠ W.heap.size + 1 := (by omega))); (try (have _ : W.heap.size + 1 < w1.heap.size + 1 := (by omega))))
        | (go_at_call 28; with_reducible refine (S1.out _).mono ?_; rintro e w2 ⟨rfl, hb2⟩; have hc2 := oldCells hb2; have hz2 := hb2.size; (try simp at hz2); (try (have := fun j => oldCells hb2 (W.heap.size) j (by first | omega | (simp; done) | (simp; omega)))); (try (have := fun j => oldCells hb2 (W.heap.size + 1) j (by first | omega | (simp; done) | (simp; omega)))); (try (have := fun j => oldCells hb2 (w1.heap.size) j (by first | omega | (simp; done) | (simp; omega)))); (try (have := fun j => oldCells hb2 (w1.heap.size + 1) j (by first | omega | (simp; done) | (simp; omega)))); have _ : bx < w2.heap.size := (by omega); have _ : bx ≤ w2.heap.size := (by omega); have _ : bx < w2.heap.size + 1 := (by omega); have _ : bx < w2.heap.size + 1 + 1 := (by omega); have _ : bx ≠ w2.heap.size := (by omega); have _ : w2.heap.size ≠ bx := (by omega); have _ : bx ≠ w2.heap.size + 1 := (by omega); have _ : w2.heap.size + 1 ≠ bx := (by omega); have _ : ba < w2.heap.size := (by omega); have _ : ba ≤ w2.heap.size := (by omega); have _ : ba < w2.heap.size + 1 := (by omega); have _ : ba < w2.heap.size + 1 + 1 := (by omega); have _ : ba ≠ w2.heap.size := (by omega); have _ : w2.heap.size ≠ ba := (by omega); have _ : ba ≠ w2.heap.size + 1 := (by omega); have _ : w2.heap.size + 1 ≠ ba := (by omega); have _ : bb < w2.heap.size := (by omega); have _ : bb ≤ w2.heap.size := (by omega); have _ : bb < w2.heap.size + 1 := (by omega); have _ : bb < w2.heap.size + 1 + 1 := (by omega); have _ : bb ≠ w2.heap.size := (by omega); have _ : w2.heap.size ≠ bb := (by omega); have _ : bb ≠ w2.heap.size + 1 := (by omega); have _ : w2.heap.size + 1 ≠ bb := (by omega); have _ : bm < w2.heap.size := (by omega); have _ : bm ≤ w2.heap.size := (by omega); have _ : bm < w2.heap.size + 1 := (by omega); have _ : bm < w2.heap.size + 1 + 1 := (by omega); have _ : bm ≠ w2.heap.size := (by omega); have _ : w2.heap.size ≠ bm := (by omega); have _ : bm ≠ w2.heap.size + 1 := (by omega); have _ : w2.heap.size + 1 ≠ bm := (by omega); have _ : br < w2.heap.size := (by omega); have _ : br ≤ w2.heap.size := (by omega); have _ : br < w2.heap.size + 1 := (by omega); have _ : br < w2.heap.size + 1 + 1 := (by omega); have _ : br ≠ w2.heap.size := (by omega); have _ : w2.heap.size ≠ br := (by omega); have _ : br ≠ w2.heap.size + 1 := (by omega); have _ : w2.heap.size + 1 ≠ br := (by omega); have _ : bu < w2.heap.size := (by omega); have _ : bu ≤ w2.heap.size := (by omega); have _ : bu < w2.heap.size + 1 := (by omega); have _ : bu < w2.heap.size + 1 + 1 := (by omega); have _ : bu ≠ w2.heap.size := (by omega); have _ : w2.heap.size ≠ bu := (by omega); have _ : bu ≠ w2.heap.size + 1 := (by omega); have _ : w2.heap.size + 1 ≠ bu := (by omega); have _ : bk < w2.heap.size := (by omega); have _ : bk ≤ w2.heap.size := (by omega); have _ : bk < w2.heap.size + 1 := (by omega); have _ : bk < w2.heap.size + 1 + 1 := (by omega); have _ : bk ≠ w2.heap.size := (by omega); have _ : w2.heap.size ≠ bk := (by omega); have _ : bk ≠ w2.heap.size + 1 := (by omega); have _ : w2.heap.size + 1 ≠ bk := (by omega); have _ : 0 < w2.heap.size := (by omega); have _ : 0 ≤ w2.heap.size := (by omega); have _ : 0 < w2.heap.size + 1 := (by omega); have _ : 0 < w2.heap.size + 1 + 1 := (by omega); have _ : 0 ≠ w2.heap.size := (by omega); have _ : w2.heap.size ≠ 0 := (by omega); have _ : 0 ≠ w2.heap.size + 1 := (by omega); have _ : w2.heap.size + 1 ≠ 0 := (by omega); (try (have _ : W.heap.size < w2.heap.size := (by omega))); (try (have _ : W.heap.size ≤ w2.heap.size := (by omega))); (try (have _ : W.heap.size ≠ w2.heap.size := (by omega))); (try (have _ : w2.heap.size ≠ W.heap.size := (by omega))); (try (have _ : W.heap.size < w2.heap.size + 1 := (by omega))); (try (have _ : W.heap.size + 1 < w2.heap.size := (by omega))); (try (have _ : W.heap.size + 1 ≤ w2.heap.size := (by omega))); (try (have _ : W.heap.size + 1 ≠ w2.heap.size := (by omega))); (try (have _ : w2.heap.size ≠ W.heap.size + 1 := (by omega))); (try (have _ : W.heap.size + 1 < w2.heap.size + 1 := (by omega))); (try (have _ : w1.heap.size < w2.heap.size := (by omega))); (try (have _ : w1.heap.size ≤ w2.heap.size := (by omega))); (try (have _ : w1.heap.size ≠ w2.heap.size := (by omega))); (try (have _ : w2.heap.size ≠ w1.heap.size := (by omega))); (try (have _ : w1.heap.size < w2.heap.size + 1 := (by omega))); (try (have _ : w1.heap.size + 1 < w2.heap.size := (by omega))); (try (have _ : w1.heap.size + 1 ≤ w2.heap.size := (by omega))); (try (have _ : w1.heap.size + 1 ≠ w2.heap.size := (by omega))); (try (have _ : w2.heap.size ≠ w1.heap.size + 1 := (by omega))); (try (have _ : w1.heap.size + 1 < w2.heap.size + 1 := (by omega)))))
    all_goals (refine OutQ.intro ⟨_, ?_, ?_, ?_, ?_, ?_, ?_, ?_, ?_, ?_, ?_, rfl⟩)
    all_goals repeat (first | with_reducible exact BB.out | with_reducible exact QhD.out | with_reducible exact QhX.out | with_reducible exact QhA.out | with_reducible exact QhS.out | with_reducible exact QhM.out | with_reducible exact QhR.out | with_reducible exact QhY.out | with_reducible exact QhK.out | with_reducible refine Hold.fresh (by first | rfl | (simp; done) | fail) | with_reducible refine Hold.sets4 ?_ | with_reducible refine Var.new (by first | rfl | (simp; done) | fail) | with_reducible refine Hold.alloc ?_ _ | with_reducible refine Hold.drew ?_ | with_reducible refine Hold.set4 ?_ (by with_reducible assumption) _ _ _ _ | with_reducible refine HoldM.alloc ?_ _ | with_reducible refine HoldM.drew ?_ | with_reducible refine HoldM.set4 ?_ (by with_reducible assumption) _ _ _ _ | with_reducible refine Blank.alloc ?_ _ | with_reducible refine Blank.drew ?_ | with_reducible refine Blank.set4 ?_ (by with_reducible assumption) _ _ _ _ | with_reducible refine Smm.alloc ?_ _ | with_reducible refine Smm.drew ?_ | with_reducible refine Smm.set4 ?_ (by with_reducible assumption) _ _ _ _ | with_reducible refine Mds.alloc ?_ _ | with_reducible refine Mds.drew ?_ | with_reducible refine Mds.set4 ?_ (by with_reducible assumption) _ _ _ _ | with_reducible refine Var.alloc ?_ _ | with_reducible refine Var.set4 ?_ (by with_reducible assumption) _ _ _ _ | with_reducible refine below_alloc hbx ?_ _ | with_reducible refine Below.drew ?_ | with_reducible refine Below.setCell ?_ (by with_reducible assumption) _ | with_reducible refine Has.fresh (by first | rfl | (simp; done) | fail) (by first | (simp; done) | fail) | with_reducible refine Has.alloc ?_ _ | with_reducible refine Has.drew ?_ | with_reducible refine Has.keep ?_ hb2 | with_reducible refine Hold.keep ?_ hb2 | with_reducible refine HoldM.keep ?_ hb2 | with_reducible refine Blank.keep ?_ hb2 | with_reducible refine Smm.keep ?_ hb2 | with_reducible refine Mds.keep ?_ hb2 | with_reducible refine Var.keep ?_ hb2 | with_reducible refine below_then hbx ?_ hb2 | with_reducible refine Has.keep ?_ hb1 | with_reducible refine Hold.keep ?_ hb1 | with_reducible refine HoldM.keep ?_ hb1 | with_reducible refine Blank.keep ?_ hb1 | with_reducible refine Smm.keep ?_ hb1 | with_reducible refine Mds.keep ?_ hb1 | with_reducible refine Var.keep ?_ hb1 | with_reducible refine below_then hbx ?_ hb1)
  rintro _ W ⟨bl, B, hD, hX, hA, hS, hM, hR, hY, hK, hL, rfl⟩
  subst hbx
  clear BB geB QhD QhX QhA QhS QhM QhR QhY QhK ghM lthD lthX lthA lthS lthM lthR lthY lthK
  go_wp2_with fail
  have lthD : 0 < W.heap.size := hD.lt
  have ghX := hX.cells
  have lthX : w.heap.size < W.heap.size := World.block_lt_of_cell? W _ hX.1
  have lthA : ba < W.heap.size := World.block_lt_of_cell? W _ hA.1
  have ghS := hS.1
  have lthS : bb < W.heap.size := hS.lt
  have lthM : bm < W.heap.size := World.block_lt_of_cell? W _ hM.1
  have lthR : br < W.heap.size := World.block_lt_of_cell? W _ hR.1
  have lthY : bu < W.heap.size := World.block_lt_of_cell? W _ hY.1
  have lthK : bk < W.heap.size := World.block_lt_of_cell? W _ hK.1
  have ghL := hL.cells
  have lthL : bl < W.heap.size := World.block_lt_of_cell? W _ hL.1
  have BB : Hid (Below w.heap.size w W) := B
  have QhD : Hid (Mds W) := hD
  have QhX : Hid (Hold W w.heap.size x) := hX
  have QhA : Hid (Hold W ba a) := hA
  have QhS : Hid (Smm W bb k) := hS
  have QhM : Hid (Hold W bm m) := hM
  have QhR : Hid (Hold W br r) := hR
  have QhY : Hid (Hold W bu y) := hY
  have QhK : Hid (Hold W bk r) := hK
  have QhL : Hid (Hold W bl ls) := hL
  have geB : w.heap.size ≤ W.heap.size := B.size
  clear B hD hX hA hS hM hR hY hK hL
  generalize hbx : w.heap.size = bx at *
  refine wp_out (fun a' W' => ∃ bo, Below bx w W' ∧ Mds W' ∧ Hold W' bx x ∧ Hold W' ba a ∧ Smm W' bb k ∧ Hold W' bm m ∧ Hold W' br r ∧ Hold W' bu y ∧ Hold W' bk r ∧ Hold W' bl ls ∧ Hold W' bo 1 ∧ a' = { tmps := #[.int .i64 v, .agg #[.int .u64 (l0 x), .int .u64 (l1 x), .int .u64 (l2 x), .int .u64 (l3 x)], .agg #[.int .u64 (l0 a), .int .u64 (l1 a), .int .u64 (l2 a), .int .u64 (l3 a)], Go.undef, .pointer (some { block := bx, off := 0 }), .pointer (some { block := ba, off := 0 }), .bool false, .pointer (some { block := bb, off := 0 }), .pointer (some { block := bm, off := 0 }), .int .i64 0, .pointer (some { block := br, off := 0 }), .int .i64 0, .pointer (some { block := bu, off := 0 }), .int .i64 0, .pointer (some { block := bk, off := 0 }), .int .i64 0, .pointer (some { block := bl, off := 0 }), .int .u64 z1, .pointer (some { block := bo, off := 0 }), .int .i64 0, Go.undef, Go.undef, Go.undef, Go.undef, Go.undef, Go.undef, Go.undef, Go.undef, Go.undef, .int .i64 v, .int .i64 k, .agg #[.int .i64 k, .bool false], .pointer (some { block := bb, off := 0 }), .tuple #[.agg #[.int .u64 (l0 m), .int .u64 (l1 m), .int .u64 (l2 m), .int .u64 (l3 m)], .int .i64 0], .pointer (some { block := bb, off := 0 }), .pointer (some { block := bb, off := 0 }), .pointer (some { block := bb, off := 0 }), .int .i64 k, .tuple #[.agg #[.int .u64 (l0 m), .int .u64 (l1 m), .int .u64 (l2 m), .int .u64 (l3 m)], .int .i64 0], .agg #[.int .u64 (l0 m), .int .u64 (l1 m), .int .u64 (l2 m), .int .u64 (l3 m)], .int .i64 0, .tuple #[.agg #[.int .u64 (l0 r), .int .u64 (l1 r), .int .u64 (l2 r), .int .u64 (l3 r)], .int .i64 0], .pointer (some { block := bb, off := 0 }), .pointer (some { block := bb, off := 0 }), .pointer (some { block := bb, off := 0 }), .int .i64 k, .agg #[.int .u64 0, .int .u64 0, .int .u64 0, .int .u64 0], .agg #[.int .u64 (l0 x), .int .u64 (l1 x), .int .u64 (l2 x), .int .u64 (l3 x)], .tuple #[.agg #[.int .u64 (l0 r), .int .u64 (l1 r), .int .u64 (l2 r), .int .u64 (l3 r)], .int .i64 0], .agg #[.int .u64 (l0 r), .int .u64 (l1 r), .int .u64 (l2 r), .int .u64 (l3 r)], .int .i64 0, .tuple #[.agg #[.int .u64 (l0 y), .int .u64 (l1 y), .int .u64 (l2 y), .int .u64 (l3 y)], .int .i64 0], .pointer (some { block := bb, off := 0 }), .pointer (some { block := bb, off := 0 }), .pointer (some { block := bb, off := 0 }), .int .i64 k, .agg #[.int .u64 (l0 x), .int .u64 (l1 x), .int .u64 (l2 x), .int .u64 (l3 x)], .tuple #[.agg #[.int .u64 (l0 y), .int .u64 (l1 y), .int .u64 (l2 y), .int .u64 (l3 y)], .int .i64 0], .agg #[.int .u64 (l0 y), .int .u64 (l1 y), .int .u64 (l2 y), .int .u64 (l3 y)], .int .i64 0, .int .i64 0, .bool false, .bool false, .int .i64 0, .bool false, .bool false, .agg #[.int .u64 (l0 r), .int .u64 (l1 r), .int .u64 (l2 r), .int .u64 (l3 r)], .agg #[.int .u64 0, .int .u64 0, .int .u64 0, .int .u64 0], .bool false, Go.undef, Go.undef, Go.undef, Go.undef, Go.undef, Go.undef, Go.undef, Go.undef, .tuple #[.agg #[.int .u64 (l0 r), .int .u64 (l1 r), .int .u64 (l2 r), .int .u64 (l3 r)], .int .i64 0], .pointer (some { block := bb, off := 0 }), .pointer (some { block := bb, off := 0 }), .pointer (some { block := bb, off := 0 }), .int .i64 k, .agg #[.int .u64 (l0 y), .int .u64 (l1 y), .int .u64 (l2 y), .int .u64 (l3 y)], .tuple #[.agg #[.int .u64 (l0 r), .int .u64 (l1 r), .int .u64 (l2 r), .int .u64 (l3 r)], .int .i64 0], .agg #[.int .u64 (l0 r), .int .u64 (l1 r), .int .u64 (l2 r), .int .u64 (l3 r)], .int .i64 0, .tuple #[.agg #[.int .u64 (l0 ls), .int .u64 (l1 ls), .int .u64 (l2 ls), .int .u64 (l3 ls)], .int .u64 z1], .agg #[.int .u64 (l0 m), .int .u64 (l1 m), .int .u64 (l2 m), .int .u64 (l3 m)], .agg #[.int .u64 (l0 1), .int .u64 (l1 1), .int .u64 (l2 1), .int .u64 (l3 1)], .tuple #[.agg #[.int .u64 (l0 ls), .int .u64 (l1 ls), .int .u64 (l2 ls), .int .u64 (l3 ls)], .int .u64 z1], .agg #[.int .u64 (l0 ls), .int .u64 (l1 ls), .int .u64 (l2 ls), .int .u64 (l3 ls)], .int .u64 z1, .tuple #[.agg #[.int .u64 (l0 1), .int .u64 (l1 1), .int .u64 (l2 1), .int .u64 (l3 1)], .int .i64 0], .pointer (some { block := bb, off := 0 }), .pointer (some { block := bb, off := 0 }), .pointer (some { block := bb, off := 0 }), .int .i64 k, .agg #[.int .u64 (l0 x), .int .u64 (l1 x), .int .u64 (l2 x), .int .u64 (l3 x)], .agg #[.int .u64 (l0 ls), .int .u64 (l1 ls), .int .u64 (l2 ls), .int .u64 (l3 ls)], .tuple #[.agg #[.int .u64 (l0 1), .int .u64 (l1 1), .int .u64 (l2 1), .int .u64 (l3 1)], .int .i64 0], .agg #[.int .u64 (l0 1), .int .u64 (l1 1), .int .u64 (l2 1), .int .u64 (l3 1)], .int .i64 0, Go.undef, Go.undef, Go.undef, Go.undef, Go.undef, Go.undef, Go.undef, Go.undef, Go.undef, Go.undef, Go.undef, Go.undef, Go.undef, Go.undef, Go.undef, Go.undef, Go.undef, Go.undef, Go.undef, Go.undef, Go.undef, Go.undef, Go.undef, Go.undef, Go.undef, Go.undef, Go.undef, Go.undef, Go.undef, Go.undef, Go.undef, Go.undef, Go.undef, Go.undef, Go.undef, Go.undef, Go.undef, Go.undef, Go.undef, Go.undef, Go.undef, Go.undef, Go.undef, Go.undef, Go.undef, Go.undef, Go.undef, Go.undef, Go.undef, Go.undef, Go.undef, Go.undef, Go.undef, Go.undef, Go.undef, Go.undef, Go.undef, Go.undef, Go.undef, Go.undef, Go.undef, Go.undef, Go.undef, Go.undef, Go.undef, Go.undef, Go.undef, Go.undef, Go.undef, Go.undef, Go.undef, Go.undef, Go.undef, Go.undef, Go.undef, Go.undef, Go.undef, Go.undef, Go.undef, Go.undef, Go.undef, Go.undef, Go.undef, Go.undef, Go.undef, Go.undef, Go.undef, Go.undef, Go.undef, Go.undef, Go.undef, Go.undef, Go.undef, Go.undef, Go.undef], defers := [] }) ?_ ?_
  · have dz : W.drew.heap.size = W.heap.size := rfl
    have _ : bx < W.heap.size := by omega
    have _ : bx ≤ W.heap.size := by omega
    have _ : bx < W.heap.size + 1 := by omega
    have _ : bx < W.heap.size + 1 + 1 := by omega
    have _ : bx ≠ W.heap.size := by omega
    have _ : W.heap.size ≠ bx := by omega
    have _ : bx ≠ W.heap.size + 1 := by omega
    have _ : W.heap.size + 1 ≠ bx := by omega
    have _ : ba < W.heap.size := by omega
    have _ : ba ≤ W.heap.size := by omega
    have _ : ba < W.heap.size + 1 := by omega
    have _ : ba < W.heap.size + 1 + 1 := by omega
    have _ : ba ≠ W.heap.size := by omega
    have _ : W.heap.size ≠ ba := by omega
    have _ : ba ≠ W.heap.size + 1 := by omega
    have _ : W.heap.size + 1 ≠ ba := by omega
    have _ : bb < W.heap.size := by omega
    have _ : bb ≤ W.heap.size := by omega
    have _ : bb < W.heap.size + 1 := by omega
    have _ : bb < W.heap.size + 1 + 1 := by omega
    have _ : bb ≠ W.heap.size := by omega
    have _ : W.heap.size ≠ bb := by omega
    have _ : bb ≠ W.heap.size + 1 := by omega
    have _ : W.heap.size + 1 ≠ bb := by omega
    have _ : bm < W.heap.size := by omega
    have _ : bm ≤ W.heap.size := by omega
    have _ : bm < W.heap.size + 1 := by omega
    have _ : bm < W.heap.size + 1 + 1 := by omega
    have _ : bm ≠ W.heap.size := by omega
    have _ : W.heap.size ≠ bm := by omega
    have _ : bm ≠ W.heap.size + 1 := by omega
    have _ : W.heap.size + 1 ≠ bm := by omega
    have _ : br < W.heap.size := by omega
    have _ : br ≤ W.heap.size := by omega
    have _ : br < W.heap.size + 1 := by omega
    have _ : br < W.heap.size + 1 + 1 := by omega
    have _ : br ≠ W.heap.size := by omega
    have _ : W.heap.size ≠ br := by omega
    have _ : br ≠ W.heap.size + 1 := by omega
    have _ : W.heap.size + 1 ≠ br := by omega
    have _ : bu < W.heap.size := by omega
    have _ : bu ≤ W.heap.size := by omega
    have _ : bu < W.heap.size + 1 := by omega
    have _ : bu < W.heap.size + 1 + 1 := by omega
    have _ : bu ≠ W.heap.size := by omega
    have _ : W.heap.size ≠ bu := by omega
    have _ : bu ≠ W.heap.size + 1 := by omega
    have _ : W.heap.size + 1 ≠ bu := by omega
    have _ : bk < W.heap.size := by omega
    have _ : bk ≤ W.heap.size := by omega
    have _ : bk < W.heap.size + 1 := by omega
    have _ : bk < W.heap.size + 1 + 1 := by omega
    have _ : bk ≠ W.heap.size := by omega
    have _ : W.heap.size ≠ bk := by omega
    have _ : bk ≠ W.heap.size + 1 := by omega
    have _ : W.heap.size + 1 ≠ bk := by omega
    have _ : bl < W.heap.size := by omega
    have _ : bl ≤ W.heap.size := by omega
    have _ : bl < W.heap.size + 1 := by omega
    have _ : bl < W.heap.size + 1 + 1 := by omega
    have _ : bl ≠ W.heap.size := by omega
    have _ : W.heap.size ≠ bl := by omega
    have _ : bl ≠ W.heap.size + 1 := by omega
    have _ : W.heap.size + 1 ≠ bl := by omega
    have _ : 0 < W.heap.size := by omega
    have _ : 0 ≤ W.heap.size := by omega
    have _ : 0 < W.heap.size + 1 := by omega
    have _ : 0 < W.heap.size + 1 + 1 := by omega
    have _ : 0 ≠ W.heap.size := by omega
    have _ : W.heap.size ≠ 0 := by omega
    have _ : 0 ≠ W.heap.size + 1 := by omega
    have _ : W.heap.size + 1 ≠ 0 := by omega
    go_region_held3 (fun w' => w'.cell? ⟨bx, 0, none⟩ = some (.int .u64 (l0 x)) ∧ w'.cell? ⟨bx, 1, none⟩ = some (.int .u64 (l1 x)) ∧ w'.cell? ⟨bx, 2, none⟩ = some (.int .u64 (l2 x)) ∧ w'.cell? ⟨bx, 3, none⟩ = some (.int .u64 (l3 x)) ∧ w'.cell? ⟨bb, 0, none⟩ = some (.int .i64 k) ∧ w'.cell? ⟨bl, 0, none⟩ = some (.int .u64 (l0 ls)) ∧ w'.cell? ⟨bl, 1, none⟩ = some (.int .u64 (l1 ls)) ∧ w'.cell? ⟨bl, 2, none⟩ = some (.int .u64 (l2 ls)) ∧ w'.cell? ⟨bl, 3, none⟩ = some (.int .u64 (l3 ls))) (((try dsimp only); (repeat' (apply And.intro)); (all_goals repeat (first | with_reducible assumption | with_reducible apply cell_keep hb1 | with_reducible apply cell_alloc | (with_reducible refine cell_set ?_ (by with_reducible assumption)) | (simp [go_sem, *]; done)))))
      (first
        | (go_at_call 29; with_reducible refine (O5.out _ (by repeat (first | with_reducible exact QhD.out | with_reducible refine Mds.alloc ?_ _ | with_reducible refine Mds.drew ?_))).mono ?_; rintro e w1 ⟨rfl, hb1⟩; have hc1 := oldCells hb1; have hz1 := hb1.size; (try simp at hz1); (try (have := fun j => oldCells hb1 (W.heap.size) j (by first | omega | (simp; done) | (simp; omega)))); (try (have := fun j => oldCells hb1 (W.heap.size + 1) j (by first | omega | (simp; done) | (simp; omega)))); have _ : bx < w1.heap.size := (by omega); have _ : bx ≤ w1.heap.size := (by omega); have _ : bx < w1.heap.size + 1 := (by omega); have _ : bx < w1.heap.size + 1 + 1 := (by omega); have _ : bx ≠ w1.heap.size := (by omega); have _ : w1.heap.size ≠ bx := (by omega); have _ : bx ≠ w1.heap.size + 1 := (by omega); have _ : w1.heap.size + 1 ≠ bx := (by omega); have _ : ba < w1.heap.size := (by omega); have _ : ba ≤ w1.heap.size := (by omega); have _ : ba < w1.heap.size + 1 := (by omega); have _ : ba < w1.heap.size + 1 + 1 := (by omega); have _ : ba ≠ w1.heap.size := (by omega); have _ : w1.heap.size ≠ ba := (by omega); have _ : ba ≠ w1.heap.size + 1 := (by omega); have _ : w1.heap.size + 1 ≠ ba := (by omega); have _ : bb < w1.heap.size := (by omega); have _ : bb ≤ w1.heap.size := (by omega); have _ : bb < w1.heap.size + 1 := (by omega); have _ : bb < w1.heap.size + 1 + 1 := (by omega); have _ : bb ≠ w1.heap.size := (by omega); have _ : w1.heap.size ≠ bb := (by omega); have _ : bb ≠ w1.heap.size + 1 := (by omega); have _ : w1.heap.size + 1 ≠ bb := (by omega); have _ : bm < w1.heap.size := (by omega); have _ : bm ≤ w1.heap.size := (by omega); have _ : bm < w1.heap.size + 1 := (by omega); have _ : bm < w1.heap.size + 1 + 1 := (by omega); have _ : bm ≠ w1.heap.size := (by omega); have _ : w1.heap.size ≠ bm := (by omega); have _ : bm ≠ w1.heap.size + 1 := (by omega); have _ : w1.heap.size + 1 ≠ bm := (by omega); have _ : br < w1.heap.size := (by omega); have _ : br ≤ w1.heap.size := (by omega); have _ : br < w1.heap.size + 1 := (by omega); have _ : br < w1.heap.size + 1 + 1 := (by omega); have _ : br ≠ w1.heap.size := (by omega); have _ : w1.heap.size ≠ br := (by omega); have _ : br ≠ w1.heap.size + 1 := (by omega); have _ : w1.heap.size + 1 ≠ br := (by omega); have _ : bu < w1.heap.size := (by omega); have _ : bu ≤ w1.heap.size := (by omega); have _ : bu < w1.heap.size + 1 := (by omega); have _ : bu < w1.heap.size + 1 + 1 := (by omega); have _ : bu ≠ w1.heap.size := (by omega); have _ : w1.heap.size ≠ bu := (by omega); have _ : bu ≠ w1.heap.size + 1 := (by omega); have _ : w1.heap.size + 1 ≠ bu := (by omega); have _ : bk < w1.heap.size := (by omega); have _ : bk ≤ w1.heap.size := (by omega); have _ : bk < w1.heap.size + 1 := (by omega); have _ : bk < w1.heap.size + 1 + 1 := (by omega); have _ : bk ≠ w1.heap.size := (by omega); have _ : w1.heap.size ≠ bk := (by omega); have _ : bk ≠ w1.heap.size + 1 := (by omega); have _ : w1.heap.size + 1 ≠ bk := (by omega); have _ : bl < w1.heap.size := (by omega); have _ : bl ≤ w1.heap.size := (by omega); have _ : bl < w1.heap.size + 1 := (by omega); have _ : bl < w1.heap.size + 1 + 1 := (by omega); have _ : bl ≠ w1.heap.size := (by omega); have _ : w1.heap.size ≠ bl := (by omega); have _ : bl ≠ w1.heap.size + 1 := (by omega); have _ : w1.heap.size + 1 ≠ bl := (by omega); have _ : 0 < w1.heap.size := (by omega); have _ : 0 ≤ w1.heap.size := (by omega); have _ : 0 < w1.heap.size + 1 := (by omega); have _ : 0 < w1.heap.size + 1 + 1 := (by omega); have _ : 0 ≠ w1.heap.size := (by omega); have _ : w1.heap.size ≠ 0 := (by omega); have _ : 0 ≠ w1.heap.size + 1 := (by omega); have _ : w1.heap.size + 1 ≠ 0 := (by omega); (try (have _ : W.heap.size < w1.heap.size := (by omega))); (try (have _ : W.heap.size ≤ w1.heap.size := (by omega))); (try (have _ : W.heap.size ≠ w1.heap.size := (by omega))); (try (have _ : w1.heap.size ≠ W.heap.size := (by omega))); (try (have _ : W.heap.size < w1.heap.size + 1 := (by omega))); (try (have _ : W.heap.size + 1 < w1.heap.size := (by omega))); (try (have _ : W.heap.size + 1 ≤ w1.heap.size := (by omega))); (try (have _ : W.heap.size + 1 ≠ w1.heap.size := (by omega))); (try (have _ : w1.heap.size ≠ W.heap.size + 1 := (by omega))); (try (have _ : W.heap.size + 1 < w1.heap.size + 1 := (by omega)))))
    all_goals (refine OutQ.intro ⟨_, ?_, ?_, ?_, ?_, ?_, ?_, ?_, ?_, ?_, ?_, ?_, rfl⟩)
    all_goals repeat (first | with_reducible exact BB.out | with_reducible exact QhD.out | with_reducible exact QhX.out | with_reducible exact QhA.out | with_reducible exact QhS.out | with_reducible exact QhM.out | with_reducible exact QhR.out | with_reducible exact QhY.out | with_reducible exact QhK.out | with_reducible exact QhL.out | with_reducible refine Hold.fresh (by first | rfl | (simp; done) | fail) | with_reducible refine Hold.sets4 ?_ | with_reducible refine Var.new (by first | rfl | (simp; done) | fail) | with_reducible refine Hold.alloc ?_ _ | with_reducible refine Hold.drew ?_ | with_reducible refine Hold.set4 ?_ (by with_reducible assumption) _ _ _ _ | with_reducible refine HoldM.alloc ?_ _ | with_reducible refine HoldM.drew ?_ | with_reducible refine HoldM.set4 ?_ (by with_reducible assumption) _ _ _ _ | with_reducible refine Blank.alloc ?_ _ | with_reducible refine Blank.drew ?_ | with_reducible refine Blank.set4 ?_ (by with_reducible assumption) _ _ _ _ | with_reducible refine Smm.alloc ?_ _ | with_reducible refine Smm.drew ?_ | with_reducible refine Smm.set4 ?_ (by with_reducible assumption) _ _ _ _ | with_reducible refine Mds.alloc ?_ _ | with_reducible refine Mds.drew ?_ | with_reducible refine Mds.set4 ?_ (by with_reducible assumption) _ _ _ _ | with_reducible refine Var.alloc ?_ _ | with_reducible refine Var.set4 ?_ (by with_reducible assumption) _ _ _ _ | with_reducible refine below_alloc hbx ?_ _ | with_reducible refine Below.drew ?_ | with_reducible refine Below.setCell ?_ (by with_reducible assumption) _ | with_reducible refine Has.fresh (by first | rfl | (simp; done) | fail) (by first | (simp; done) | fail) | with_reducible refine Has.alloc ?_ _ | with_reducible refine Has.drew ?_ | with_reducible refine Has.keep ?_ hb1 | with_reducible refine Hold.keep ?_ hb1 | with_reducible refine HoldM.keep ?_ hb1 | with_reducible refine Blank.keep ?_ hb1 | with_reducible refine Smm.keep ?_ hb1 | with_reducible refine Mds.keep ?_ hb1 | with_reducible refine Var.keep ?_ hb1 | with_reducible refine below_then hbx ?_ hb1)
  rintro _ W ⟨bo, B, hD, hX, hA, hS, hM, hR, hY, hK, hL, hO, rfl⟩
  subst hbx
  clear BB geB QhD QhX QhA QhS QhM QhR QhY QhK QhL ghX ghS ghL lthD lthX lthA lthS lthM lthR lthY lthK lthL
  go_wp2_with fail
  clear hM hL
  have ghX := hX.grown
  have ghY := hY.grown
  have ghK := hK.grown
  have ghR := hR.grown
  have ghO := hO.grown
  have hDg : ∀ d os, Mds (grow (redrawn W d) os) := fun d os => hD.keep (below_regrown W d os)
  have hSg := fun d os => hS.keep (below_regrown W d os)
  refine wp_region_quiet_below (by kernel_rfl) (by kernel_rfl) ?_
  repeat
    first
      | go_big_quiet_skip
      | (go_big_quiet_want; go_big_quiet_op; go_big_quiet_on)
      | (go_big_quiet_want
         go_big_quiet_op
         apply Exists.intro
         refine ⟨fun p => ?_, ?_⟩
         · (first | (go_at_call 24; with_reducible exact Calls.regrown_of (P1.out _ _ (hDg p.d p.os) (hSg p.d p.os))) | (go_at_call 14; with_reducible exact Calls.regrown_of (F1.out _)))
         go_big_quiet_on)
  refine wpQuiet_nil ?_
  rintro w3 ⟨p, rfl⟩
  have hb := below_regrown W p.d p.os
  generalize grow (redrawn W p.d) p.os = w3 at *
  replace B := B.trans (hb.mono B.size)
  replace hD := hD.keep hb; replace hX := hX.keep hb; replace hA := hA.keep hb; replace hS := hS.keep hb; replace hR := hR.keep hb; replace hY := hY.keep hb; replace hK := hK.keep hb; replace hO := hO.keep hb
  clear hb W ghX ghY ghK ghR ghO hDg hSg
  clear hY hK hR hO
  have ghA := hA.cells
  go_wp2_with fail
  clear ghA
  with_reducible refine (H1.out _).mono ?_
  rintro e w4 ⟨rfl, hb⟩
  replace B := B.trans (hb.mono B.size)
  replace hD := hD.keep hb; replace hX := hX.keep hb; replace hA := hA.keep hb; replace hS := hS.keep hb
  clear hb w3
  have ghA := hA.allocs
  go_wp2_with fail
  refine calls_world (fun W => Below w.heap.size w W ∧ Mds W ∧ Hold W w.heap.size x ∧ Hold W ba a ∧ Smm W bb k ∧ Hold W w4.heap.size hf) ⟨B.alloc B.size _, hD.alloc _, hX.alloc _, hA.alloc _, hS.alloc _, Hold.new _ _ _⟩ ?_
  clear B hD hX hA hS ghA
  rintro W ⟨B, hD, hX, hA, hS, hH⟩
  generalize w4.heap.size = bh at *
  with_reducible refine (S2.out _).mono ?_
  rintro e w5 ⟨rfl, hb⟩
  replace B := B.trans (hb.mono B.size)
  replace hD := hD.keep hb; replace hX := hX.keep hb; replace hA := hA.keep hb; replace hS := hS.keep hb; replace hH := hH.keep hb
  clear hb W
  go_wp2_with fail
  refine wp_world (fun W => Below w.heap.size w W ∧ Mds W ∧ Hold W w.heap.size x ∧ Hold W ba a ∧ Smm W bb k ∧ Hold W bh hf ∧ Hold W w5.heap.size rs) ⟨B.alloc B.size _, hD.alloc _, hX.alloc _, hA.alloc _, hS.alloc _, hH.alloc _, Hold.new _ _ _⟩ ?_
  clear B hD hX hA hS hH 
  rintro W ⟨B, hD, hX, hA, hS, hH, hT⟩
  generalize w5.heap.size = bt at *
  have lthD : 0 < W.heap.size := hD.lt
  have ghX := hX.cells
  have lthX : w.heap.size < W.heap.size := World.block_lt_of_cell? W _ hX.1
  have lthA : ba < W.heap.size := World.block_lt_of_cell? W _ hA.1
  have ghS := hS.1
  have lthS : bb < W.heap.size := hS.lt
  have ghH := hH.cells
  have lthH : bh < W.heap.size := World.block_lt_of_cell? W _ hH.1
  have lthT : bt < W.heap.size := World.block_lt_of_cell? W _ hT.1
  have BB : Hid (Below w.heap.size w W) := B
  have QhD : Hid (Mds W) := hD
  have QhX : Hid (Hold W w.heap.size x) := hX
  have QhA : Hid (Hold W ba a) := hA
  have QhS : Hid (Smm W bb k) := hS
  have QhH : Hid (Hold W bh hf) := hH
  have QhT : Hid (Hold W bt rs) := hT
  have geB : w.heap.size ≤ W.heap.size := B.size
  clear B hD hX hA hS hH hT
  generalize hbx : w.heap.size = bx at *
  refine wp_out (fun a' W' => ∃ bp, Below bx w W' ∧ Mds W' ∧ Hold W' bx x ∧ Hold W' ba a ∧ Smm W' bb k ∧ Hold W' bh hf ∧ Hold W' bt rs ∧ Hold W' bp pv ∧ a' = { tmps := #[.int .i64 v, .agg #[.int .u64 (l0 x), .int .u64 (l1 x), .int .u64 (l2 x), .int .u64 (l3 x)], .agg #[.int .u64 (l0 a), .int .u64 (l1 a), .int .u64 (l2 a), .int .u64 (l3 a)], Go.undef, .pointer (some { block := bx, off := 0 }), .pointer (some { block := ba, off := 0 }), .bool false, .pointer (some { block := bb, off := 0 }), .pointer (some { block := bm, off := 0 }), .int .i64 0, .pointer (some { block := br, off := 0 }), .int .i64 0, .pointer (some { block := bu, off := 0 }), .int .i64 0, .pointer (some { block := bk, off := 0 }), .int .i64 0, .pointer (some { block := bl, off := 0 }), .int .u64 z1, .pointer (some { block := bo, off := 0 }), .int .i64 0, .pointer (some { block := bh, off := 0 }), .pointer (some { block := bt, off := 0 }), .int .u64 0, .pointer (some { block := bp, off := 0 }), .int .i64 0, Go.undef, Go.undef, Go.undef, Go.undef, .int .i64 v, .int .i64 k, .agg #[.int .i64 k, .bool false], .pointer (some { block := bb, off := 0 }), .tuple #[.agg #[.int .u64 (l0 m), .int .u64 (l1 m), .int .u64 (l2 m), .int .u64 (l3 m)], .int .i64 0], .pointer (some { block := bb, off := 0 }), .pointer (some { block := bb, off := 0 }), .pointer (some { block := bb, off := 0 }), .int .i64 k, .tuple #[.agg #[.int .u64 (l0 m), .int .u64 (l1 m), .int .u64 (l2 m), .int .u64 (l3 m)], .int .i64 0], .agg #[.int .u64 (l0 m), .int .u64 (l1 m), .int .u64 (l2 m), .int .u64 (l3 m)], .int .i64 0, .tuple #[.agg #[.int .u64 (l0 r), .int .u64 (l1 r), .int .u64 (l2 r), .int .u64 (l3 r)], .int .i64 0], .pointer (some { block := bb, off := 0 }), .pointer (some { block := bb, off := 0 }), .pointer (some { block := bb, off := 0 }), .int .i64 k, .agg #[.int .u64 0, .int .u64 0, .int .u64 0, .int .u64 0], .agg #[.int .u64 (l0 x), .int .u64 (l1 x), .int .u64 (l2 x), .int .u64 (l3 x)], .tuple #[.agg #[.int .u64 (l0 r), .int .u64 (l1 r), .int .u64 (l2 r), .int .u64 (l3 r)], .int .i64 0], .agg #[.int .u64 (l0 r), .int .u64 (l1 r), .int .u64 (l2 r), .int .u64 (l3 r)], .int .i64 0, .tuple #[.agg #[.int .u64 (l0 y), .int .u64 (l1 y), .int .u64 (l2 y), .int .u64 (l3 y)], .int .i64 0], .pointer (some { block := bb, off := 0 }), .pointer (some { block := bb, off := 0 }), .pointer (some { block := bb, off := 0 }), .int .i64 k, .agg #[.int .u64 (l0 x), .int .u64 (l1 x), .int .u64 (l2 x), .int .u64 (l3 x)], .tuple #[.agg #[.int .u64 (l0 y), .int .u64 (l1 y), .int .u64 (l2 y), .int .u64 (l3 y)], .int .i64 0], .agg #[.int .u64 (l0 y), .int .u64 (l1 y), .int .u64 (l2 y), .int .u64 (l3 y)], .int .i64 0, .int .i64 0, .bool false, .bool false, .int .i64 0, .bool false, .bool false, .agg #[.int .u64 (l0 r), .int .u64 (l1 r), .int .u64 (l2 r), .int .u64 (l3 r)], .agg #[.int .u64 0, .int .u64 0, .int .u64 0, .int .u64 0], .bool false, Go.undef, Go.undef, Go.undef, Go.undef, Go.undef, Go.undef, Go.undef, Go.undef, .tuple #[.agg #[.int .u64 (l0 r), .int .u64 (l1 r), .int .u64 (l2 r), .int .u64 (l3 r)], .int .i64 0], .pointer (some { block := bb, off := 0 }), .pointer (some { block := bb, off := 0 }), .pointer (some { block := bb, off := 0 }), .int .i64 k, .agg #[.int .u64 (l0 y), .int .u64 (l1 y), .int .u64 (l2 y), .int .u64 (l3 y)], .tuple #[.agg #[.int .u64 (l0 r), .int .u64 (l1 r), .int .u64 (l2 r), .int .u64 (l3 r)], .int .i64 0], .agg #[.int .u64 (l0 r), .int .u64 (l1 r), .int .u64 (l2 r), .int .u64 (l3 r)], .int .i64 0, .tuple #[.agg #[.int .u64 (l0 ls), .int .u64 (l1 ls), .int .u64 (l2 ls), .int .u64 (l3 ls)], .int .u64 z1], .agg #[.int .u64 (l0 m), .int .u64 (l1 m), .int .u64 (l2 m), .int .u64 (l3 m)], .agg #[.int .u64 (l0 1), .int .u64 (l1 1), .int .u64 (l2 1), .int .u64 (l3 1)], .tuple #[.agg #[.int .u64 (l0 ls), .int .u64 (l1 ls), .int .u64 (l2 ls), .int .u64 (l3 ls)], .int .u64 z1], .agg #[.int .u64 (l0 ls), .int .u64 (l1 ls), .int .u64 (l2 ls), .int .u64 (l3 ls)], .int .u64 z1, .tuple #[.agg #[.int .u64 (l0 1), .int .u64 (l1 1), .int .u64 (l2 1), .int .u64 (l3 1)], .int .i64 0], .pointer (some { block := bb, off := 0 }), .pointer (some { block := bb, off := 0 }), .pointer (some { block := bb, off := 0 }), .int .i64 k, .agg #[.int .u64 (l0 x), .int .u64 (l1 x), .int .u64 (l2 x), .int .u64 (l3 x)], .agg #[.int .u64 (l0 ls), .int .u64 (l1 ls), .int .u64 (l2 ls), .int .u64 (l3 ls)], .tuple #[.agg #[.int .u64 (l0 1), .int .u64 (l1 1), .int .u64 (l2 1), .int .u64 (l3 1)], .int .i64 0], .agg #[.int .u64 (l0 1), .int .u64 (l1 1), .int .u64 (l2 1), .int .u64 (l3 1)], .int .i64 0, .int .i64 0, .bool false, .bool false, .int .i64 0, .bool false, .bool false, .bool false, .int .i64 0, .bool false, .bool false, .bool false, .pointer (some { block := bb, off := 0 }), .agg #[.int .u64 (l0 x), .int .u64 (l1 x), .int .u64 (l2 x), .int .u64 (l3 x)], .agg #[.int .u64 (l0 y), .int .u64 (l1 y), .int .u64 (l2 y), .int .u64 (l3 y)], .agg #[.int .u64 (l0 1), .int .u64 (l1 1), .int .u64 (l2 1), .int .u64 (l3 1)], .agg #[.int .u64 (l0 1), .int .u64 (l1 1), .int .u64 (l2 1), .int .u64 (l3 1)], .bool false, .bool false, .bool false, .agg #[.int .u64 (l0 r), .int .u64 (l1 r), .int .u64 (l2 r), .int .u64 (l3 r)], .agg #[.int .u64 (l0 r), .int .u64 (l1 r), .int .u64 (l2 r), .int .u64 (l3 r)], .bool false, .bool false, .bool false, .agg #[.int .u64 (l0 1), .int .u64 (l1 1), .int .u64 (l2 1), .int .u64 (l3 1)], .agg #[.int .u64 (l0 1), .int .u64 (l1 1), .int .u64 (l2 1), .int .u64 (l3 1)], .bool false, .bool false, .agg #[.int .u64 (l0 a), .int .u64 (l1 a), .int .u64 (l2 a), .int .u64 (l3 a)], .agg #[.int .u64 (l0 hf), .int .u64 (l1 hf), .int .u64 (l2 hf), .int .u64 (l3 hf)], .tuple #[.agg #[.int .u64 (l0 rs), .int .u64 (l1 rs), .int .u64 (l2 rs), .int .u64 (l3 rs)], .int .u64 0], .agg #[.int .u64 (l0 a), .int .u64 (l1 a), .int .u64 (l2 a), .int .u64 (l3 a)], .agg #[.int .u64 (l0 hf), .int .u64 (l1 hf), .int .u64 (l2 hf), .int .u64 (l3 hf)], .tuple #[.agg #[.int .u64 (l0 rs), .int .u64 (l1 rs), .int .u64 (l2 rs), .int .u64 (l3 rs)], .int .u64 0], .agg #[.int .u64 (l0 rs), .int .u64 (l1 rs), .int .u64 (l2 rs), .int .u64 (l3 rs)], .int .u64 0, .tuple #[.agg #[.int .u64 (l0 pv), .int .u64 (l1 pv), .int .u64 (l2 pv), .int .u64 (l3 pv)], .int .i64 0], .pointer (some { block := bb, off := 0 }), .pointer (some { block := bb, off := 0 }), .pointer (some { block := bb, off := 0 }), .int .i64 k, .agg #[.int .u64 (l0 x), .int .u64 (l1 x), .int .u64 (l2 x), .int .u64 (l3 x)], .agg #[.int .u64 (l0 hf), .int .u64 (l1 hf), .int .u64 (l2 hf), .int .u64 (l3 hf)], .tuple #[.agg #[.int .u64 (l0 pv), .int .u64 (l1 pv), .int .u64 (l2 pv), .int .u64 (l3 pv)], .int .i64 0], .agg #[.int .u64 (l0 pv), .int .u64 (l1 pv), .int .u64 (l2 pv), .int .u64 (l3 pv)], .int .i64 0, Go.undef, Go.undef, Go.undef, Go.undef, Go.undef, Go.undef, Go.undef, Go.undef, Go.undef, Go.undef, Go.undef, Go.undef, Go.undef, Go.undef, Go.undef, Go.undef, Go.undef, Go.undef, Go.undef, Go.undef, Go.undef, Go.undef, Go.undef, Go.undef, Go.undef, Go.undef, Go.undef, Go.undef, Go.undef, Go.undef, Go.undef, Go.undef, Go.undef, Go.undef, Go.undef, Go.undef, Go.undef, Go.undef, Go.undef, Go.undef, Go.undef, Go.undef, Go.undef, Go.undef, Go.undef, Go.undef, Go.undef, Go.undef, Go.undef], defers := [] }) ?_ ?_
  · have dz : W.drew.heap.size = W.heap.size := rfl
    have _ : bx < W.heap.size := by omega
    have _ : bx ≤ W.heap.size := by omega
    have _ : bx < W.heap.size + 1 := by omega
    have _ : bx < W.heap.size + 1 + 1 := by omega
    have _ : bx ≠ W.heap.size := by omega
    have _ : W.heap.size ≠ bx := by omega
    have _ : bx ≠ W.heap.size + 1 := by omega
    have _ : W.heap.size + 1 ≠ bx := by omega
    have _ : ba < W.heap.size := by omega
    have _ : ba ≤ W.heap.size := by omega
    have _ : ba < W.heap.size + 1 := by omega
    have _ : ba < W.heap.size + 1 + 1 := by omega
    have _ : ba ≠ W.heap.size := by omega
    have _ : W.heap.size ≠ ba := by omega
    have _ : ba ≠ W.heap.size + 1 := by omega
    have _ : W.heap.size + 1 ≠ ba := by omega
    have _ : bb < W.heap.size := by omega
    have _ : bb ≤ W.heap.size := by omega
    have _ : bb < W.heap.size + 1 := by omega
    have _ : bb < W.heap.size + 1 + 1 := by omega
    have _ : bb ≠ W.heap.size := by omega
    have _ : W.heap.size ≠ bb := by omega
    have _ : bb ≠ W.heap.size + 1 := by omega
    have _ : W.heap.size + 1 ≠ bb := by omega
    have _ : bh < W.heap.size := by omega
    have _ : bh ≤ W.heap.size := by omega
    have _ : bh < W.heap.size + 1 := by omega
    have _ : bh < W.heap.size + 1 + 1 := by omega
    have _ : bh ≠ W.heap.size := by omega
    have _ : W.heap.size ≠ bh := by omega
    have _ : bh ≠ W.heap.size + 1 := by omega
    have _ : W.heap.size + 1 ≠ bh := by omega
    have _ : bt < W.heap.size := by omega
    have _ : bt ≤ W.heap.size := by omega
    have _ : bt < W.heap.size + 1 := by omega
    have _ : bt < W.heap.size + 1 + 1 := by omega
    have _ : bt ≠ W.heap.size := by omega
    have _ : W.heap.size ≠ bt := by omega
    have _ : bt ≠ W.heap.size + 1 := by omega
    have _ : W.heap.size + 1 ≠ bt := by omega
    have _ : 0 < W.heap.size := by omega
    have _ : 0 ≤ W.heap.size := by omega
    have _ : 0 < W.heap.size + 1 := by omega
    have _ : 0 < W.heap.size + 1 + 1 := by omega
    have _ : 0 ≠ W.heap.size := by omega
    have _ : W.heap.size ≠ 0 := by omega
    have _ : 0 ≠ W.heap.size + 1 := by omega
    have _ : W.heap.size + 1 ≠ 0 := by omega
    go_region_held3 (fun w' => w'.cell? ⟨bx, 0, none⟩ = some (.int .u64 (l0 x)) ∧ w'.cell? ⟨bx, 1, none⟩ = some (.int .u64 (l1 x)) ∧ w'.cell? ⟨bx, 2, none⟩ = some (.int .u64 (l2 x)) ∧ w'.cell? ⟨bx, 3, none⟩ = some (.int .u64 (l3 x)) ∧ w'.cell? ⟨bb, 0, none⟩ = some (.int .i64 k) ∧ w'.cell? ⟨bh, 0, none⟩ = some (.int .u64 (l0 hf)) ∧ w'.cell? ⟨bh, 1, none⟩ = some (.int .u64 (l1 hf)) ∧ w'.cell? ⟨bh, 2, none⟩ = some (.int .u64 (l2 hf)) ∧ w'.cell? ⟨bh, 3, none⟩ = some (.int .u64 (l3 hf))) (((try dsimp only); (repeat' (apply And.intro)); (all_goals repeat (first | with_reducible assumption | with_reducible apply cell_keep hb1 | with_reducible apply cell_alloc | (with_reducible refine cell_set ?_ (by with_reducible assumption)) | (simp [go_sem, *]; done)))))
      (first
        | (go_at_call 29; with_reducible refine (O6.out _ (by repeat (first | with_reducible exact QhD.out | with_reducible refine Mds.alloc ?_ _ | with_reducible refine Mds.drew ?_))).mono ?_; rintro e w1 ⟨rfl, hb1⟩; have hc1 := oldCells hb1; have hz1 := hb1.size; (try simp at hz1); (try (have := fun j => oldCells hb1 (W.heap.size) j (by first | omega | (simp; done) | (simp; omega)))); (try (have := fun j => oldCells hb1 (W.heap.size + 1) j (by first | omega | (simp; done) | (simp; omega)))); have _ : bx < w1.heap.size := (by omega); have _ : bx ≤ w1.heap.size := (by omega); have _ : bx < w1.heap.size + 1 := (by omega); have _ : bx < w1.heap.size + 1 + 1 := (by omega); have _ : bx ≠ w1.heap.size := (by omega); have _ : w1.heap.size ≠ bx := (by omega); have _ : bx ≠ w1.heap.size + 1 := (by omega); have _ : w1.heap.size + 1 ≠ bx := (by omega); have _ : ba < w1.heap.size := (by omega); have _ : ba ≤ w1.heap.size := (by omega); have _ : ba < w1.heap.size + 1 := (by omega); have _ : ba < w1.heap.size + 1 + 1 := (by omega); have _ : ba ≠ w1.heap.size := (by omega); have _ : w1.heap.size ≠ ba := (by omega); have _ : ba ≠ w1.heap.size + 1 := (by omega); have _ : w1.heap.size + 1 ≠ ba := (by omega); have _ : bb < w1.heap.size := (by omega); have _ : bb ≤ w1.heap.size := (by omega); have _ : bb < w1.heap.size + 1 := (by omega); have _ : bb < w1.heap.size + 1 + 1 := (by omega); have _ : bb ≠ w1.heap.size := (by omega); have _ : w1.heap.size ≠ bb := (by omega); have _ : bb ≠ w1.heap.size + 1 := (by omega); have _ : w1.heap.size + 1 ≠ bb := (by omega); have _ : bh < w1.heap.size := (by omega); have _ : bh ≤ w1.heap.size := (by omega); have _ : bh < w1.heap.size + 1 := (by omega); have _ : bh < w1.heap.size + 1 + 1 := (by omega); have _ : bh ≠ w1.heap.size := (by omega); have _ : w1.heap.size ≠ bh := (by omega); have _ : bh ≠ w1.heap.size + 1 := (by omega); have _ : w1.heap.size + 1 ≠ bh := (by omega); have _ : bt < w1.heap.size := (by omega); have _ : bt ≤ w1.heap.size := (by omega); have _ : bt < w1.heap.size + 1 := (by omega); have _ : bt < w1.heap.size + 1 + 1 := (by omega); have _ : bt ≠ w1.heap.size := (by omega); have _ : w1.heap.size ≠ bt := (by omega); have _ : bt ≠ w1.heap.size + 1 := (by omega); have _ : w1.heap.size + 1 ≠ bt := (by omega); have _ : 0 < w1.heap.size := (by omega); have _ : 0 ≤ w1.heap.size := (by omega); have _ : 0 < w1.heap.size + 1 := (by omega); have _ : 0 < w1.heap.size + 1 + 1 := (by omega); have _ : 0 ≠ w1.heap.size := (by omega); have _ : w1.heap.size ≠ 0 := (by omega); have _ : 0 ≠ w1.heap.size + 1 := (by omega); have _ : w1.heap.size + 1 ≠ 0 := (by omega); (try (have _ : W.heap.size < w1.heap.size := (by omega))); (try (have _ : W.heap.size ≤ w1.heap.size := (by omega))); (try (have _ : W.heap.size ≠ w1.heap.size := (by omega))); (try (have _ : w1.heap.size ≠ W.heap.size := (by omega))); (try (have _ : W.heap.size < w1.heap.size + 1 := (by omega))); (try (have _ : W.heap.size + 1 < w1.heap.size := (by omega))); (try (have _ : W.heap.size + 1 ≤ w1.heap.size := (by omega))); (try (have _ : W.heap.size + 1 ≠ w1.heap.size := (by omega))); (try (have _ : w1.heap.size ≠ W.heap.size + 1 := (by omega))); (try (have _ : W.heap.size + 1 < w1.heap.size + 1 := (by omega)))))
    all_goals (refine OutQ.intro ⟨_, ?_, ?_, ?_, ?_, ?_, ?_, ?_, ?_, rfl⟩)
    all_goals repeat (first | with_reducible exact BB.out | with_reducible exact QhD.out | with_reducible exact QhX.out | with_reducible exact QhA.out | with_reducible exact QhS.out | with_reducible exact QhH.out | with_reducible exact QhT.out | with_reducible refine Hold.fresh (by first | rfl | (simp; done) | fail) | with_reducible refine Hold.sets4 ?_ | with_reducible refine Var.new (by first | rfl | (simp; done) | fail) | with_reducible refine Hold.alloc ?_ _ | with_reducible refine Hold.drew ?_ | with_reducible refine Hold.set4 ?_ (by with_reducible assumption) _ _ _ _ | with_reducible refine HoldM.alloc ?_ _ | with_reducible refine HoldM.drew ?_ | with_reducible refine HoldM.set4 ?_ (by with_reducible assumption) _ _ _ _ | with_reducible refine Blank.alloc ?_ _ | with_reducible refine Blank.drew ?_ | with_reducible refine Blank.set4 ?_ (by with_reducible assumption) _ _ _ _ | with_reducible refine Smm.alloc ?_ _ | with_reducible refine Smm.drew ?_ | with_reducible refine Smm.set4 ?_ (by with_reducible assumption) _ _ _ _ | with_reducible refine Mds.alloc ?_ _ | with_reducible refine Mds.drew ?_ | with_reducible refine Mds.set4 ?_ (by with_reducible assumption) _ _ _ _ | with_reducible refine Var.alloc ?_ _ | with_reducible refine Var.set4 ?_ (by with_reducible assumption) _ _ _ _ | with_reducible refine below_alloc hbx ?_ _ | with_reducible refine Below.drew ?_ | with_reducible refine Below.setCell ?_ (by with_reducible assumption) _ | with_reducible refine Has.fresh (by first | rfl | (simp; done) | fail) (by first | (simp; done) | fail) | with_reducible refine Has.alloc ?_ _ | with_reducible refine Has.drew ?_ | with_reducible refine Has.keep ?_ hb1 | with_reducible refine Hold.keep ?_ hb1 | with_reducible refine HoldM.keep ?_ hb1 | with_reducible refine Blank.keep ?_ hb1 | with_reducible refine Smm.keep ?_ hb1 | with_reducible refine Mds.keep ?_ hb1 | with_reducible refine Var.keep ?_ hb1 | with_reducible refine below_then hbx ?_ hb1)
  rintro _ W ⟨bp, B, hD, hX, hA, hS, hH, hT, hP, rfl⟩
  subst hbx
  clear BB geB QhD QhX QhA QhS QhH QhT ghX ghS ghH lthD lthX lthA lthS lthH lthT
  go_wp2_with fail
  clear hH
  have lthD : 0 < W.heap.size := hD.lt
  have ghX := hX.cells
  have lthX : w.heap.size < W.heap.size := World.block_lt_of_cell? W _ hX.1
  have lthA : ba < W.heap.size := World.block_lt_of_cell? W _ hA.1
  have ghS := hS.1
  have lthS : bb < W.heap.size := hS.lt
  have ghT := hT.cells
  have lthT : bt < W.heap.size := World.block_lt_of_cell? W _ hT.1
  have lthP : bp < W.heap.size := World.block_lt_of_cell? W _ hP.1
  have BB : Hid (Below w.heap.size w W) := B
  have QhD : Hid (Mds W) := hD
  have QhX : Hid (Hold W w.heap.size x) := hX
  have QhA : Hid (Hold W ba a) := hA
  have QhS : Hid (Smm W bb k) := hS
  have QhT : Hid (Hold W bt rs) := hT
  have QhP : Hid (Hold W bp pv) := hP
  have geB : w.heap.size ≤ W.heap.size := B.size
  clear B hD hX hA hS hT hP
  generalize hbx : w.heap.size = bx at *
  refine wp_out (fun a' W' => ∃ bq, Below bx w W' ∧ Mds W' ∧ Hold W' bx x ∧ Hold W' ba a ∧ Smm W' bb k ∧ Hold W' bt rs ∧ Hold W' bp pv ∧ Hold W' bq qv ∧ a' = { tmps := #[.int .i64 v, .agg #[.int .u64 (l0 x), .int .u64 (l1 x), .int .u64 (l2 x), .int .u64 (l3 x)], .agg #[.int .u64 (l0 a), .int .u64 (l1 a), .int .u64 (l2 a), .int .u64 (l3 a)], Go.undef, .pointer (some { block := bx, off := 0 }), .pointer (some { block := ba, off := 0 }), .bool false, .pointer (some { block := bb, off := 0 }), .pointer (some { block := bm, off := 0 }), .int .i64 0, .pointer (some { block := br, off := 0 }), .int .i64 0, .pointer (some { block := bu, off := 0 }), .int .i64 0, .pointer (some { block := bk, off := 0 }), .int .i64 0, .pointer (some { block := bl, off := 0 }), .int .u64 z1, .pointer (some { block := bo, off := 0 }), .int .i64 0, .pointer (some { block := bh, off := 0 }), .pointer (some { block := bt, off := 0 }), .int .u64 0, .pointer (some { block := bp, off := 0 }), .int .i64 0, .pointer (some { block := bq, off := 0 }), .int .i64 0, Go.undef, Go.undef, .int .i64 v, .int .i64 k, .agg #[.int .i64 k, .bool false], .pointer (some { block := bb, off := 0 }), .tuple #[.agg #[.int .u64 (l0 m), .int .u64 (l1 m), .int .u64 (l2 m), .int .u64 (l3 m)], .int .i64 0], .pointer (some { block := bb, off := 0 }), .pointer (some { block := bb, off := 0 }), .pointer (some { block := bb, off := 0 }), .int .i64 k, .tuple #[.agg #[.int .u64 (l0 m), .int .u64 (l1 m), .int .u64 (l2 m), .int .u64 (l3 m)], .int .i64 0], .agg #[.int .u64 (l0 m), .int .u64 (l1 m), .int .u64 (l2 m), .int .u64 (l3 m)], .int .i64 0, .tuple #[.agg #[.int .u64 (l0 r), .int .u64 (l1 r), .int .u64 (l2 r), .int .u64 (l3 r)], .int .i64 0], .pointer (some { block := bb, off := 0 }), .pointer (some { block := bb, off := 0 }), .pointer (some { block := bb, off := 0 }), .int .i64 k, .agg #[.int .u64 0, .int .u64 0, .int .u64 0, .int .u64 0], .agg #[.int .u64 (l0 x), .int .u64 (l1 x), .int .u64 (l2 x), .int .u64 (l3 x)], .tuple #[.agg #[.int .u64 (l0 r), .int .u64 (l1 r), .int .u64 (l2 r), .int .u64 (l3 r)], .int .i64 0], .agg #[.int .u64 (l0 r), .int .u64 (l1 r), .int .u64 (l2 r), .int .u64 (l3 r)], .int .i64 0, .tuple #[.agg #[.int .u64 (l0 y), .int .u64 (l1 y), .int .u64 (l2 y), .int .u64 (l3 y)], .int .i64 0], .pointer (some { block := bb, off := 0 }), .pointer (some { block := bb, off := 0 }), .pointer (some { block := bb, off := 0 }), .int .i64 k, .agg #[.int .u64 (l0 x), .int .u64 (l1 x), .int .u64 (l2 x), .int .u64 (l3 x)], .tuple #[.agg #[.int .u64 (l0 y), .int .u64 (l1 y), .int .u64 (l2 y), .int .u64 (l3 y)], .int .i64 0], .agg #[.int .u64 (l0 y), .int .u64 (l1 y), .int .u64 (l2 y), .int .u64 (l3 y)], .int .i64 0, .int .i64 0, .bool false, .bool false, .int .i64 0, .bool false, .bool false, .agg #[.int .u64 (l0 r), .int .u64 (l1 r), .int .u64 (l2 r), .int .u64 (l3 r)], .agg #[.int .u64 0, .int .u64 0, .int .u64 0, .int .u64 0], .bool false, Go.undef, Go.undef, Go.undef, Go.undef, Go.undef, Go.undef, Go.undef, Go.undef, .tuple #[.agg #[.int .u64 (l0 r), .int .u64 (l1 r), .int .u64 (l2 r), .int .u64 (l3 r)], .int .i64 0], .pointer (some { block := bb, off := 0 }), .pointer (some { block := bb, off := 0 }), .pointer (some { block := bb, off := 0 }), .int .i64 k, .agg #[.int .u64 (l0 y), .int .u64 (l1 y), .int .u64 (l2 y), .int .u64 (l3 y)], .tuple #[.agg #[.int .u64 (l0 r), .int .u64 (l1 r), .int .u64 (l2 r), .int .u64 (l3 r)], .int .i64 0], .agg #[.int .u64 (l0 r), .int .u64 (l1 r), .int .u64 (l2 r), .int .u64 (l3 r)], .int .i64 0, .tuple #[.agg #[.int .u64 (l0 ls), .int .u64 (l1 ls), .int .u64 (l2 ls), .int .u64 (l3 ls)], .int .u64 z1], .agg #[.int .u64 (l0 m), .int .u64 (l1 m), .int .u64 (l2 m), .int .u64 (l3 m)], .agg #[.int .u64 (l0 1), .int .u64 (l1 1), .int .u64 (l2 1), .int .u64 (l3 1)], .tuple #[.agg #[.int .u64 (l0 ls), .int .u64 (l1 ls), .int .u64 (l2 ls), .int .u64 (l3 ls)], .int .u64 z1], .agg #[.int .u64 (l0 ls), .int .u64 (l1 ls), .int .u64 (l2 ls), .int .u64 (l3 ls)], .int .u64 z1, .tuple #[.agg #[.int .u64 (l0 1), .int .u64 (l1 1), .int .u64 (l2 1), .int .u64 (l3 1)], .int .i64 0], .pointer (some { block := bb, off := 0 }), .pointer (some { block := bb, off := 0 }), .pointer (some { block := bb, off := 0 }), .int .i64 k, .agg #[.int .u64 (l0 x), .int .u64 (l1 x), .int .u64 (l2 x), .int .u64 (l3 x)], .agg #[.int .u64 (l0 ls), .int .u64 (l1 ls), .int .u64 (l2 ls), .int .u64 (l3 ls)], .tuple #[.agg #[.int .u64 (l0 1), .int .u64 (l1 1), .int .u64 (l2 1), .int .u64 (l3 1)], .int .i64 0], .agg #[.int .u64 (l0 1), .int .u64 (l1 1), .int .u64 (l2 1), .int .u64 (l3 1)], .int .i64 0, .int .i64 0, .bool false, .bool false, .int .i64 0, .bool false, .bool false, .bool false, .int .i64 0, .bool false, .bool false, .bool false, .pointer (some { block := bb, off := 0 }), .agg #[.int .u64 (l0 x), .int .u64 (l1 x), .int .u64 (l2 x), .int .u64 (l3 x)], .agg #[.int .u64 (l0 y), .int .u64 (l1 y), .int .u64 (l2 y), .int .u64 (l3 y)], .agg #[.int .u64 (l0 1), .int .u64 (l1 1), .int .u64 (l2 1), .int .u64 (l3 1)], .agg #[.int .u64 (l0 1), .int .u64 (l1 1), .int .u64 (l2 1), .int .u64 (l3 1)], .bool false, .bool false, .bool false, .agg #[.int .u64 (l0 r), .int .u64 (l1 r), .int .u64 (l2 r), .int .u64 (l3 r)], .agg #[.int .u64 (l0 r), .int .u64 (l1 r), .int .u64 (l2 r), .int .u64 (l3 r)], .bool false, .bool false, .bool false, .agg #[.int .u64 (l0 1), .int .u64 (l1 1), .int .u64 (l2 1), .int .u64 (l3 1)], .agg #[.int .u64 (l0 1), .int .u64 (l1 1), .int .u64 (l2 1), .int .u64 (l3 1)], .bool false, .bool false, .agg #[.int .u64 (l0 a), .int .u64 (l1 a), .int .u64 (l2 a), .int .u64 (l3 a)], .agg #[.int .u64 (l0 hf), .int .u64 (l1 hf), .int .u64 (l2 hf), .int .u64 (l3 hf)], .tuple #[.agg #[.int .u64 (l0 rs), .int .u64 (l1 rs), .int .u64 (l2 rs), .int .u64 (l3 rs)], .int .u64 0], .agg #[.int .u64 (l0 a), .int .u64 (l1 a), .int .u64 (l2 a), .int .u64 (l3 a)], .agg #[.int .u64 (l0 hf), .int .u64 (l1 hf), .int .u64 (l2 hf), .int .u64 (l3 hf)], .tuple #[.agg #[.int .u64 (l0 rs), .int .u64 (l1 rs), .int .u64 (l2 rs), .int .u64 (l3 rs)], .int .u64 0], .agg #[.int .u64 (l0 rs), .int .u64 (l1 rs), .int .u64 (l2 rs), .int .u64 (l3 rs)], .int .u64 0, .tuple #[.agg #[.int .u64 (l0 pv), .int .u64 (l1 pv), .int .u64 (l2 pv), .int .u64 (l3 pv)], .int .i64 0], .pointer (some { block := bb, off := 0 }), .pointer (some { block := bb, off := 0 }), .pointer (some { block := bb, off := 0 }), .int .i64 k, .agg #[.int .u64 (l0 x), .int .u64 (l1 x), .int .u64 (l2 x), .int .u64 (l3 x)], .agg #[.int .u64 (l0 hf), .int .u64 (l1 hf), .int .u64 (l2 hf), .int .u64 (l3 hf)], .tuple #[.agg #[.int .u64 (l0 pv), .int .u64 (l1 pv), .int .u64 (l2 pv), .int .u64 (l3 pv)], .int .i64 0], .agg #[.int .u64 (l0 pv), .int .u64 (l1 pv), .int .u64 (l2 pv), .int .u64 (l3 pv)], .int .i64 0, .tuple #[.agg #[.int .u64 (l0 qv), .int .u64 (l1 qv), .int .u64 (l2 qv), .int .u64 (l3 qv)], .int .i64 0], .pointer (some { block := bb, off := 0 }), .pointer (some { block := bb, off := 0 }), .pointer (some { block := bb, off := 0 }), .int .i64 k, .agg #[.int .u64 (l0 x), .int .u64 (l1 x), .int .u64 (l2 x), .int .u64 (l3 x)], .agg #[.int .u64 (l0 rs), .int .u64 (l1 rs), .int .u64 (l2 rs), .int .u64 (l3 rs)], .tuple #[.agg #[.int .u64 (l0 qv), .int .u64 (l1 qv), .int .u64 (l2 qv), .int .u64 (l3 qv)], .int .i64 0], .agg #[.int .u64 (l0 qv), .int .u64 (l1 qv), .int .u64 (l2 qv), .int .u64 (l3 qv)], .int .i64 0, Go.undef, Go.undef, Go.undef, Go.undef, Go.undef, Go.undef, Go.undef, Go.undef, Go.undef, Go.undef, Go.undef, Go.undef, Go.undef, Go.undef, Go.undef, Go.undef, Go.undef, Go.undef, Go.undef, Go.undef, Go.undef, Go.undef, Go.undef, Go.undef, Go.undef, Go.undef, Go.undef, Go.undef, Go.undef, Go.undef, Go.undef, Go.undef, Go.undef, Go.undef, Go.undef, Go.undef, Go.undef, Go.undef, Go.undef], defers := [] }) ?_ ?_
  · have dz : W.drew.heap.size = W.heap.size := rfl
    have _ : bx < W.heap.size := by omega
    have _ : bx ≤ W.heap.size := by omega
    have _ : bx < W.heap.size + 1 := by omega
    have _ : bx < W.heap.size + 1 + 1 := by omega
    have _ : bx ≠ W.heap.size := by omega
    have _ : W.heap.size ≠ bx := by omega
    have _ : bx ≠ W.heap.size + 1 := by omega
    have _ : W.heap.size + 1 ≠ bx := by omega
    have _ : ba < W.heap.size := by omega
    have _ : ba ≤ W.heap.size := by omega
    have _ : ba < W.heap.size + 1 := by omega
    have _ : ba < W.heap.size + 1 + 1 := by omega
    have _ : ba ≠ W.heap.size := by omega
    have _ : W.heap.size ≠ ba := by omega
    have _ : ba ≠ W.heap.size + 1 := by omega
    have _ : W.heap.size + 1 ≠ ba := by omega
    have _ : bb < W.heap.size := by omega
    have _ : bb ≤ W.heap.size := by omega
    have _ : bb < W.heap.size + 1 := by omega
    have _ : bb < W.heap.size + 1 + 1 := by omega
    have _ : bb ≠ W.heap.size := by omega
    have _ : W.heap.size ≠ bb := by omega
    have _ : bb ≠ W.heap.size + 1 := by omega
    have _ : W.heap.size + 1 ≠ bb := by omega
    have _ : bt < W.heap.size := by omega
    have _ : bt ≤ W.heap.size := by omega
    have _ : bt < W.heap.size + 1 := by omega
    have _ : bt < W.heap.size + 1 + 1 := by omega
    have _ : bt ≠ W.heap.size := by omega
    have _ : W.heap.size ≠ bt := by omega
    have _ : bt ≠ W.heap.size + 1 := by omega
    have _ : W.heap.size + 1 ≠ bt := by omega
    have _ : bp < W.heap.size := by omega
    have _ : bp ≤ W.heap.size := by omega
    have _ : bp < W.heap.size + 1 := by omega
    have _ : bp < W.heap.size + 1 + 1 := by omega
    have _ : bp ≠ W.heap.size := by omega
    have _ : W.heap.size ≠ bp := by omega
    have _ : bp ≠ W.heap.size + 1 := by omega
    have _ : W.heap.size + 1 ≠ bp := by omega
    have _ : 0 < W.heap.size := by omega
    have _ : 0 ≤ W.heap.size := by omega
    have _ : 0 < W.heap.size + 1 := by omega
    have _ : 0 < W.heap.size + 1 + 1 := by omega
    have _ : 0 ≠ W.heap.size := by omega
    have _ : W.heap.size ≠ 0 := by omega
    have _ : 0 ≠ W.heap.size + 1 := by omega
    have _ : W.heap.size + 1 ≠ 0 := by omega
    go_region_held3 (fun w' => w'.cell? ⟨bx, 0, none⟩ = some (.int .u64 (l0 x)) ∧ w'.cell? ⟨bx, 1, none⟩ = some (.int .u64 (l1 x)) ∧ w'.cell? ⟨bx, 2, none⟩ = some (.int .u64 (l2 x)) ∧ w'.cell? ⟨bx, 3, none⟩ = some (.int .u64 (l3 x)) ∧ w'.cell? ⟨bb, 0, none⟩ = some (.int .i64 k) ∧ w'.cell? ⟨bt, 0, none⟩ = some (.int .u64 (l0 rs)) ∧ w'.cell? ⟨bt, 1, none⟩ = some (.int .u64 (l1 rs)) ∧ w'.cell? ⟨bt, 2, none⟩ = some (.int .u64 (l2 rs)) ∧ w'.cell? ⟨bt, 3, none⟩ = some (.int .u64 (l3 rs))) (((try dsimp only); (repeat' (apply And.intro)); (all_goals repeat (first | with_reducible assumption | with_reducible apply cell_keep hb1 | with_reducible apply cell_alloc | (with_reducible refine cell_set ?_ (by with_reducible assumption)) | (simp [go_sem, *]; done)))))
      (first
        | (go_at_call 29; with_reducible refine (O7.out _ (by repeat (first | with_reducible exact QhD.out | with_reducible refine Mds.alloc ?_ _ | with_reducible refine Mds.drew ?_))).mono ?_; rintro e w1 ⟨rfl, hb1⟩; have hc1 := oldCells hb1; have hz1 := hb1.size; (try simp at hz1); (try (have := fun j => oldCells hb1 (W.heap.size) j (by first | omega | (simp; done) | (simp; omega)))); (try (have := fun j => oldCells hb1 (W.heap.size + 1) j (by first | omega | (simp; done) | (simp; omega)))); have _ : bx < w1.heap.size := (by omega); have _ : bx ≤ w1.heap.size := (by omega); have _ : bx < w1.heap.size + 1 := (by omega); have _ : bx < w1.heap.size + 1 + 1 := (by omega); have _ : bx ≠ w1.heap.size := (by omega); have _ : w1.heap.size ≠ bx := (by omega); have _ : bx ≠ w1.heap.size + 1 := (by omega); have _ : w1.heap.size + 1 ≠ bx := (by omega); have _ : ba < w1.heap.size := (by omega); have _ : ba ≤ w1.heap.size := (by omega); have _ : ba < w1.heap.size + 1 := (by omega); have _ : ba < w1.heap.size + 1 + 1 := (by omega); have _ : ba ≠ w1.heap.size := (by omega); have _ : w1.heap.size ≠ ba := (by omega); have _ : ba ≠ w1.heap.size + 1 := (by omega); have _ : w1.heap.size + 1 ≠ ba := (by omega); have _ : bb < w1.heap.size := (by omega); have _ : bb ≤ w1.heap.size := (by omega); have _ : bb < w1.heap.size + 1 := (by omega); have _ : bb < w1.heap.size + 1 + 1 := (by omega); have _ : bb ≠ w1.heap.size := (by omega); have _ : w1.heap.size ≠ bb := (by omega); have _ : bb ≠ w1.heap.size + 1 := (by omega); have _ : w1.heap.size + 1 ≠ bb := (by omega); have _ : bt < w1.heap.size := (by omega); have _ : bt ≤ w1.heap.size := (by omega); have _ : bt < w1.heap.size + 1 := (by omega); have _ : bt < w1.heap.size + 1 + 1 := (by omega); have _ : bt ≠ w1.heap.size := (by omega); have _ : w1.heap.size ≠ bt := (by omega); have _ : bt ≠ w1.heap.size + 1 := (by omega); have _ : w1.heap.size + 1 ≠ bt := (by omega); have _ : bp < w1.heap.size := (by omega); have _ : bp ≤ w1.heap.size := (by omega); have _ : bp < w1.heap.size + 1 := (by omega); have _ : bp < w1.heap.size + 1 + 1 := (by omega); have _ : bp ≠ w1.heap.size := (by omega); have _ : w1.heap.size ≠ bp := (by omega); have _ : bp ≠ w1.heap.size + 1 := (by omega); have _ : w1.heap.size + 1 ≠ bp := (by omega); have _ : 0 < w1.heap.size := (by omega); have _ : 0 ≤ w1.heap.size := (by omega); have _ : 0 < w1.heap.size + 1 := (by omega); have _ : 0 < w1.heap.size + 1 + 1 := (by omega); have _ : 0 ≠ w1.heap.size := (by omega); have _ : w1.heap.size ≠ 0 := (by omega); have _ : 0 ≠ w1.heap.size + 1 := (by omega); have _ : w1.heap.size + 1 ≠ 0 := (by omega); (try (have _ : W.heap.size < w1.heap.size := (by omega))); (try (have _ : W.heap.size ≤ w1.heap.size := (by omega))); (try (have _ : W.heap.size ≠ w1.heap.size := (by omega))); (try (have _ : w1.heap.size ≠ W.heap.size := (by omega))); (try (have _ : W.heap.size < w1.heap.size + 1 := (by omega))); (try (have _ : W.heap.size + 1 < w1.heap.size := (by omega))); (try (have _ : W.heap.size + 1 ≤ w1.heap.size := (by omega))); (try (have _ : W.heap.size + 1 ≠ w1.heap.size := (by omega))); (try (have _ : w1.heap.size ≠ W.heap.size + 1 := (by omega))); (try (have _ : W.heap.size + 1 < w1.heap.size + 1 := (by omega)))))
    all_goals (refine OutQ.intro ⟨_, ?_, ?_, ?_, ?_, ?_, ?_, ?_, ?_, rfl⟩)
    all_goals repeat (first | with_reducible exact BB.out | with_reducible exact QhD.out | with_reducible exact QhX.out | with_reducible exact QhA.out | with_reducible exact QhS.out | with_reducible exact QhT.out | with_reducible exact QhP.out | with_reducible refine Hold.fresh (by first | rfl | (simp; done) | fail) | with_reducible refine Hold.sets4 ?_ | with_reducible refine Var.new (by first | rfl | (simp; done) | fail) | with_reducible refine Hold.alloc ?_ _ | with_reducible refine Hold.drew ?_ | with_reducible refine Hold.set4 ?_ (by with_reducible assumption) _ _ _ _ | with_reducible refine HoldM.alloc ?_ _ | with_reducible refine HoldM.drew ?_ | with_reducible refine HoldM.set4 ?_ (by with_reducible assumption) _ _ _ _ | with_reducible refine Blank.alloc ?_ _ | with_reducible refine Blank.drew ?_ | with_reducible refine Blank.set4 ?_ (by with_reducible assumption) _ _ _ _ | with_reducible refine Smm.alloc ?_ _ | with_reducible refine Smm.drew ?_ | with_reducible refine Smm.set4 ?_ (by with_reducible assumption) _ _ _ _ | with_reducible refine Mds.alloc ?_ _ | with_reducible refine Mds.drew ?_ | with_reducible refine Mds.set4 ?_ (by with_reducible assumption) _ _ _ _ | with_reducible refine Var.alloc ?_ _ | with_reducible refine Var.set4 ?_ (by with_reducible assumption) _ _ _ _ | with_reducible refine below_alloc hbx ?_ _ | with_reducible refine Below.drew ?_ | with_reducible refine Below.setCell ?_ (by with_reducible assumption) _ | with_reducible refine Has.fresh (by first | rfl | (simp; done) | fail) (by first | (simp; done) | fail) | with_reducible refine Has.alloc ?_ _ | with_reducible refine Has.drew ?_ | with_reducible refine Has.keep ?_ hb1 | with_reducible refine Hold.keep ?_ hb1 | with_reducible refine HoldM.keep ?_ hb1 | with_reducible refine Blank.keep ?_ hb1 | with_reducible refine Smm.keep ?_ hb1 | with_reducible refine Mds.keep ?_ hb1 | with_reducible refine Var.keep ?_ hb1 | with_reducible refine below_then hbx ?_ hb1)
  rintro _ W ⟨bq, B, hD, hX, hA, hS, hT, hP, hQ, rfl⟩
  subst hbx
  clear BB geB QhD QhX QhA QhS QhT QhP ghX ghS ghT lthD lthX lthA lthS lthT lthP
  go_wp2_with fail
  clear hT
  have lthD : 0 < W.heap.size := hD.lt
  have ghX := hX.cells
  have lthX : w.heap.size < W.heap.size := World.block_lt_of_cell? W _ hX.1
  have ghA := hA.cells
  have lthA : ba < W.heap.size := World.block_lt_of_cell? W _ hA.1
  have ghS := hS.1
  have lthS : bb < W.heap.size := hS.lt
  have lthP : bp < W.heap.size := World.block_lt_of_cell? W _ hP.1
  have lthQ : bq < W.heap.size := World.block_lt_of_cell? W _ hQ.1
  have BB : Hid (Below w.heap.size w W) := B
  have QhD : Hid (Mds W) := hD
  have QhX : Hid (Hold W w.heap.size x) := hX
  have QhA : Hid (Hold W ba a) := hA
  have QhS : Hid (Smm W bb k) := hS
  have QhP : Hid (Hold W bp pv) := hP
  have QhQ : Hid (Hold W bq qv) := hQ
  have geB : w.heap.size ≤ W.heap.size := B.size
  clear B hD hX hA hS hP hQ
  generalize hbx : w.heap.size = bx at *
  refine wp_out (fun a' W' => ∃ bv, Below bx w W' ∧ Mds W' ∧ Hold W' bx x ∧ Hold W' ba a ∧ Smm W' bb k ∧ Hold W' bp pv ∧ Hold W' bq qv ∧ Hold W' bv wv ∧ a' = { tmps := #[.int .i64 v, .agg #[.int .u64 (l0 x), .int .u64 (l1 x), .int .u64 (l2 x), .int .u64 (l3 x)], .agg #[.int .u64 (l0 a), .int .u64 (l1 a), .int .u64 (l2 a), .int .u64 (l3 a)], Go.undef, .pointer (some { block := bx, off := 0 }), .pointer (some { block := ba, off := 0 }), .bool false, .pointer (some { block := bb, off := 0 }), .pointer (some { block := bm, off := 0 }), .int .i64 0, .pointer (some { block := br, off := 0 }), .int .i64 0, .pointer (some { block := bu, off := 0 }), .int .i64 0, .pointer (some { block := bk, off := 0 }), .int .i64 0, .pointer (some { block := bl, off := 0 }), .int .u64 z1, .pointer (some { block := bo, off := 0 }), .int .i64 0, .pointer (some { block := bh, off := 0 }), .pointer (some { block := bt, off := 0 }), .int .u64 0, .pointer (some { block := bp, off := 0 }), .int .i64 0, .pointer (some { block := bq, off := 0 }), .int .i64 0, .pointer (some { block := bv, off := 0 }), .int .i64 0, .int .i64 v, .int .i64 k, .agg #[.int .i64 k, .bool false], .pointer (some { block := bb, off := 0 }), .tuple #[.agg #[.int .u64 (l0 m), .int .u64 (l1 m), .int .u64 (l2 m), .int .u64 (l3 m)], .int .i64 0], .pointer (some { block := bb, off := 0 }), .pointer (some { block := bb, off := 0 }), .pointer (some { block := bb, off := 0 }), .int .i64 k, .tuple #[.agg #[.int .u64 (l0 m), .int .u64 (l1 m), .int .u64 (l2 m), .int .u64 (l3 m)], .int .i64 0], .agg #[.int .u64 (l0 m), .int .u64 (l1 m), .int .u64 (l2 m), .int .u64 (l3 m)], .int .i64 0, .tuple #[.agg #[.int .u64 (l0 r), .int .u64 (l1 r), .int .u64 (l2 r), .int .u64 (l3 r)], .int .i64 0], .pointer (some { block := bb, off := 0 }), .pointer (some { block := bb, off := 0 }), .pointer (some { block := bb, off := 0 }), .int .i64 k, .agg #[.int .u64 0, .int .u64 0, .int .u64 0, .int .u64 0], .agg #[.int .u64 (l0 x), .int .u64 (l1 x), .int .u64 (l2 x), .int .u64 (l3 x)], .tuple #[.agg #[.int .u64 (l0 r), .int .u64 (l1 r), .int .u64 (l2 r), .int .u64 (l3 r)], .int .i64 0], .agg #[.int .u64 (l0 r), .int .u64 (l1 r), .int .u64 (l2 r), .int .u64 (l3 r)], .int .i64 0, .tuple #[.agg #[.int .u64 (l0 y), .int .u64 (l1 y), .int .u64 (l2 y), .int .u64 (l3 y)], .int .i64 0], .pointer (some { block := bb, off := 0 }), .pointer (some { block := bb, off := 0 }), .pointer (some { block := bb, off := 0 }), .int .i64 k, .agg #[.int .u64 (l0 x), .int .u64 (l1 x), .int .u64 (l2 x), .int .u64 (l3 x)], .tuple #[.agg #[.int .u64 (l0 y), .int .u64 (l1 y), .int .u64 (l2 y), .int .u64 (l3 y)], .int .i64 0], .agg #[.int .u64 (l0 y), .int .u64 (l1 y), .int .u64 (l2 y), .int .u64 (l3 y)], .int .i64 0, .int .i64 0, .bool false, .bool false, .int .i64 0, .bool false, .bool false, .agg #[.int .u64 (l0 r), .int .u64 (l1 r), .int .u64 (l2 r), .int .u64 (l3 r)], .agg #[.int .u64 0, .int .u64 0, .int .u64 0, .int .u64 0], .bool false, Go.undef, Go.undef, Go.undef, Go.undef, Go.undef, Go.undef, Go.undef, Go.undef, .tuple #[.agg #[.int .u64 (l0 r), .int .u64 (l1 r), .int .u64 (l2 r), .int .u64 (l3 r)], .int .i64 0], .pointer (some { block := bb, off := 0 }), .pointer (some { block := bb, off := 0 }), .pointer (some { block := bb, off := 0 }), .int .i64 k, .agg #[.int .u64 (l0 y), .int .u64 (l1 y), .int .u64 (l2 y), .int .u64 (l3 y)], .tuple #[.agg #[.int .u64 (l0 r), .int .u64 (l1 r), .int .u64 (l2 r), .int .u64 (l3 r)], .int .i64 0], .agg #[.int .u64 (l0 r), .int .u64 (l1 r), .int .u64 (l2 r), .int .u64 (l3 r)], .int .i64 0, .tuple #[.agg #[.int .u64 (l0 ls), .int .u64 (l1 ls), .int .u64 (l2 ls), .int .u64 (l3 ls)], .int .u64 z1], .agg #[.int .u64 (l0 m), .int .u64 (l1 m), .int .u64 (l2 m), .int .u64 (l3 m)], .agg #[.int .u64 (l0 1), .int .u64 (l1 1), .int .u64 (l2 1), .int .u64 (l3 1)], .tuple #[.agg #[.int .u64 (l0 ls), .int .u64 (l1 ls), .int .u64 (l2 ls), .int .u64 (l3 ls)], .int .u64 z1], .agg #[.int .u64 (l0 ls), .int .u64 (l1 ls), .int .u64 (l2 ls), .int .u64 (l3 ls)], .int .u64 z1, .tuple #[.agg #[.int .u64 (l0 1), .int .u64 (l1 1), .int .u64 (l2 1), .int .u64 (l3 1)], .int .i64 0], .pointer (some { block := bb, off := 0 }), .pointer (some { block := bb, off := 0 }), .pointer (some { block := bb, off := 0 }), .int .i64 k, .agg #[.int .u64 (l0 x), .int .u64 (l1 x), .int .u64 (l2 x), .int .u64 (l3 x)], .agg #[.int .u64 (l0 ls), .int .u64 (l1 ls), .int .u64 (l2 ls), .int .u64 (l3 ls)], .tuple #[.agg #[.int .u64 (l0 1), .int .u64 (l1 1), .int .u64 (l2 1), .int .u64 (l3 1)], .int .i64 0], .agg #[.int .u64 (l0 1), .int .u64 (l1 1), .int .u64 (l2 1), .int .u64 (l3 1)], .int .i64 0, .int .i64 0, .bool false, .bool false, .int .i64 0, .bool false, .bool false, .bool false, .int .i64 0, .bool false, .bool false, .bool false, .pointer (some { block := bb, off := 0 }), .agg #[.int .u64 (l0 x), .int .u64 (l1 x), .int .u64 (l2 x), .int .u64 (l3 x)], .agg #[.int .u64 (l0 y), .int .u64 (l1 y), .int .u64 (l2 y), .int .u64 (l3 y)], .agg #[.int .u64 (l0 1), .int .u64 (l1 1), .int .u64 (l2 1), .int .u64 (l3 1)], .agg #[.int .u64 (l0 1), .int .u64 (l1 1), .int .u64 (l2 1), .int .u64 (l3 1)], .bool false, .bool false, .bool false, .agg #[.int .u64 (l0 r), .int .u64 (l1 r), .int .u64 (l2 r), .int .u64 (l3 r)], .agg #[.int .u64 (l0 r), .int .u64 (l1 r), .int .u64 (l2 r), .int .u64 (l3 r)], .bool false, .bool false, .bool false, .agg #[.int .u64 (l0 1), .int .u64 (l1 1), .int .u64 (l2 1), .int .u64 (l3 1)], .agg #[.int .u64 (l0 1), .int .u64 (l1 1), .int .u64 (l2 1), .int .u64 (l3 1)], .bool false, .bool false, .agg #[.int .u64 (l0 a), .int .u64 (l1 a), .int .u64 (l2 a), .int .u64 (l3 a)], .agg #[.int .u64 (l0 hf), .int .u64 (l1 hf), .int .u64 (l2 hf), .int .u64 (l3 hf)], .tuple #[.agg #[.int .u64 (l0 rs), .int .u64 (l1 rs), .int .u64 (l2 rs), .int .u64 (l3 rs)], .int .u64 0], .agg #[.int .u64 (l0 a), .int .u64 (l1 a), .int .u64 (l2 a), .int .u64 (l3 a)], .agg #[.int .u64 (l0 hf), .int .u64 (l1 hf), .int .u64 (l2 hf), .int .u64 (l3 hf)], .tuple #[.agg #[.int .u64 (l0 rs), .int .u64 (l1 rs), .int .u64 (l2 rs), .int .u64 (l3 rs)], .int .u64 0], .agg #[.int .u64 (l0 rs), .int .u64 (l1 rs), .int .u64 (l2 rs), .int .u64 (l3 rs)], .int .u64 0, .tuple #[.agg #[.int .u64 (l0 pv), .int .u64 (l1 pv), .int .u64 (l2 pv), .int .u64 (l3 pv)], .int .i64 0], .pointer (some { block := bb, off := 0 }), .pointer (some { block := bb, off := 0 }), .pointer (some { block := bb, off := 0 }), .int .i64 k, .agg #[.int .u64 (l0 x), .int .u64 (l1 x), .int .u64 (l2 x), .int .u64 (l3 x)], .agg #[.int .u64 (l0 hf), .int .u64 (l1 hf), .int .u64 (l2 hf), .int .u64 (l3 hf)], .tuple #[.agg #[.int .u64 (l0 pv), .int .u64 (l1 pv), .int .u64 (l2 pv), .int .u64 (l3 pv)], .int .i64 0], .agg #[.int .u64 (l0 pv), .int .u64 (l1 pv), .int .u64 (l2 pv), .int .u64 (l3 pv)], .int .i64 0, .tuple #[.agg #[.int .u64 (l0 qv), .int .u64 (l1 qv), .int .u64 (l2 qv), .int .u64 (l3 qv)], .int .i64 0], .pointer (some { block := bb, off := 0 }), .pointer (some { block := bb, off := 0 }), .pointer (some { block := bb, off := 0 }), .int .i64 k, .agg #[.int .u64 (l0 x), .int .u64 (l1 x), .int .u64 (l2 x), .int .u64 (l3 x)], .agg #[.int .u64 (l0 rs), .int .u64 (l1 rs), .int .u64 (l2 rs), .int .u64 (l3 rs)], .tuple #[.agg #[.int .u64 (l0 qv), .int .u64 (l1 qv), .int .u64 (l2 qv), .int .u64 (l3 qv)], .int .i64 0], .agg #[.int .u64 (l0 qv), .int .u64 (l1 qv), .int .u64 (l2 qv), .int .u64 (l3 qv)], .int .i64 0, .tuple #[.agg #[.int .u64 (l0 wv), .int .u64 (l1 wv), .int .u64 (l2 wv), .int .u64 (l3 wv)], .int .i64 0], .pointer (some { block := bb, off := 0 }), .pointer (some { block := bb, off := 0 }), .pointer (some { block := bb, off := 0 }), .int .i64 k, .agg #[.int .u64 (l0 x), .int .u64 (l1 x), .int .u64 (l2 x), .int .u64 (l3 x)], .agg #[.int .u64 (l0 a), .int .u64 (l1 a), .int .u64 (l2 a), .int .u64 (l3 a)], .tuple #[.agg #[.int .u64 (l0 wv), .int .u64 (l1 wv), .int .u64 (l2 wv), .int .u64 (l3 wv)], .int .i64 0], .agg #[.int .u64 (l0 wv), .int .u64 (l1 wv), .int .u64 (l2 wv), .int .u64 (l3 wv)], .int .i64 0, Go.undef, Go.undef, Go.undef, Go.undef, Go.undef, Go.undef, Go.undef, Go.undef, Go.undef, Go.undef, Go.undef, Go.undef, Go.undef, Go.undef, Go.undef, Go.undef, Go.undef, Go.undef, Go.undef, Go.undef, Go.undef, Go.undef, Go.undef, Go.undef, Go.undef, Go.undef, Go.undef, Go.undef, Go.undef], defers := [] }) ?_ ?_
  · have dz : W.drew.heap.size = W.heap.size := rfl
    have _ : bx < W.heap.size := by omega
    have _ : bx ≤ W.heap.size := by omega
    have _ : bx < W.heap.size + 1 := by omega
    have _ : bx < W.heap.size + 1 + 1 := by omega
    have _ : bx ≠ W.heap.size := by omega
    have _ : W.heap.size ≠ bx := by omega
    have _ : bx ≠ W.heap.size + 1 := by omega
    have _ : W.heap.size + 1 ≠ bx := by omega
    have _ : ba < W.heap.size := by omega
    have _ : ba ≤ W.heap.size := by omega
    have _ : ba < W.heap.size + 1 := by omega
    have _ : ba < W.heap.size + 1 + 1 := by omega
    have _ : ba ≠ W.heap.size := by omega
    have _ : W.heap.size ≠ ba := by omega
    have _ : ba ≠ W.heap.size + 1 := by omega
    have _ : W.heap.size + 1 ≠ ba := by omega
    have _ : bb < W.heap.size := by omega
    have _ : bb ≤ W.heap.size := by omega
    have _ : bb < W.heap.size + 1 := by omega
    have _ : bb < W.heap.size + 1 + 1 := by omega
    have _ : bb ≠ W.heap.size := by omega
    have _ : W.heap.size ≠ bb := by omega
    have _ : bb ≠ W.heap.size + 1 := by omega
    have _ : W.heap.size + 1 ≠ bb := by omega
    have _ : bp < W.heap.size := by omega
    have _ : bp ≤ W.heap.size := by omega
    have _ : bp < W.heap.size + 1 := by omega
    have _ : bp < W.heap.size + 1 + 1 := by omega
    have _ : bp ≠ W.heap.size := by omega
    have _ : W.heap.size ≠ bp := by omega
    have _ : bp ≠ W.heap.size + 1 := by omega
    have _ : W.heap.size + 1 ≠ bp := by omega
    have _ : bq < W.heap.size := by omega
    have _ : bq ≤ W.heap.size := by omega
    have _ : bq < W.heap.size + 1 := by omega
    have _ : bq < W.heap.size + 1 + 1 := by omega
    have _ : bq ≠ W.heap.size := by omega
    have _ : W.heap.size ≠ bq := by omega
    have _ : bq ≠ W.heap.size + 1 := by omega
    have _ : W.heap.size + 1 ≠ bq := by omega
    have _ : 0 < W.heap.size := by omega
    have _ : 0 ≤ W.heap.size := by omega
    have _ : 0 < W.heap.size + 1 := by omega
    have _ : 0 < W.heap.size + 1 + 1 := by omega
    have _ : 0 ≠ W.heap.size := by omega
    have _ : W.heap.size ≠ 0 := by omega
    have _ : 0 ≠ W.heap.size + 1 := by omega
    have _ : W.heap.size + 1 ≠ 0 := by omega
    go_region_held3 (fun w' => w'.cell? ⟨bx, 0, none⟩ = some (.int .u64 (l0 x)) ∧ w'.cell? ⟨bx, 1, none⟩ = some (.int .u64 (l1 x)) ∧ w'.cell? ⟨bx, 2, none⟩ = some (.int .u64 (l2 x)) ∧ w'.cell? ⟨bx, 3, none⟩ = some (.int .u64 (l3 x)) ∧ w'.cell? ⟨ba, 0, none⟩ = some (.int .u64 (l0 a)) ∧ w'.cell? ⟨ba, 1, none⟩ = some (.int .u64 (l1 a)) ∧ w'.cell? ⟨ba, 2, none⟩ = some (.int .u64 (l2 a)) ∧ w'.cell? ⟨ba, 3, none⟩ = some (.int .u64 (l3 a)) ∧ w'.cell? ⟨bb, 0, none⟩ = some (.int .i64 k)) (((try dsimp only); (repeat' (apply And.intro)); (all_goals repeat (first | with_reducible assumption | with_reducible apply cell_keep hb1 | with_reducible apply cell_alloc | (with_reducible refine cell_set ?_ (by with_reducible assumption)) | (simp [go_sem, *]; done)))))
      (first
        | (go_at_call 29; with_reducible refine (O8.out _ (by repeat (first | with_reducible exact QhD.out | with_reducible refine Mds.alloc ?_ _ | with_reducible refine Mds.drew ?_))).mono ?_; rintro e w1 ⟨rfl, hb1⟩; have hc1 := oldCells hb1; have hz1 := hb1.size; (try simp at hz1); (try (have := fun j => oldCells hb1 (W.heap.size) j (by first | omega | (simp; done) | (simp; omega)))); (try (have := fun j => oldCells hb1 (W.heap.size + 1) j (by first | omega | (simp; done) | (simp; omega)))); have _ : bx < w1.heap.size := (by omega); have _ : bx ≤ w1.heap.size := (by omega); have _ : bx < w1.heap.size + 1 := (by omega); have _ : bx < w1.heap.size + 1 + 1 := (by omega); have _ : bx ≠ w1.heap.size := (by omega); have _ : w1.heap.size ≠ bx := (by omega); have _ : bx ≠ w1.heap.size + 1 := (by omega); have _ : w1.heap.size + 1 ≠ bx := (by omega); have _ : ba < w1.heap.size := (by omega); have _ : ba ≤ w1.heap.size := (by omega); have _ : ba < w1.heap.size + 1 := (by omega); have _ : ba < w1.heap.size + 1 + 1 := (by omega); have _ : ba ≠ w1.heap.size := (by omega); have _ : w1.heap.size ≠ ba := (by omega); have _ : ba ≠ w1.heap.size + 1 := (by omega); have _ : w1.heap.size + 1 ≠ ba := (by omega); have _ : bb < w1.heap.size := (by omega); have _ : bb ≤ w1.heap.size := (by omega); have _ : bb < w1.heap.size + 1 := (by omega); have _ : bb < w1.heap.size + 1 + 1 := (by omega); have _ : bb ≠ w1.heap.size := (by omega); have _ : w1.heap.size ≠ bb := (by omega); have _ : bb ≠ w1.heap.size + 1 := (by omega); have _ : w1.heap.size + 1 ≠ bb := (by omega); have _ : bp < w1.heap.size := (by omega); have _ : bp ≤ w1.heap.size := (by omega); have _ : bp < w1.heap.size + 1 := (by omega); have _ : bp < w1.heap.size + 1 + 1 := (by omega); have _ : bp ≠ w1.heap.size := (by omega); have _ : w1.heap.size ≠ bp := (by omega); have _ : bp ≠ w1.heap.size + 1 := (by omega); have _ : w1.heap.size + 1 ≠ bp := (by omega); have _ : bq < w1.heap.size := (by omega); have _ : bq ≤ w1.heap.size := (by omega); have _ : bq < w1.heap.size + 1 := (by omega); have _ : bq < w1.heap.size + 1 + 1 := (by omega); have _ : bq ≠ w1.heap.size := (by omega); have _ : w1.heap.size ≠ bq := (by omega); have _ : bq ≠ w1.heap.size + 1 := (by omega); have _ : w1.heap.size + 1 ≠ bq := (by omega); have _ : 0 < w1.heap.size := (by omega); have _ : 0 ≤ w1.heap.size := (by omega); have _ : 0 < w1.heap.size + 1 := (by omega); have _ : 0 < w1.heap.size + 1 + 1 := (by omega); have _ : 0 ≠ w1.heap.size := (by omega); have _ : w1.heap.size ≠ 0 := (by omega); have _ : 0 ≠ w1.heap.size + 1 := (by omega); have _ : w1.heap.size + 1 ≠ 0 := (by omega); (try (have _ : W.heap.size < w1.heap.size := (by omega))); (try (have _ : W.heap.size ≤ w1.heap.size := (by omega))); (try (have _ : W.heap.size ≠ w1.heap.size := (by omega))); (try (have _ : w1.heap.size ≠ W.heap.size := (by omega))); (try (have _ : W.heap.size < w1.heap.size + 1 := (by omega))); (try (have _ : W.heap.size + 1 < w1.heap.size := (by omega))); (try (have _ : W.heap.size + 1 ≤ w1.heap.size := (by omega))); (try (have _ : W.heap.size + 1 ≠ w1.heap.size := (by omega))); (try (have _ : w1.heap.size ≠ W.heap.size + 1 := (by omega))); (try (have _ : W.heap.size + 1 < w1.heap.size + 1 := (by omega)))))
    all_goals (refine OutQ.intro ⟨_, ?_, ?_, ?_, ?_, ?_, ?_, ?_, ?_, rfl⟩)
    all_goals repeat (first | with_reducible exact BB.out | with_reducible exact QhD.out | with_reducible exact QhX.out | with_reducible exact QhA.out | with_reducible exact QhS.out | with_reducible exact QhP.out | with_reducible exact QhQ.out | with_reducible refine Hold.fresh (by first | rfl | (simp; done) | fail) | with_reducible refine Hold.sets4 ?_ | with_reducible refine Var.new (by first | rfl | (simp; done) | fail) | with_reducible refine Hold.alloc ?_ _ | with_reducible refine Hold.drew ?_ | with_reducible refine Hold.set4 ?_ (by with_reducible assumption) _ _ _ _ | with_reducible refine HoldM.alloc ?_ _ | with_reducible refine HoldM.drew ?_ | with_reducible refine HoldM.set4 ?_ (by with_reducible assumption) _ _ _ _ | with_reducible refine Blank.alloc ?_ _ | with_reducible refine Blank.drew ?_ | with_reducible refine Blank.set4 ?_ (by with_reducible assumption) _ _ _ _ | with_reducible refine Smm.alloc ?_ _ | with_reducible refine Smm.drew ?_ | with_reducible refine Smm.set4 ?_ (by with_reducible assumption) _ _ _ _ | with_reducible refine Mds.alloc ?_ _ | with_reducible refine Mds.drew ?_ | with_reducible refine Mds.set4 ?_ (by with_reducible assumption) _ _ _ _ | with_reducible refine Var.alloc ?_ _ | with_reducible refine Var.set4 ?_ (by with_reducible assumption) _ _ _ _ | with_reducible refine below_alloc hbx ?_ _ | with_reducible refine Below.drew ?_ | with_reducible refine Below.setCell ?_ (by with_reducible assumption) _ | with_reducible refine Has.fresh (by first | rfl | (simp; done) | fail) (by first | (simp; done) | fail) | with_reducible refine Has.alloc ?_ _ | with_reducible refine Has.drew ?_ | with_reducible refine Has.keep ?_ hb1 | with_reducible refine Hold.keep ?_ hb1 | with_reducible refine HoldM.keep ?_ hb1 | with_reducible refine Blank.keep ?_ hb1 | with_reducible refine Smm.keep ?_ hb1 | with_reducible refine Mds.keep ?_ hb1 | with_reducible refine Var.keep ?_ hb1 | with_reducible refine below_then hbx ?_ hb1)
  rintro _ W ⟨bv, B, hD, hX, hA, hS, hP, hQ, hW, rfl⟩
  subst hbx
  clear BB geB QhD QhX QhA QhS QhP QhQ ghX ghA ghS lthD lthX lthA lthS lthP lthQ
  go_wp2_with fail
  have ghP := hP.grown
  have ghQ := hQ.grown
  have ghW := hW.grown
  have ghS := hS.grown
  have hDg : ∀ d os, Mds (grow (redrawn W d) os) := fun d os => hD.keep (below_regrown W d os)
  have hSg := fun d os => hS.keep (below_regrown W d os)
  refine wp_region_quiet_below (by kernel_rfl) (by kernel_rfl) ?_
  repeat
    first
      | go_big_quiet_skip
      | (go_big_quiet_want; go_big_quiet_op; go_big_quiet_on)
      | (go_big_quiet_want
         go_big_quiet_op
         apply Exists.intro
         refine ⟨fun p => ?_, ?_⟩
         · (first | (go_at_call 24; with_reducible exact Calls.regrown_of (P2.out _ _ (hDg p.d p.os) (hSg p.d p.os))))
         go_big_quiet_on)
  refine wpQuiet_nil ?_
  rintro w6 ⟨p, rfl⟩
  have hb := below_regrown W p.d p.os
  generalize grow (redrawn W p.d) p.os = w6 at *
  replace B := B.trans (hb.mono B.size)
  replace hD := hD.keep hb; replace hX := hX.keep hb; replace hA := hA.keep hb; replace hS := hS.keep hb; replace hP := hP.keep hb; replace hQ := hQ.keep hb; replace hW := hW.keep hb
  clear hb W ghP ghQ ghW ghS hDg hSg
  clear hD hX hA hS hP hQ hW
  go_wp2
  simp [bodyPost, results, Tryd.results6, go_sem]
  exact B
end Go.Proofs.YtfpiopjlcjckeaaDoor
