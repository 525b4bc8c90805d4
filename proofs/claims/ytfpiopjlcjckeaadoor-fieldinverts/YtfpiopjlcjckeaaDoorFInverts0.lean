import Derived.Test.YtfpiopjlcjckeaaDoorFSum
import Derived.Test.YtfpiopjlcjckeaaDoorFUn
import Derived.Test.YtfpiopjlcjckeaaDoorFInv
import Derived.Test.YtfpiopjlcjckeaaDoorFFermat
namespace Go.Proofs.YtfpiopjlcjckeaaDoor
open Go.RowKit Go.Sort

theorem fnum_any (v : Int) (w : World) : Calls Tryd.prog 11 #[.int .i64 v] w fun e w' => e = .returned (.int .i64 v) ∧ Below w.heap.size w w' := by
  go_enter Tryd.func11, Tryd.ntmps11
  go_wp2
  simp [bodyPost, results, Tryd.results11, go_sem]
  repeat (first | with_reducible exact Below.refl _ _ | with_reducible refine Below.drew ?_ | with_reducible refine Below.alloc ?_ (by first | omega | (simp; done) | (simp; omega)) _)

set_option maxRecDepth 100000 in
set_option maxHeartbeats 16000000 in
theorem finverts_none {v k x a m : Int} (K0 : Hid (∀ w, Calls Tryd.prog 9 #[.int .i64 v] w fun e w' => e = .returned (.int .i64 k) ∧ Below w.heap.size w w'))
    (O1 : Hid (∀ w, Mds w → Calls Tryd.prog 15 #[.int .i64 k] w fun e w' => e = .returned (.tuple #[.agg #[.int .u64 (l0 m), .int .u64 (l1 m), .int .u64 (l2 m), .int .u64 (l3 m)], .int .i64 0]) ∧ Below w.heap.size w w')) (O2 : Hid (∀ w, Mds w → Calls Tryd.prog 20 #[.int .i64 k, .agg #[.int .u64 0, .int .u64 0, .int .u64 0, .int .u64 0], .agg #[.int .u64 (l0 x), .int .u64 (l1 x), .int .u64 (l2 x), .int .u64 (l3 x)]] w fun e w' => e = .returned (.tuple #[.agg #[.int .u64 (l0 0), .int .u64 (l1 0), .int .u64 (l2 0), .int .u64 (l3 0)], .int .i64 0]) ∧ Below w.heap.size w w')) (O3 : Hid (∀ w, Mds w → Calls Tryd.prog 12 #[.int .i64 k, .agg #[.int .u64 (l0 x), .int .u64 (l1 x), .int .u64 (l2 x), .int .u64 (l3 x)]] w fun e w' => e = .returned (.tuple #[.agg #[.int .u64 (l0 0), .int .u64 (l1 0), .int .u64 (l2 0), .int .u64 (l3 0)], .int .i64 40]) ∧ Below w.heap.size w w')) (w : World) (hm : Mds w) :
    Calls Tryd.prog 6 #[.int .i64 v, .agg #[.int .u64 (l0 x), .int .u64 (l1 x), .int .u64 (l2 x), .int .u64 (l3 x)], .agg #[.int .u64 (l0 a), .int .u64 (l1 a), .int .u64 (l2 a), .int .u64 (l3 a)]] w fun e w' => e = .returned (.bool true) ∧ Below w.heap.size w w' := by
  have ez : ∀ w, (Op.equalIn 10000 30 (.agg #[.int .u64 (l0 0), .int .u64 (l1 0), .int .u64 (l2 0), .int .u64 (l3 0)]) (.agg #[.int .u64 0, .int .u64 0, .int .u64 0, .int .u64 0])).run Tryd.prog w = .ok true w := fun w => by rw [feq_zero ⟨by decide, by decide⟩]; rfl
  have nm : Hid (∀ v w, Calls Tryd.prog 11 #[.int .i64 v] w fun e w' => e = .returned (.int .i64 v) ∧ Below w.heap.size w w') := fnum_any
  have bz := build_zero
  go_enter Tryd.func6, Tryd.ntmps6
  go_wp2_with fail
  refine calls_world (fun W => Below w.heap.size w W ∧ Mds W ∧ Hold W w.heap.size x ∧ Hold W (w.heap.size + 1) a) ⟨by repeat (first | with_reducible exact Below.refl _ _ | with_reducible refine Below.alloc ?_ (by first | omega | (simp; done) | (simp; omega)) _), (hm.alloc _).alloc _, (Hold.fresh (by simp)).alloc _, Hold.fresh (by simp)⟩ ?_
  rintro W ⟨B, hD, hX, hA⟩
  generalize w.heap.size + 1 = ba at *
  with_reducible refine (K0.out _).mono ?_
  rintro e w1 ⟨rfl, hb⟩
  replace B := B.trans (hb.mono B.size)
  replace hD := hD.keep hb; replace hX := hX.keep hb; replace hA := hA.keep hb
  clear hb W
  go_wp2_with fail
  refine calls_world (fun W => Below w.heap.size w W ∧ Mds W ∧ Hold W w.heap.size x ∧ Hold W ba a ∧ Smm W w1.heap.size k) ⟨B.alloc B.size _, hD.alloc _, hX.alloc _, hA.alloc _, Smm.new rfl⟩ ?_
  clear B hD hX hA
  rintro W ⟨B, hD, hX, hA, hS⟩
  generalize w1.heap.size = bb at *
  with_reducible refine (O1.out _ hD).mono ?_
  rintro e w2 ⟨rfl, hb⟩
  replace B := B.trans (hb.mono B.size)
  replace hD := hD.keep hb; replace hX := hX.keep hb; replace hA := hA.keep hb; replace hS := hS.keep hb
  clear hb W
  go_wp2_with fail
  refine wp_world (fun W => Below w.heap.size w W ∧ Mds W ∧ Hold W w.heap.size x ∧ Hold W ba a ∧ Smm W bb k ∧ Hold W w2.heap.size m) ⟨B.alloc B.size _, hD.alloc _, hX.alloc _, hA.alloc _, hS.alloc _, Hold.new _ _ _⟩ ?_
  clear B hD hX hA hS 
  rintro W ⟨B, hD, hX, hA, hS, hM⟩
  generalize w2.heap.size = bm at *
  have lthD : 0 < W.heap.size := hD.lt
  have ghX := hX.cells
  have lthX : w.heap.size < W.heap.size := World.block_lt_of_cell? W _ hX.1
  have lthA : ba < W.heap.size := World.block_lt_of_cell? W _ hA.1
  have ghS := hS.1
  have lthS : bb < W.heap.size := hS.lt
  have lthM : bm < W.heap.size := World.block_lt_of_cell? W _ hM.1
  have BB : Hid (Below w.heap.size w W) := B
  have QhD : Hid (Mds W) := hD
  have QhX : Hid (Hold W w.heap.size x) := hX
  have QhA : Hid (Hold W ba a) := hA
  have QhS : Hid (Smm W bb k) := hS
  have QhM : Hid (Hold W bm m) := hM
  have geB : w.heap.size ≤ W.heap.size := B.size
  clear B hD hX hA hS hM
  generalize hbx : w.heap.size = bx at *
  refine wp_out (fun a' W' => ∃ br, Below bx w W' ∧ Mds W' ∧ Hold W' bx x ∧ Hold W' ba a ∧ Smm W' bb k ∧ Hold W' bm m ∧ Hold W' br 0 ∧ a' = { tmps := #[.int .i64 v, .agg #[.int .u64 (l0 x), .int .u64 (l1 x), .int .u64 (l2 x), .int .u64 (l3 x)], .agg #[.int .u64 (l0 a), .int .u64 (l1 a), .int .u64 (l2 a), .int .u64 (l3 a)], Go.undef, .pointer (some { block := bx, off := 0 }), .pointer (some { block := ba, off := 0 }), .bool false, .pointer (some { block := bb, off := 0 }), .pointer (some { block := bm, off := 0 }), .int .i64 0, .pointer (some { block := br, off := 0 }), .int .i64 0, Go.undef, Go.undef, Go.undef, Go.undef, Go.undef, Go.undef, Go.undef, Go.undef, Go.undef, Go.undef, Go.undef, Go.undef, Go.undef, Go.undef, Go.undef, Go.undef, Go.undef, .int .i64 v, .int .i64 k, .agg #[.int .i64 k, .bool false], .pointer (some { block := bb, off := 0 }), .tuple #[.agg #[.int .u64 (l0 m), .int .u64 (l1 m), .int .u64 (l2 m), .int .u64 (l3 m)], .int .i64 0], .pointer (some { block := bb, off := 0 }), .pointer (some { block := bb, off := 0 }), .pointer (some { block := bb, off := 0 }), .int .i64 k, .tuple #[.agg #[.int .u64 (l0 m), .int .u64 (l1 m), .int .u64 (l2 m), .int .u64 (l3 m)], .int .i64 0], .agg #[.int .u64 (l0 m), .int .u64 (l1 m), .int .u64 (l2 m), .int .u64 (l3 m)], .int .i64 0, .tuple #[.agg #[.int .u64 (l0 0), .int .u64 (l1 0), .int .u64 (l2 0), .int .u64 (l3 0)], .int .i64 0], .pointer (some { block := bb, off := 0 }), .pointer (some { block := bb, off := 0 }), .pointer (some { block := bb, off := 0 }), .int .i64 k, .agg #[.int .u64 0, .int .u64 0, .int .u64 0, .int .u64 0], .agg #[.int .u64 (l0 x), .int .u64 (l1 x), .int .u64 (l2 x), .int .u64 (l3 x)], .tuple #[.agg #[.int .u64 (l0 0), .int .u64 (l1 0), .int .u64 (l2 0), .int .u64 (l3 0)], .int .i64 0], .agg #[.int .u64 (l0 0), .int .u64 (l1 0), .int .u64 (l2 0), .int .u64 (l3 0)], .int .i64 0, Go.undef, Go.undef, Go.undef, Go.undef, Go.undef, Go.undef, Go.undef, Go.undef, Go.undef, Go.undef, Go.undef, Go.undef, Go.undef, Go.undef, Go.undef, Go.undef, Go.undef, Go.undef, Go.undef, Go.undef, Go.undef, Go.undef, Go.undef, Go.undef, Go.undef, Go.undef, Go.undef, Go.undef, Go.undef, Go.undef, Go.undef, Go.undef, Go.undef, Go.undef, Go.undef, Go.undef, Go.undef, Go.undef, Go.undef, Go.undef, Go.undef, Go.undef, Go.undef, Go.undef, Go.undef, Go.undef, Go.undef, Go.undef, Go.undef, Go.undef, Go.undef, Go.undef, Go.undef, Go.undef, Go.undef, Go.undef, Go.undef, Go.undef, Go.undef, Go.undef, Go.undef, Go.undef, Go.undef, Go.undef, Go.undef, Go.undef, Go.undef, Go.undef, Go.undef, Go.undef, Go.undef, Go.undef, Go.undef, Go.undef, Go.undef, Go.undef, Go.undef, Go.undef, Go.undef, Go.undef, Go.undef, Go.undef, Go.undef, Go.undef, Go.undef, Go.undef, Go.undef, Go.undef, Go.undef, Go.undef, Go.undef, Go.undef, Go.undef, Go.undef, Go.undef, Go.undef, Go.undef, Go.undef, Go.undef, Go.undef, Go.undef, Go.undef, Go.undef, Go.undef, Go.undef, Go.undef, Go.undef, Go.undef, Go.undef, Go.undef, Go.undef, Go.undef, Go.undef, Go.undef, Go.undef, Go.undef, Go.undef, Go.undef, Go.undef, Go.undef, Go.undef, Go.undef, Go.undef, Go.undef, Go.undef, Go.undef, Go.undef, Go.undef, Go.undef, Go.undef, Go.undef, Go.undef, Go.undef, Go.undef, Go.undef, Go.undef, Go.undef, Go.undef, Go.undef, Go.undef, Go.undef, Go.undef, Go.undef, Go.undef, Go.undef, Go.undef], defers := [] }) ?_ ?_
  · have dz : W.drew.heap.size = W.heap.size := rfl
    have _ : bx < W.heap.size := by omega
    have _ : bx ≤ W.heap.size := by omega
    have _ : bx < W.heap.size + 1 := by omega
    have _ : bx < W.heap.size + 1 + 1 := by omega
    have _ : bx ≠ W.heap.size := by omega
    have _ : W.heap.size ≠ bx := by omega
    have _ : bx ≠ W.heap.size + 1 := by omega
    have _ : W.heap.size + 1 ≠ bx := by omega
    have _ : ba < W.heap.size := by omega
    have _ : ba ≤ W.heap.size := by omega
    have _ : ba < W.heap.size + 1 := by omega
    have _ : ba < W.heap.size + 1 + 1 := by omega
    have _ : ba ≠ W.heap.size := by omega
    have _ : W.heap.size ≠ ba := by omega
    have _ : ba ≠ W.heap.size + 1 := by omega
    have _ : W.heap.size + 1 ≠ ba := by omega
    have _ : bb < W.heap.size := by omega
    have _ : bb ≤ W.heap.size := by omega
    have _ : bb < W.heap.size + 1 := by omega
    have _ : bb < W.heap.size + 1 + 1 := by omega
    have _ : bb ≠ W.heap.size := by omega
    have _ : W.heap.size ≠ bb := by omega
    have _ : bb ≠ W.heap.size + 1 := by omega
    have _ : W.heap.size + 1 ≠ bb := by omega
    have _ : bm < W.heap.size := by omega
    have _ : bm ≤ W.heap.size := by omega
    have _ : bm < W.heap.size + 1 := by omega
    have _ : bm < W.heap.size + 1 + 1 := by omega
    have _ : bm ≠ W.heap.size := by omega
    have _ : W.heap.size ≠ bm := by omega
    have _ : bm ≠ W.heap.size + 1 := by omega
    have _ : W.heap.size + 1 ≠ bm := by omega
    have _ : 0 < W.heap.size := by omega
    have _ : 0 ≤ W.heap.size := by omega
    have _ : 0 < W.heap.size + 1 := by omega
    have _ : 0 < W.heap.size + 1 + 1 := by omega
    have _ : 0 ≠ W.heap.size := by omega
    have _ : W.heap.size ≠ 0 := by omega
    have _ : 0 ≠ W.heap.size + 1 := by omega
    have _ : W.heap.size + 1 ≠ 0 := by omega
    go_region_held3 (fun w' => w'.cell? ⟨bx, 0, none⟩ = some (.int .u64 (l0 x)) ∧ w'.cell? ⟨bx, 1, none⟩ = some (.int .u64 (l1 x)) ∧ w'.cell? ⟨bx, 2, none⟩ = some (.int .u64 (l2 x)) ∧ w'.cell? ⟨bx, 3, none⟩ = some (.int .u64 (l3 x)) ∧ w'.cell? ⟨bb, 0, none⟩ = some (.int .i64 k)) (((try dsimp only); (repeat' (apply And.intro)); (all_goals repeat (first | with_reducible assumption | with_reducible apply cell_keep hb1 | with_reducible apply cell_alloc | (with_reducible refine cell_set ?_ (by with_reducible assumption)) | (simp [go_sem, *]; done)))))
      (first
        | (go_at_call 20; with_reducible refine (O2.out _ (by repeat (first | with_reducible exact QhD.out | with_reducible refine Mds.alloc ?_ _ | with_reducible refine Mds.drew ?_))).mono ?_; rintro e w1 ⟨rfl, hb1⟩; have hc1 := oldCells hb1; have hz1 := hb1.size; (try simp at hz1); (try (have := fun j => oldCells hb1 (W.heap.size) j (by first | omega | (simp; done) | (simp; omega)))); (try (have := fun j => oldCells hb1 (W.heap.size + 1) j (by first | omega | (simp; done) | (simp; omega)))); have _ : bx < w1.heap.size := (by omega); have _ : bx ≤ w1.heap.size := (by omega); have _ : bx < w1.heap.size + 1 := (by omega); have _ : bx < w1.heap.size + 1 + 1 := (by omega); have _ : bx ≠ w1.heap.size := (by omega); have _ : w1.heap.size ≠ bx := (by omega); have _ : bx ≠ w1.heap.size + 1 := (by omega); have _ : w1.heap.size + 1 ≠ bx := (by omega); have _ : ba < w1.heap.size := (by omega); have _ : ba ≤ w1.heap.size := (by omega); have _ : ba < w1.heap.size + 1 := (by omega); have _ : ba < w1.heap.size + 1 + 1 := (by omega); have _ : ba ≠ w1.heap.size := (by omega); have _ : w1.heap.size ≠ ba := (by omega); have _ : ba ≠ w1.heap.size + 1 := (by omega); have _ : w1.heap.size + 1 ≠ ba := (by omega); have _ : bb < w1.heap.size := (by omega); have _ : bb ≤ w1.heap.size := (by omega); have _ : bb < w1.heap.size + 1 := (by omega); have _ : bb < w1.heap.size + 1 + 1 := (by omega); have _ : bb ≠ w1.heap.size := (by omega); have _ : w1.heap.size ≠ bb := (by omega); have _ : bb ≠ w1.heap.size + 1 := (by omega); have _ : w1.heap.size + 1 ≠ bb := (by omega); have _ : bm < w1.heap.size := (by omega); have _ : bm ≤ w1.heap.size := (by omega); have _ : bm < w1.heap.size + 1 := (by omega); have _ : bm < w1.heap.size + 1 + 1 := (by omega); have _ : bm ≠ w1.heap.size := (by omega); have _ : w1.heap.size ≠ bm := (by omega); have _ : bm ≠ w1.heap.size + 1 := (by omega); have _ : w1.heap.size + 1 ≠ bm := (by omega); have _ : 0 < w1.heap.size := (by omega); have _ : 0 ≤ w1.heap.size := (by omega); have _ : 0 < w1.heap.size + 1 := (by omega); have _ : 0 < w1.heap.size + 1 + 1 := (by omega); have _ : 0 ≠ w1.heap.size := (by omega); have _ : w1.heap.size ≠ 0 := (by omega); have _ : 0 ≠ w1.heap.size + 1 := (by omega); have _ : w1.heap.size + 1 ≠ 0 := (by omega); (try (have _ : W.heap.size < w1.heap.size := (by omega))); (try (have _ : W.heap.size ≤ w1.heap.size := (by omega))); (try (have _ : W.heap.size ≠ w1.heap.size := (by omega))); (try (have _ : w1.heap.size ≠ W.heap.size := (by omega))); (try (have _ : W.heap.size < w1.heap.size + 1 := (by omega))); (try (have _ : W.heap.size + 1 < w1.heap.size := (by omega))); (try (have _ : W.heap.size + 1 ≤ w1.heap.size := (by omega))); (try (have _ : W.heap.size + 1 ≠ w1.heap.size := (by omega))); (try (have _ : w1.heap.size ≠ W.heap.size + 1 := (by omega))); (try (have _ : W.heap.size + 1 < w1.heap.size + 1 := (by omega)))))
    all_goals (refine OutQ.intro ⟨_, ?_, ?_, ?_, ?_, ?_, ?_, ?_, rfl⟩)
    all_goals repeat (first | with_reducible exact BB.out | with_reducible exact QhD.out | with_reducible exact QhX.out | with_reducible exact QhA.out | with_reducible exact QhS.out | with_reducible exact QhM.out | with_reducible refine Hold.fresh (by first | rfl | (simp; done) | fail) | with_reducible refine Hold.sets4 ?_ | with_reducible refine Var.new (by first | rfl | (simp; done) | fail) | with_reducible refine Hold.alloc ?_ _ | with_reducible refine Hold.drew ?_ | with_reducible refine Hold.set4 ?_ (by with_reducible assumption) _ _ _ _ | with_reducible refine HoldM.alloc ?_ _ | with_reducible refine HoldM.drew ?_ | with_reducible refine HoldM.set4 ?_ (by with_reducible assumption) _ _ _ _ | with_reducible refine Blank.alloc ?_ _ | with_reducible refine Blank.drew ?_ | with_reducible refine Blank.set4 ?_ (by with_reducible assumption) _ _ _ _ | with_reducible refine Smm.alloc ?_ _ | with_reducible refine Smm.drew ?_ | with_reducible refine Smm.set4 ?_ (by with_reducible assumption) _ _ _ _ | with_reducible refine Mds.alloc ?_ _ | with_reducible refine Mds.drew ?_ | with_reducible refine Mds.set4 ?_ (by with_reducible assumption) _ _ _ _ | with_reducible refine Var.alloc ?_ _ | with_reducible refine Var.set4 ?_ (by with_reducible assumption) _ _ _ _ | with_reducible refine below_alloc hbx ?_ _ | with_reducible refine Below.drew ?_ | with_reducible refine Below.setCell ?_ (by with_reducible assumption) _ | with_reducible refine Has.fresh (by first | rfl | (simp; done) | fail) (by first | (simp; done) | fail) | with_reducible refine Has.alloc ?_ _ | with_reducible refine Has.drew ?_ | with_reducible refine Has.keep ?_ hb1 | with_reducible refine Hold.keep ?_ hb1 | with_reducible refine HoldM.keep ?_ hb1 | with_reducible refine Blank.keep ?_ hb1 | with_reducible refine Smm.keep ?_ hb1 | with_reducible refine Mds.keep ?_ hb1 | with_reducible refine Var.keep ?_ hb1 | with_reducible refine below_then hbx ?_ hb1)
  rintro _ W ⟨br, B, hD, hX, hA, hS, hM, hR, rfl⟩
  subst hbx
  clear BB geB QhD QhX QhA QhS QhM ghX ghS lthD lthX lthA lthS lthM
  go_wp2_with fail
  have lthD : 0 < W.heap.size := hD.lt
  have ghX := hX.cells
  have lthX : w.heap.size < W.heap.size := World.block_lt_of_cell? W _ hX.1
  have lthA : ba < W.heap.size := World.block_lt_of_cell? W _ hA.1
  have ghS := hS.1
  have lthS : bb < W.heap.size := hS.lt
  have lthM : bm < W.heap.size := World.block_lt_of_cell? W _ hM.1
  have lthR : br < W.heap.size := World.block_lt_of_cell? W _ hR.1
  have BB : Hid (Below w.heap.size w W) := B
  have QhD : Hid (Mds W) := hD
  have QhX : Hid (Hold W w.heap.size x) := hX
  have QhA : Hid (Hold W ba a) := hA
  have QhS : Hid (Smm W bb k) := hS
  have QhM : Hid (Hold W bm m) := hM
  have QhR : Hid (Hold W br 0) := hR
  have geB : w.heap.size ≤ W.heap.size := B.size
  clear B hD hX hA hS hM hR
  generalize hbx : w.heap.size = bx at *
  refine wp_out (fun a' W' => ∃ bu, Below bx w W' ∧ Mds W' ∧ Hold W' bx x ∧ Hold W' ba a ∧ Smm W' bb k ∧ Hold W' bm m ∧ Hold W' br 0 ∧ Hold W' bu 0 ∧ a' = { tmps := #[.int .i64 v, .agg #[.int .u64 (l0 x), .int .u64 (l1 x), .int .u64 (l2 x), .int .u64 (l3 x)], .agg #[.int .u64 (l0 a), .int .u64 (l1 a), .int .u64 (l2 a), .int .u64 (l3 a)], Go.undef, .pointer (some { block := bx, off := 0 }), .pointer (some { block := ba, off := 0 }), .bool false, .pointer (some { block := bb, off := 0 }), .pointer (some { block := bm, off := 0 }), .int .i64 0, .pointer (some { block := br, off := 0 }), .int .i64 0, .pointer (some { block := bu, off := 0 }), .int .i64 40, Go.undef, Go.undef, Go.undef, Go.undef, Go.undef, Go.undef, Go.undef, Go.undef, Go.undef, Go.undef, Go.undef, Go.undef, Go.undef, Go.undef, Go.undef, .int .i64 v, .int .i64 k, .agg #[.int .i64 k, .bool false], .pointer (some { block := bb, off := 0 }), .tuple #[.agg #[.int .u64 (l0 m), .int .u64 (l1 m), .int .u64 (l2 m), .int .u64 (l3 m)], .int .i64 0], .pointer (some { block := bb, off := 0 }), .pointer (some { block := bb, off := 0 }), .pointer (some { block := bb, off := 0 }), .int .i64 k, .tuple #[.agg #[.int .u64 (l0 m), .int .u64 (l1 m), .int .u64 (l2 m), .int .u64 (l3 m)], .int .i64 0], .agg #[.int .u64 (l0 m), .int .u64 (l1 m), .int .u64 (l2 m), .int .u64 (l3 m)], .int .i64 0, .tuple #[.agg #[.int .u64 (l0 0), .int .u64 (l1 0), .int .u64 (l2 0), .int .u64 (l3 0)], .int .i64 0], .pointer (some { block := bb, off := 0 }), .pointer (some { block := bb, off := 0 }), .pointer (some { block := bb, off := 0 }), .int .i64 k, .agg #[.int .u64 0, .int .u64 0, .int .u64 0, .int .u64 0], .agg #[.int .u64 (l0 x), .int .u64 (l1 x), .int .u64 (l2 x), .int .u64 (l3 x)], .tuple #[.agg #[.int .u64 (l0 0), .int .u64 (l1 0), .int .u64 (l2 0), .int .u64 (l3 0)], .int .i64 0], .agg #[.int .u64 (l0 0), .int .u64 (l1 0), .int .u64 (l2 0), .int .u64 (l3 0)], .int .i64 0, .tuple #[.agg #[.int .u64 (l0 0), .int .u64 (l1 0), .int .u64 (l2 0), .int .u64 (l3 0)], .int .i64 40], .pointer (some { block := bb, off := 0 }), .pointer (some { block := bb, off := 0 }), .pointer (some { block := bb, off := 0 }), .int .i64 k, .agg #[.int .u64 (l0 x), .int .u64 (l1 x), .int .u64 (l2 x), .int .u64 (l3 x)], .tuple #[.agg #[.int .u64 (l0 0), .int .u64 (l1 0), .int .u64 (l2 0), .int .u64 (l3 0)], .int .i64 40], .agg #[.int .u64 (l0 0), .int .u64 (l1 0), .int .u64 (l2 0), .int .u64 (l3 0)], .int .i64 40, Go.undef, Go.undef, Go.undef, Go.undef, Go.undef, Go.undef, Go.undef, Go.undef, Go.undef, Go.undef, Go.undef, Go.undef, Go.undef, Go.undef, Go.undef, Go.undef, Go.undef, Go.undef, Go.undef, Go.undef, Go.undef, Go.undef, Go.undef, Go.undef, Go.undef, Go.undef, Go.undef, Go.undef, Go.undef, Go.undef, Go.undef, Go.undef, Go.undef, Go.undef, Go.undef, Go.undef, Go.undef, Go.undef, Go.undef, Go.undef, Go.undef, Go.undef, Go.undef, Go.undef, Go.undef, Go.undef, Go.undef, Go.undef, Go.undef, Go.undef, Go.undef, Go.undef, Go.undef, Go.undef, Go.undef, Go.undef, Go.undef, Go.undef, Go.undef, Go.undef, Go.undef, Go.undef, Go.undef, Go.undef, Go.undef, Go.undef, Go.undef, Go.undef, Go.undef, Go.undef, Go.undef, Go.undef, Go.undef, Go.undef, Go.undef, Go.undef, Go.undef, Go.undef, Go.undef, Go.undef, Go.undef, Go.undef, Go.undef, Go.undef, Go.undef, Go.undef, Go.undef, Go.undef, Go.undef, Go.undef, Go.undef, Go.undef, Go.undef, Go.undef, Go.undef, Go.undef, Go.undef, Go.undef, Go.undef, Go.undef, Go.undef, Go.undef, Go.undef, Go.undef, Go.undef, Go.undef, Go.undef, Go.undef, Go.undef, Go.undef, Go.undef, Go.undef, Go.undef, Go.undef, Go.undef, Go.undef, Go.undef, Go.undef, Go.undef, Go.undef, Go.undef, Go.undef, Go.undef, Go.undef, Go.undef, Go.undef, Go.undef, Go.undef, Go.undef, Go.undef, Go.undef, Go.undef, Go.undef, Go.undef, Go.undef, Go.undef, Go.undef], defers := [] }) ?_ ?_
  · have dz : W.drew.heap.size = W.heap.size := rfl
    have _ : bx < W.heap.size := by omega
    have _ : bx ≤ W.heap.size := by omega
    have _ : bx < W.heap.size + 1 := by omega
    have _ : bx < W.heap.size + 1 + 1 := by omega
    have _ : bx ≠ W.heap.size := by omega
    have _ : W.heap.size ≠ bx := by omega
    have _ : bx ≠ W.heap.size + 1 := by omega
    have _ : W.heap.size + 1 ≠ bx := by omega
    have _ : ba < W.heap.size := by omega
    have _ : ba ≤ W.heap.size := by omega
    have _ : ba < W.heap.size + 1 := by omega
    have _ : ba < W.heap.size + 1 + 1 := by omega
    have _ : ba ≠ W.heap.size := by omega
    have _ : W.heap.size ≠ ba := by omega
    have _ : ba ≠ W.heap.size + 1 := by omega
    have _ : W.heap.size + 1 ≠ ba := by omega
    have _ : bb < W.heap.size := by omega
    have _ : bb ≤ W.heap.size := by omega
    have _ : bb < W.heap.size + 1 := by omega
    have _ : bb < W.heap.size + 1 + 1 := by omega
    have _ : bb ≠ W.heap.size := by omega
    have _ : W.heap.size ≠ bb := by omega
    have _ : bb ≠ W.heap.size + 1 := by omega
    have _ : W.heap.size + 1 ≠ bb := by omega
    have _ : bm < W.heap.size := by omega
    have _ : bm ≤ W.heap.size := by omega
    have _ : bm < W.heap.size + 1 := by omega
    have _ : bm < W.heap.size + 1 + 1 := by omega
    have _ : bm ≠ W.heap.size := by omega
    have _ : W.heap.size ≠ bm := by omega
    have _ : bm ≠ W.heap.size + 1 := by omega
    have _ : W.heap.size + 1 ≠ bm := by omega
    have _ : br < W.heap.size := by omega
    have _ : br ≤ W.heap.size := by omega
    have _ : br < W.heap.size + 1 := by omega
    have _ : br < W.heap.size + 1 + 1 := by omega
    have _ : br ≠ W.heap.size := by omega
    have _ : W.heap.size ≠ br := by omega
    have _ : br ≠ W.heap.size + 1 := by omega
    have _ : W.heap.size + 1 ≠ br := by omega
    have _ : 0 < W.heap.size := by omega
    have _ : 0 ≤ W.heap.size := by omega
    have _ : 0 < W.heap.size + 1 := by omega
    have _ : 0 < W.heap.size + 1 + 1 := by omega
    have _ : 0 ≠ W.heap.size := by omega
    have _ : W.heap.size ≠ 0 := by omega
    have _ : 0 ≠ W.heap.size + 1 := by omega
    have _ : W.heap.size + 1 ≠ 0 := by omega
    go_region_held3 (fun w' => w'.cell? ⟨bx, 0, none⟩ = some (.int .u64 (l0 x)) ∧ w'.cell? ⟨bx, 1, none⟩ = some (.int .u64 (l1 x)) ∧ w'.cell? ⟨bx, 2, none⟩ = some (.int .u64 (l2 x)) ∧ w'.cell? ⟨bx, 3, none⟩ = some (.int .u64 (l3 x)) ∧ w'.cell? ⟨bb, 0, none⟩ = some (.int .i64 k)) (((try dsimp only); (repeat' (apply And.intro)); (all_goals repeat (first | with_reducible assumption | with_reducible apply cell_keep hb1 | with_reducible apply cell_alloc | (with_reducible refine cell_set ?_ (by with_reducible assumption)) | (simp [go_sem, *]; done)))))
      (first
        | (go_at_call 12; with_reducible refine (O3.out _ (by repeat (first | with_reducible exact QhD.out | with_reducible refine Mds.alloc ?_ _ | with_reducible refine Mds.drew ?_))).mono ?_; rintro e w1 ⟨rfl, hb1⟩; have hc1 := oldCells hb1; have hz1 := hb1.size; (try simp at hz1); (try (have := fun j => oldCells hb1 (W.heap.size) j (by first | omega | (simp; done) | (simp; omega)))); (try (have := fun j => oldCells hb1 (W.heap.size + 1) j (by first | omega | (simp; done) | (simp; omega)))); have _ : bx < w1.heap.size := (by omega); have _ : bx ≤ w1.heap.size := (by omega); have _ : bx < w1.heap.size + 1 := (by omega); have _ : bx < w1.heap.size + 1 + 1 := (by omega); have _ : bx ≠ w1.heap.size := (by omega); have _ : w1.heap.size ≠ bx := (by omega); have _ : bx ≠ w1.heap.size + 1 := (by omega); have _ : w1.heap.size + 1 ≠ bx := (by omega); have _ : ba < w1.heap.size := (by omega); have _ : ba ≤ w1.heap.size := (by omega); have _ : ba < w1.heap.size + 1 := (by omega); have _ : ba < w1.heap.size + 1 + 1 := (by omega); have _ : ba ≠ w1.heap.size := (by omega); have _ : w1.heap.size ≠ ba := (by omega); have _ : ba ≠ w1.heap.size + 1 := (by omega); have _ : w1.heap.size + 1 ≠ ba := (by omega); have _ : bb < w1.heap.size := (by omega); have _ : bb ≤ w1.heap.size := (by omega); have _ : bb < w1.heap.size + 1 := (by omega); have _ : bb < w1.heap.size + 1 + 1 := (by omega); have _ : bb ≠ w1.heap.size := (by omega); have _ : w1.heap.size ≠ bb := (by omega); have _ : bb ≠ w1.heap.size + 1 := (by omega); have _ : w1.heap.size + 1 ≠ bb := (by omega); have _ : bm < w1.heap.size := (by omega); have _ : bm ≤ w1.heap.size := (by omega); have _ : bm < w1.heap.size + 1 := (by omega); have _ : bm < w1.heap.size + 1 + 1 := (by omega); have _ : bm ≠ w1.heap.size := (by omega); have _ : w1.heap.size ≠ bm := (by omega); have _ : bm ≠ w1.heap.size + 1 := (by omega); have _ : w1.heap.size + 1 ≠ bm := (by omega); have _ : br < w1.heap.size := (by omega); have _ : br ≤ w1.heap.size := (by omega); have _ : br < w1.heap.size + 1 := (by omega); have _ : br < w1.heap.size + 1 + 1 := (by omega); have _ : br ≠ w1.heap.size := (by omega); have _ : w1.heap.size ≠ br := (by omega); have _ : br ≠ w1.heap.size + 1 := (by omega); have _ : w1.heap.size + 1 ≠ br := (by omega); have _ : 0 < w1.heap.size := (by omega); have _ : 0 ≤ w1.heap.size := (by omega); have _ : 0 < w1.heap.size + 1 := (by omega); have _ : 0 < w1.heap.size + 1 + 1 := (by omega); have _ : 0 ≠ w1.heap.size := (by omega); have _ : w1.heap.size ≠ 0 := (by omega); have _ : 0 ≠ w1.heap.size + 1 := (by omega); have _ : w1.heap.size + 1 ≠ 0 := (by omega); (try (have _ : W.heap.size < w1.heap.size := (by omega))); (try (have _ : W.heap.size ≤ w1.heap.size := (by omega))); (try (have _ : W.heap.size ≠ w1.heap.size := (by omega))); (try (have _ : w1.heap.size ≠ W.heap.size := (by omega))); (try (have _ : W.heap.size < w1.heap.size + 1 := (by omega))); (try (have _ : W.heap.size + 1 < w1.heap.size := (by omega))); (try (have _ : W.heap.size + 1 ≤ w1.heap.size := (by omega))); (try (have _ : W.heap.size + 1 ≠ w1.heap.size := (by omega))); (try (have _ : w1.heap.size ≠ W.heap.size + 1 := (by omega))); (try (have _ : W.heap.size + 1 < w1.heap.size + 1 := (by omega)))))
    all_goals (refine OutQ.intro ⟨_, ?_, ?_, ?_, ?_, ?_, ?_, ?_, ?_, rfl⟩)
    all_goals repeat (first | with_reducible exact BB.out | with_reducible exact QhD.out | with_reducible exact QhX.out | with_reducible exact QhA.out | with_reducible exact QhS.out | with_reducible exact QhM.out | with_reducible exact QhR.out | with_reducible refine Hold.fresh (by first | rfl | (simp; done) | fail) | with_reducible refine Hold.sets4 ?_ | with_reducible refine Var.new (by first | rfl | (simp; done) | fail) | with_reducible refine Hold.alloc ?_ _ | with_reducible refine Hold.drew ?_ | with_reducible refine Hold.set4 ?_ (by with_reducible assumption) _ _ _ _ | with_reducible refine HoldM.alloc ?_ _ | with_reducible refine HoldM.drew ?_ | with_reducible refine HoldM.set4 ?_ (by with_reducible assumption) _ _ _ _ | with_reducible refine Blank.alloc ?_ _ | with_reducible refine Blank.drew ?_ | with_reducible refine Blank.set4 ?_ (by with_reducible assumption) _ _ _ _ | with_reducible refine Smm.alloc ?_ _ | with_reducible refine Smm.drew ?_ | with_reducible refine Smm.set4 ?_ (by with_reducible assumption) _ _ _ _ | with_reducible refine Mds.alloc ?_ _ | with_reducible refine Mds.drew ?_ | with_reducible refine Mds.set4 ?_ (by with_reducible assumption) _ _ _ _ | with_reducible refine Var.alloc ?_ _ | with_reducible refine Var.set4 ?_ (by with_reducible assumption) _ _ _ _ | with_reducible refine below_alloc hbx ?_ _ | with_reducible refine Below.drew ?_ | with_reducible refine Below.setCell ?_ (by with_reducible assumption) _ | with_reducible refine Has.fresh (by first | rfl | (simp; done) | fail) (by first | (simp; done) | fail) | with_reducible refine Has.alloc ?_ _ | with_reducible refine Has.drew ?_ | with_reducible refine Has.keep ?_ hb1 | with_reducible refine Hold.keep ?_ hb1 | with_reducible refine HoldM.keep ?_ hb1 | with_reducible refine Blank.keep ?_ hb1 | with_reducible refine Smm.keep ?_ hb1 | with_reducible refine Mds.keep ?_ hb1 | with_reducible refine Var.keep ?_ hb1 | with_reducible refine below_then hbx ?_ hb1)
  rintro _ W ⟨bu, B, hD, hX, hA, hS, hM, hR, hY, rfl⟩
  subst hbx
  clear BB geB QhD QhX QhA QhS QhM QhR ghX ghS lthD lthX lthA lthS lthM lthR
  have ghR := hR.cells
  go_wp2_with fail
  clear ghR
  with_reducible refine (nm.out _ _).mono ?_
  rintro e w9 ⟨rfl, hb⟩
  replace B := B.trans (hb.mono B.size)
  replace hD := hD.keep hb; replace hX := hX.keep hb; replace hA := hA.keep hb; replace hS := hS.keep hb; replace hM := hM.keep hb; replace hR := hR.keep hb; replace hY := hY.keep hb
  clear hb hD hX hA hS hM hR W
  have ghY := hY.cells
  go_wp2
  simp [bodyPost, results, Tryd.results6, go_sem]
  exact B
end Go.Proofs.YtfpiopjlcjckeaaDoor
