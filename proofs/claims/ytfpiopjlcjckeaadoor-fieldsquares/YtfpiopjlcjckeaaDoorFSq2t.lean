import Derived.Test.YtfpiopjlcjckeaaDoorFSum
import Derived.Test.YtfpiopjlcjckeaaDoorFUn
import Derived.Test.YtfpiopjlcjckeaaDoorFRootAny
import Derived.Test.YtfpiopjlcjckeaaDoorFGrown
namespace Go.Proofs.YtfpiopjlcjckeaaDoor
open Go.RowKit Go.Sort

set_option maxRecDepth 100000 in
set_option maxHeartbeats 16000000 in
theorem fsquares_2t {x y m V r mn pl rt ls hh eu xy s1 s2 z1 : Int}
    (O1 : Hid (∀ w, Mds w → Calls Tryd.prog 15 #[.int .i64 0] w fun e w' => e = .returned (.tuple #[.agg #[.int .u64 (l0 m), .int .u64 (l1 m), .int .u64 (l2 m), .int .u64 (l3 m)], .int .i64 0]) ∧ Below w.heap.size w w')) (P1 : Hid (∀ w b, Mds w → Smm w b 0 → Calls Tryd.prog 24 #[.pointer (some ⟨b, 0, none⟩), .agg #[.int .u64 (l0 x), .int .u64 (l1 x), .int .u64 (l2 x), .int .u64 (l3 x)], .agg #[.int .u64 (l0 x), .int .u64 (l1 x), .int .u64 (l2 x), .int .u64 (l3 x)]] w fun e w' => e = .returned (.agg #[.int .u64 (l0 V), .int .u64 (l1 V), .int .u64 (l2 V), .int .u64 (l3 V)]) ∧ Below w.heap.size w w')) (R1 : Hid (∀ w, Mds w → Calls Tryd.prog 31 #[.agg #[.int .u64 (l0 V), .int .u64 (l1 V), .int .u64 (l2 V), .int .u64 (l3 V)]] w fun e w' => e = .returned (.tuple #[.agg #[.int .u64 (l0 r), .int .u64 (l1 r), .int .u64 (l2 r), .int .u64 (l3 r)], .int .i64 0]) ∧ Below w.heap.size w w')) (N1 : Hid (∀ w, Mds w → Calls Tryd.prog 26 #[.int .i64 0, .agg #[.int .u64 (l0 r), .int .u64 (l1 r), .int .u64 (l2 r), .int .u64 (l3 r)]] w fun e w' => e = .returned (.tuple #[.agg #[.int .u64 (l0 mn), .int .u64 (l1 mn), .int .u64 (l2 mn), .int .u64 (l3 mn)], .int .i64 0]) ∧ Below w.heap.size w w'))
    (F1 : Hid (∀ w, Calls Tryd.prog 14 #[.int .u64 1] w fun e w' => e = .returned (.agg #[.int .u64 (l0 1), .int .u64 (l1 1), .int .u64 (l2 1), .int .u64 (l3 1)]) ∧ Below w.heap.size w w')) (P2 : Hid (∀ w b, Mds w → Smm w b 0 → Calls Tryd.prog 24 #[.pointer (some ⟨b, 0, none⟩), .agg #[.int .u64 (l0 x), .int .u64 (l1 x), .int .u64 (l2 x), .int .u64 (l3 x)], .agg #[.int .u64 (l0 1), .int .u64 (l1 1), .int .u64 (l2 1), .int .u64 (l3 1)]] w fun e w' => e = .returned (.agg #[.int .u64 (l0 pl), .int .u64 (l1 pl), .int .u64 (l2 pl), .int .u64 (l3 pl)]) ∧ Below w.heap.size w w')) (B1 : Hid (∀ w, Calls Tryd.prog 32 #[.agg #[.int .u64 (l0 r), .int .u64 (l1 r), .int .u64 (l2 r), .int .u64 (l3 r)], .int .i64 0] w fun e w' => e = .returned (.int .i64 0) ∧ Below w.heap.size w w')) (C1 : Hid (∀ w, Calls Tryd.prog 22 #[.agg #[.int .u64 (l0 r), .int .u64 (l1 r), .int .u64 (l2 r), .int .u64 (l3 r)], .agg #[.int .u64 (l0 m), .int .u64 (l1 m), .int .u64 (l2 m), .int .u64 (l3 m)]] w fun e w' => e = .returned (.int .i64 (-1)) ∧ Below w.heap.size w w'))
    (R2 : Hid (∀ w, Mds w → Calls Tryd.prog 31 #[.agg #[.int .u64 (l0 x), .int .u64 (l1 x), .int .u64 (l2 x), .int .u64 (l3 x)]] w fun e w' => e = .returned (.tuple #[.agg #[.int .u64 (l0 rt), .int .u64 (l1 rt), .int .u64 (l2 rt), .int .u64 (l3 rt)], .int .i64 41]) ∧ Below w.heap.size w w')) (Z1 : Hid (∀ w, Mds w → Calls Tryd.prog 33 #[.agg #[.int .u64 (l0 x), .int .u64 (l1 x), .int .u64 (l2 x), .int .u64 (l3 x)]] w fun e w' => e = .returned (.int .i64 (-1)) ∧ Below w.heap.size w w'))
    (S1 : Hid (∀ w, Calls Tryd.prog 28 #[.agg #[.int .u64 (l0 m), .int .u64 (l1 m), .int .u64 (l2 m), .int .u64 (l3 m)], .agg #[.int .u64 (l0 1), .int .u64 (l1 1), .int .u64 (l2 1), .int .u64 (l3 1)]] w fun e w' => e = .returned (.tuple #[.agg #[.int .u64 (l0 ls), .int .u64 (l1 ls), .int .u64 (l2 ls), .int .u64 (l3 ls)], .int .u64 z1]) ∧ Below w.heap.size w w')) (H1 : Hid (∀ w, Calls Tryd.prog 30 #[.agg #[.int .u64 (l0 ls), .int .u64 (l1 ls), .int .u64 (l2 ls), .int .u64 (l3 ls)], .int .i64 1] w fun e w' => e = .returned (.agg #[.int .u64 (l0 hh), .int .u64 (l1 hh), .int .u64 (l2 hh), .int .u64 (l3 hh)]) ∧ Below w.heap.size w w')) (X1 : Hid (∀ w, Mds w → Calls Tryd.prog 29 #[.int .i64 0, .agg #[.int .u64 (l0 x), .int .u64 (l1 x), .int .u64 (l2 x), .int .u64 (l3 x)], .agg #[.int .u64 (l0 hh), .int .u64 (l1 hh), .int .u64 (l2 hh), .int .u64 (l3 hh)]] w fun e w' => e = .returned (.tuple #[.agg #[.int .u64 (l0 eu), .int .u64 (l1 eu), .int .u64 (l2 eu), .int .u64 (l3 eu)], .int .i64 0]) ∧ Below w.heap.size w w'))
    (P4 : Hid (∀ w b, Mds w → Smm w b 0 → Calls Tryd.prog 24 #[.pointer (some ⟨b, 0, none⟩), .agg #[.int .u64 (l0 x), .int .u64 (l1 x), .int .u64 (l2 x), .int .u64 (l3 x)], .agg #[.int .u64 (l0 y), .int .u64 (l1 y), .int .u64 (l2 y), .int .u64 (l3 y)]] w fun e w' => e = .returned (.agg #[.int .u64 (l0 xy), .int .u64 (l1 xy), .int .u64 (l2 xy), .int .u64 (l3 xy)]) ∧ Below w.heap.size w w')) (Z2 : Hid (∀ w, Mds w → Calls Tryd.prog 33 #[.agg #[.int .u64 (l0 xy), .int .u64 (l1 xy), .int .u64 (l2 xy), .int .u64 (l3 xy)]] w fun e w' => e = .returned (.int .i64 s1) ∧ Below w.heap.size w w')) (Z3 : Hid (∀ w, Mds w → Calls Tryd.prog 33 #[.agg #[.int .u64 (l0 y), .int .u64 (l1 y), .int .u64 (l2 y), .int .u64 (l3 y)]] w fun e w' => e = .returned (.int .i64 s2) ∧ Below w.heap.size w w')) (es : (s1 == wrap64 (-s2)) = true)
    (q1 : ∀ w, (Op.equalIn 10000 30 (.agg #[.int .u64 (l0 r), .int .u64 (l1 r), .int .u64 (l2 r), .int .u64 (l3 r)]) (.agg #[.int .u64 (l0 pl), .int .u64 (l1 pl), .int .u64 (l2 pl), .int .u64 (l3 pl)])).run Tryd.prog w = .ok true w) (q4 : ∀ w, (Op.equalIn 10000 30 (.agg #[.int .u64 (l0 eu), .int .u64 (l1 eu), .int .u64 (l2 eu), .int .u64 (l3 eu)]) (.agg #[.int .u64 (l0 1), .int .u64 (l1 1), .int .u64 (l2 1), .int .u64 (l3 1)])).run Tryd.prog w = .ok false w) (q5 : ∀ w, (Op.equalIn 10000 30 (.agg #[.int .u64 (l0 eu), .int .u64 (l1 eu), .int .u64 (l2 eu), .int .u64 (l3 eu)]) (.agg #[.int .u64 (l0 ls), .int .u64 (l1 ls), .int .u64 (l2 ls), .int .u64 (l3 ls)])).run Tryd.prog w = .ok true w) (q6 : ∀ w, (Op.equalIn 10000 30 (.agg #[.int .u64 (l0 pl), .int .u64 (l1 pl), .int .u64 (l2 pl), .int .u64 (l3 pl)]) (.agg #[.int .u64 0, .int .u64 0, .int .u64 0, .int .u64 0])).run Tryd.prog w = .ok false w) (w : World) (hm : Mds w) :
    Calls Tryd.prog 7 #[.agg #[.int .u64 (l0 x), .int .u64 (l1 x), .int .u64 (l2 x), .int .u64 (l3 x)], .agg #[.int .u64 (l0 y), .int .u64 (l1 y), .int .u64 (l2 y), .int .u64 (l3 y)]] w fun e w' => e = .returned (.bool true) ∧ Below w.heap.size w w' := by
  have ey : ∀ n w, (Op.equalIn 10000 30 (.agg #[.int .u64 (l0 n), .int .u64 (l1 n), .int .u64 (l2 n), .int .u64 (l3 n)]) (.agg #[.int .u64 (l0 n), .int .u64 (l1 n), .int .u64 (l2 n), .int .u64 (l3 n)])).run Tryd.prog w = .ok true w := fun n w => eq_yes w
  have nm : Hid (∀ v w, Calls Tryd.prog 11 #[.int .i64 v] w fun e w' => e = .returned (.int .i64 v) ∧ Below w.heap.size w w') := fnum_any
  have bz := build_zero
  go_enter Tryd.func7, Tryd.ntmps7
  go_wp2_with fail
  refine calls_world (fun W => Below w.heap.size w W ∧ Mds W ∧ Hold W w.heap.size x ∧ Hold W (w.heap.size + 1) y ∧ Smm W (w.heap.size + 1 + 1) 0) ⟨by repeat (first | with_reducible exact Below.refl _ _ | with_reducible refine Below.alloc ?_ (by first | omega | (simp; done) | (simp; omega)) _), ((hm.alloc _).alloc _).alloc _, ((Hold.fresh (by simp)).alloc _).alloc _, (Hold.fresh (by simp)).alloc _, Smm.new (by simp)⟩ ?_
  rintro W ⟨B, hD, hX, hY, hS⟩
  generalize w.heap.size + 1 + 1 = bb at *
  generalize w.heap.size + 1 = bw at *
  with_reducible refine (O1.out _ hD).mono ?_
  rintro e w1 ⟨rfl, hb⟩
  replace B := B.trans (hb.mono B.size)
  replace hD := hD.keep hb; replace hX := hX.keep hb; replace hY := hY.keep hb; replace hS := hS.keep hb
  clear hb W
  have ghX := hX.allocs
  go_wp2_with fail
  refine calls_world (fun W => Below w.heap.size w W ∧ Mds W ∧ Hold W w.heap.size x ∧ Hold W bw y ∧ Smm W bb 0 ∧ Hold W w1.heap.size m) ⟨B.alloc B.size _, hD.alloc _, hX.alloc _, hY.alloc _, hS.alloc _, Hold.new _ _ _⟩ ?_
  clear B hD hX hY hS ghX
  rintro W ⟨B, hD, hX, hY, hS, hM⟩
  generalize w1.heap.size = bm at *
  with_reducible refine (P1.out _ _ hD hS).mono ?_
  rintro e w2 ⟨rfl, hb⟩
  replace B := B.trans (hb.mono B.size)
  replace hD := hD.keep hb; replace hX := hX.keep hb; replace hY := hY.keep hb; replace hS := hS.keep hb; replace hM := hM.keep hb
  clear hb W
  go_wp2_with fail
  refine calls_world (fun W => Below w.heap.size w W ∧ Mds W ∧ Hold W w.heap.size x ∧ Hold W bw y ∧ Smm W bb 0 ∧ Hold W bm m ∧ Hold W w2.heap.size V) ⟨B.alloc B.size _, hD.alloc _, hX.alloc _, hY.alloc _, hS.alloc _, hM.alloc _, Hold.new _ _ _⟩ ?_
  clear B hD hX hY hS hM 
  rintro W ⟨B, hD, hX, hY, hS, hM, hV⟩
  generalize w2.heap.size = bv at *
  with_reducible refine (R1.out _ hD).mono ?_
  rintro e w3 ⟨rfl, hb⟩
  replace B := B.trans (hb.mono B.size)
  replace hD := hD.keep hb; replace hX := hX.keep hb; replace hY := hY.keep hb; replace hS := hS.keep hb; replace hM := hM.keep hb; replace hV := hV.keep hb
  clear hb W
  go_wp2_with fail
  refine calls_world (fun W => Below w.heap.size w W ∧ Mds W ∧ Hold W w.heap.size x ∧ Hold W bw y ∧ Smm W bb 0 ∧ Hold W bm m ∧ Hold W bv V ∧ Hold W w3.heap.size r) ⟨B.alloc B.size _, hD.alloc _, hX.alloc _, hY.alloc _, hS.alloc _, hM.alloc _, hV.alloc _, Hold.new _ _ _⟩ ?_
  clear B hD hX hY hS hM hV 
  rintro W ⟨B, hD, hX, hY, hS, hM, hV, hR⟩
  generalize w3.heap.size = br at *
  clear hV
  with_reducible refine (N1.out _ hD).mono ?_
  rintro e w4 ⟨rfl, hb⟩
  replace B := B.trans (hb.mono B.size)
  replace hD := hD.keep hb; replace hX := hX.keep hb; replace hY := hY.keep hb; replace hS := hS.keep hb; replace hM := hM.keep hb; replace hR := hR.keep hb
  clear hb W
  go_wp2_with fail
  refine wp_world (fun W => Below w.heap.size w W ∧ Mds W ∧ Hold W w.heap.size x ∧ Hold W bw y ∧ Smm W bb 0 ∧ Hold W bm m ∧ Hold W br r ∧ Hold W w4.heap.size mn) ⟨B.alloc B.size _, hD.alloc _, hX.alloc _, hY.alloc _, hS.alloc _, hM.alloc _, hR.alloc _, Hold.new _ _ _⟩ ?_
  clear B hD hX hY hS hM hR 
  rintro W ⟨B, hD, hX, hY, hS, hM, hR, hN⟩
  generalize w4.heap.size = bn at *
  have lthD : 0 < W.heap.size := hD.lt
  have ghX := hX.cells
  have lthX : w.heap.size < W.heap.size := World.block_lt_of_cell? W _ hX.1
  have lthY : bw < W.heap.size := World.block_lt_of_cell? W _ hY.1
  have lthS : bb < W.heap.size := hS.lt
  have lthM : bm < W.heap.size := World.block_lt_of_cell? W _ hM.1
  have lthR : br < W.heap.size := World.block_lt_of_cell? W _ hR.1
  have lthN : bn < W.heap.size := World.block_lt_of_cell? W _ hN.1
  have BB : Hid (Below w.heap.size w W) := B
  have QhD : Hid (Mds W) := hD
  have QhX : Hid (Hold W w.heap.size x) := hX
  have QhY : Hid (Hold W bw y) := hY
  have QhS : Hid (Smm W bb 0) := hS
  have QhM : Hid (Hold W bm m) := hM
  have QhR : Hid (Hold W br r) := hR
  have QhN : Hid (Hold W bn mn) := hN
  have geB : w.heap.size ≤ W.heap.size := B.size
  clear B hD hX hY hS hM hR hN
  generalize hbx : w.heap.size = bx at *
  refine wp_out (fun a' W' => ∃ bp, Below bx w W' ∧ Mds W' ∧ Hold W' bx x ∧ Hold W' bw y ∧ Smm W' bb 0 ∧ Hold W' bm m ∧ Hold W' br r ∧ Hold W' bn mn ∧ Hold W' bp pl ∧ a' = { tmps := #[.agg #[.int .u64 (l0 x), .int .u64 (l1 x), .int .u64 (l2 x), .int .u64 (l3 x)], .agg #[.int .u64 (l0 y), .int .u64 (l1 y), .int .u64 (l2 y), .int .u64 (l3 y)], .pointer (some { block := bx, off := 0 }), .pointer (some { block := bw, off := 0 }), .bool false, .pointer (some { block := bb, off := 0 }), .pointer (some { block := bm, off := 0 }), .int .i64 0, .pointer (some { block := bv, off := 0 }), .pointer (some { block := br, off := 0 }), .int .i64 0, .pointer (some { block := bn, off := 0 }), .int .i64 0, .pointer (some { block := bp, off := 0 }), Go.undef, Go.undef, Go.undef, Go.undef, Go.undef, Go.undef, Go.undef, .agg #[.int .i64 0, .bool false], .pointer (some { block := bb, off := 0 }), .tuple #[.agg #[.int .u64 (l0 m), .int .u64 (l1 m), .int .u64 (l2 m), .int .u64 (l3 m)], .int .i64 0], .tuple #[.agg #[.int .u64 (l0 m), .int .u64 (l1 m), .int .u64 (l2 m), .int .u64 (l3 m)], .int .i64 0], .agg #[.int .u64 (l0 m), .int .u64 (l1 m), .int .u64 (l2 m), .int .u64 (l3 m)], .int .i64 0, .pointer (some { block := bb, off := 0 }), .agg #[.int .u64 (l0 x), .int .u64 (l1 x), .int .u64 (l2 x), .int .u64 (l3 x)], .agg #[.int .u64 (l0 x), .int .u64 (l1 x), .int .u64 (l2 x), .int .u64 (l3 x)], .agg #[.int .u64 (l0 V), .int .u64 (l1 V), .int .u64 (l2 V), .int .u64 (l3 V)], .tuple #[.agg #[.int .u64 (l0 r), .int .u64 (l1 r), .int .u64 (l2 r), .int .u64 (l3 r)], .int .i64 0], .agg #[.int .u64 (l0 V), .int .u64 (l1 V), .int .u64 (l2 V), .int .u64 (l3 V)], .tuple #[.agg #[.int .u64 (l0 r), .int .u64 (l1 r), .int .u64 (l2 r), .int .u64 (l3 r)], .int .i64 0], .agg #[.int .u64 (l0 r), .int .u64 (l1 r), .int .u64 (l2 r), .int .u64 (l3 r)], .int .i64 0, .tuple #[.agg #[.int .u64 (l0 mn), .int .u64 (l1 mn), .int .u64 (l2 mn), .int .u64 (l3 mn)], .int .i64 0], .agg #[.int .u64 (l0 r), .int .u64 (l1 r), .int .u64 (l2 r), .int .u64 (l3 r)], .tuple #[.agg #[.int .u64 (l0 mn), .int .u64 (l1 mn), .int .u64 (l2 mn), .int .u64 (l3 mn)], .int .i64 0], .agg #[.int .u64 (l0 mn), .int .u64 (l1 mn), .int .u64 (l2 mn), .int .u64 (l3 mn)], .int .i64 0, .pointer (some { block := bb, off := 0 }), .agg #[.int .u64 (l0 x), .int .u64 (l1 x), .int .u64 (l2 x), .int .u64 (l3 x)], .agg #[.int .u64 (l0 1), .int .u64 (l1 1), .int .u64 (l2 1), .int .u64 (l3 1)], .agg #[.int .u64 (l0 pl), .int .u64 (l1 pl), .int .u64 (l2 pl), .int .u64 (l3 pl)], Go.undef, Go.undef, Go.undef, Go.undef, Go.undef, Go.undef, Go.undef, Go.undef, Go.undef, Go.undef, Go.undef, Go.undef, Go.undef, Go.undef, Go.undef, Go.undef, Go.undef, Go.undef, Go.undef, Go.undef, Go.undef, Go.undef, Go.undef, Go.undef, Go.undef, Go.undef, Go.undef, Go.undef, Go.undef, Go.undef, Go.undef, Go.undef, Go.undef, Go.undef, Go.undef, Go.undef, Go.undef, Go.undef, Go.undef, Go.undef, Go.undef, Go.undef, Go.undef, Go.undef, Go.undef, Go.undef, Go.undef, Go.undef, Go.undef, Go.undef, Go.undef, Go.undef, Go.undef, Go.undef, Go.undef, Go.undef, Go.undef, Go.undef, Go.undef, Go.undef, Go.undef, Go.undef, Go.undef, Go.undef, Go.undef, Go.undef, Go.undef, Go.undef, Go.undef, Go.undef, Go.undef, Go.undef, Go.undef, Go.undef, Go.undef, Go.undef, Go.undef, Go.undef, Go.undef, Go.undef, Go.undef, Go.undef, Go.undef, Go.undef, Go.undef, Go.undef, Go.undef, Go.undef, Go.undef, Go.undef, Go.undef, Go.undef, Go.undef, Go.undef, Go.undef, Go.undef, Go.undef, Go.undef, Go.undef, Go.undef, Go.undef, Go.undef, Go.undef, Go.undef, Go.undef, Go.undef, Go.undef, Go.undef, Go.undef, Go.undef, Go.undef, Go.undef, Go.undef, Go.undef, Go.undef, Go.undef, Go.undef, Go.undef, Go.undef, Go.undef], defers := [] }) ?_ ?_
  · have dz : W.drew.heap.size = W.heap.size := rfl
    have _ : bx < W.heap.size := by omega
    have _ : bx ≤ W.heap.size := by omega
    have _ : bx < W.heap.size + 1 := by omega
    have _ : bx < W.heap.size + 1 + 1 := by omega
    have _ : bx ≠ W.heap.size := by omega
    have _ : W.heap.size ≠ bx := by omega
    have _ : bx ≠ W.heap.size + 1 := by omega
    have _ : W.heap.size + 1 ≠ bx := by omega
    have _ : bw < W.heap.size := by omega
    have _ : bw ≤ W.heap.size := by omega
    have _ : bw < W.heap.size + 1 := by omega
    have _ : bw < W.heap.size + 1 + 1 := by omega
    have _ : bw ≠ W.heap.size := by omega
    have _ : W.heap.size ≠ bw := by omega
    have _ : bw ≠ W.heap.size + 1 := by omega
    have _ : W.heap.size + 1 ≠ bw := by omega
    have _ : bb < W.heap.size := by omega
    have _ : bb ≤ W.heap.size := by omega
    have _ : bb < W.heap.size + 1 := by omega
    have _ : bb < W.heap.size + 1 + 1 := by omega
    have _ : bb ≠ W.heap.size := by omega
    have _ : W.heap.size ≠ bb := by omega
    have _ : bb ≠ W.heap.size + 1 := by omega
    have _ : W.heap.size + 1 ≠ bb := by omega
    have _ : bm < W.heap.size := by omega
    have _ : bm ≤ W.heap.size := by omega
    have _ : bm < W.heap.size + 1 := by omega
    have _ : bm < W.heap.size + 1 + 1 := by omega
    have _ : bm ≠ W.heap.size := by omega
    have _ : W.heap.size ≠ bm := by omega
    have _ : bm ≠ W.heap.size + 1 := by omega
    have _ : W.heap.size + 1 ≠ bm := by omega
    have _ : br < W.heap.size := by omega
    have _ : br ≤ W.heap.size := by omega
    have _ : br < W.heap.size + 1 := by omega
    have _ : br < W.heap.size + 1 + 1 := by omega
    have _ : br ≠ W.heap.size := by omega
    have _ : W.heap.size ≠ br := by omega
    have _ : br ≠ W.heap.size + 1 := by omega
    have _ : W.heap.size + 1 ≠ br := by omega
    have _ : bn < W.heap.size := by omega
    have _ : bn ≤ W.heap.size := by omega
    have _ : bn < W.heap.size + 1 := by omega
    have _ : bn < W.heap.size + 1 + 1 := by omega
    have _ : bn ≠ W.heap.size := by omega
    have _ : W.heap.size ≠ bn := by omega
    have _ : bn ≠ W.heap.size + 1 := by omega
    have _ : W.heap.size + 1 ≠ bn := by omega
    have _ : 0 < W.heap.size := by omega
    have _ : 0 ≤ W.heap.size := by omega
    have _ : 0 < W.heap.size + 1 := by omega
    have _ : 0 < W.heap.size + 1 + 1 := by omega
    have _ : 0 ≠ W.heap.size := by omega
    have _ : W.heap.size ≠ 0 := by omega
    have _ : 0 ≠ W.heap.size + 1 := by omega
    have _ : W.heap.size + 1 ≠ 0 := by omega
    go_region_held3 (fun w' => w'.cell? ⟨bx, 0, none⟩ = some (.int .u64 (l0 x)) ∧ w'.cell? ⟨bx, 1, none⟩ = some (.int .u64 (l1 x)) ∧ w'.cell? ⟨bx, 2, none⟩ = some (.int .u64 (l2 x)) ∧ w'.cell? ⟨bx, 3, none⟩ = some (.int .u64 (l3 x))) (((try dsimp only); (repeat' (apply And.intro)); (all_goals repeat (first | with_reducible assumption | with_reducible apply cell_keep hb2 | with_reducible apply cell_keep hb1 | with_reducible apply cell_alloc | (with_reducible refine cell_set ?_ (by with_reducible assumption)) | (simp [go_sem, *]; done)))))
      (first
        | (go_at_call 14; with_reducible refine (F1.out _).mono ?_; rintro e w1 ⟨rfl, hb1⟩; have hc1 := oldCells hb1; have hz1 := hb1.size; (try simp at hz1); (try (have := fun j => oldCells hb1 (W.heap.size) j (by first | omega | (simp; done) | (simp; omega)))); (try (have := fun j => oldCells hb1 (W.heap.size + 1) j (by first | omega | (simp; done) | (simp; omega)))); have _ : bx < w1.heap.size := (by omega); have _ : bx ≤ w1.heap.size := (by omega); have _ : bx < w1.heap.size + 1 := (by omega); have _ : bx < w1.heap.size + 1 + 1 := (by omega); have _ : bx ≠ w1.heap.size := (by omega); have _ : w1.heap.size ≠ bx := (by omega); have _ : bx ≠ w1.heap.size + 1 := (by omega); have _ : w1.heap.size + 1 ≠ bx := (by omega); have _ : bw < w1.heap.size := (by omega); have _ : bw ≤ w1.heap.size := (by omega); have _ : bw < w1.heap.size + 1 := (by omega); have _ : bw < w1.heap.size + 1 + 1 := (by omega); have _ : bw ≠ w1.heap.size := (by omega); have _ : w1.heap.size ≠ bw := (by omega); have _ : bw ≠ w1.heap.size + 1 := (by omega); have _ : w1.heap.size + 1 ≠ bw := (by omega); have _ : bb < w1.heap.size := (by omega); have _ : bb ≤ w1.heap.size := (by omega); have _ : bb < w1.heap.size + 1 := (by omega); have _ : bb < w1.heap.size + 1 + 1 := (by omega); have _ : bb ≠ w1.heap.size := (by omega); have _ : w1.heap.size ≠ bb := (by omega); have _ : bb ≠ w1.heap.size + 1 := (by omega); have _ : w1.heap.size + 1 ≠ bb := (by omega); have _ : bm < w1.heap.size := (by omega); have _ : bm ≤ w1.heap.size := (by omega); have _ : bm < w1.heap.size + 1 := (by omega); have _ : bm < w1.heap.size + 1 + 1 := (by omega); have _ : bm ≠ w1.heap.size := (by omega); have _ : w1.heap.size ≠ bm := (by omega); have _ : bm ≠ w1.heap.size + 1 := (by omega); have _ : w1.heap.size + 1 ≠ bm := (by omega); have _ : br < w1.heap.size := (by omega); have _ : br ≤ w1.heap.size := (by omega); have _ : br < w1.heap.size + 1 := (by omega); have _ : br < w1.heap.size + 1 + 1 := (by omega); have _ : br ≠ w1.heap.size := (by omega); have _ : w1.heap.size ≠ br := (by omega); have _ : br ≠ w1.heap.size + 1 := (by omega); have _ : w1.heap.size + 1 ≠ br := (by omega); have _ : bn < w1.heap.size := (by omega); have _ : bn ≤ w1.heap.size := (by omega); have _ : bn < w1.heap.size + 1 := (by omega); have _ : bn < w1.heap.size + 1 + 1 := (by omega); have _ : bn ≠ w1.heap.size := (by omega); have _ : w1.heap.size ≠ bn := (by omega); have _ : bn ≠ w1.heap.size + 1 := (by omega); have _ : w1.heap.size + 1 ≠ bn := (by omega); have _ : 0 < w1.heap.size := (by omega); have _ : 0 ≤ w1.heap.size := (by omega); have _ : 0 < w1.heap.size + 1 := (by omega); have _ : 0 < w1.heap.size + 1 + 1 := (by omega); have _ : 0 ≠ w1.heap.size := (by omega); have _ : w1.heap.size ≠ 0 := (by omega); have _ : 0 ≠ w1.heap.size + 1 := (by omega); have _ : w1.heap.size + 1 ≠ 0 := (by omega); (try (have _ : W.heap.size < w1.heap.size := (by omega))); (try (have _ : W.heap.size ≤ w1.heap.size := (by omega))); (try (have _ : W.heap.size ≠ w1.heap.size := (by omega))); (try (have _ : w1.heap.size ≠ W.heap.size := (by omega))); (try (have _ : W.heap.size < w1.heap.size + 1 := (by omega))); (try (have _ : W.heap.size + 1 < w1.heap.size := (by omega))); (try (have _ : W.heap.size + 1 ≤ w1.heap.size := (by omega))); (try (have _ : W.heap.size + 1 ≠ w1.heap.size := (by omega))); (try (have _ : w1.heap.size ≠ W.heap.size + 1 := (by omega))); (try (have _ : W.heap.size + 1 < w1.heap.size + 1 := (by omega))))
        | (go_at_call 24; with_reducible refine (P2.out _ _ (by repeat (first | with_reducible exact QhD.out | with_reducible refine Mds.alloc ?_ _ | with_reducible refine Mds.drew ?_ | with_reducible refine Mds.keep ?_ hb1)) (by repeat (first | with_reducible exact QhS.out | with_reducible refine Smm.alloc ?_ _ | with_reducible refine Smm.drew ?_ | with_reducible refine Smm.keep ?_ hb1))).mono ?_; rintro e w2 ⟨rfl, hb2⟩; have hc2 := oldCells hb2; have hz2 := hb2.size; (try simp at hz2); (try (have := fun j => oldCells hb2 (W.heap.size) j (by first | omega | (simp; done) | (simp; omega)))); (try (have := fun j => oldCells hb2 (W.heap.size + 1) j (by first | omega | (simp; done) | (simp; omega)))); (try (have := fun j => oldCells hb2 (w1.heap.size) j (by first | omega | (simp; done) | (simp; omega)))); (try (have := fun j => oldCells hb2 (w1.heap.size + 1) j (by first | omega | (simp; done) | (simp; omega)))); have _ : bx < w2.heap.size := (by omega); have _ : bx ≤ w2.heap.size := (by omega); have _ : bx < w2.heap.size + 1 := (by omega); have _ : bx < w2.heap.size + 1 + 1 := (by omega); have _ : bx ≠ w2.heap.size := (by omega); have _ : w2.heap.size ≠ bx := (by omega); have _ : bx ≠ w2.heap.size + 1 := (by omega); have _ : w2.heap.size + 1 ≠ bx := (by omega); have _ : bw < w2.heap.size := (by omega); have _ : bw ≤ w2.heap.size := (by omega); have _ : bw < w2.heap.size + 1 := (by omega); have _ : bw < w2.heap.size + 1 + 1 := (by omega); have _ : bw ≠ w2.heap.size := (by omega); have _ : w2.heap.size ≠ bw := (by omega); have _ : bw ≠ w2.heap.size + 1 := (by omega); have _ : w2.heap.size + 1 ≠ bw := (by omega); have _ : bb < w2.heap.size := (by omega); have _ : bb ≤ w2.heap.size := (by omega); have _ : bb < w2.heap.size + 1 := (by omega); have _ : bb < w2.heap.size + 1 + 1 := (by omega); have _ : bb ≠ w2.heap.size := (by omega); have _ : w2.heap.size ≠ bb := (by omega); have _ : bb ≠ w2.heap.size + 1 := (by omega); have _ : w2.heap.size + 1 ≠ bb := (by omega); have _ : bm < w2.heap.size := (by omega); have _ : bm ≤ w2.heap.size := (by omega); have _ : bm < w2.heap.size + 1 := (by omega); have _ : bm < w2.heap.size + 1 + 1 := (by omega); have _ : bm ≠ w2.heap.size := (by omega); have _ : w2.heap.size ≠ bm := (by omega); have _ : bm ≠ w2.heap.size + 1 := (by omega); have _ : w2.heap.size + 1 ≠ bm := (by omega); have _ : br < w2.heap.size := (by omega); have _ : br ≤ w2.heap.size := (by omega); have _ : br < w2.heap.size + 1 := (by omega); have _ : br < w2.heap.size + 1 + 1 := (by omega); have _ : br ≠ w2.heap.size := (by omega); have _ : w2.heap.size ≠ br := (by omega); have _ : br ≠ w2.heap.size + 1 := (by omega); have _ : w2.heap.size + 1 ≠ br := (by omega); have _ : bn < w2.heap.size := (by omega); have _ : bn ≤ w2.heap.size := (by omega); have _ : bn < w2.heap.size + 1 := (by omega); have _ : bn < w2.heap.size + 1 + 1 := (by omega); have _ : bn ≠ w2.heap.size := (by omega); have _ : w2.heap.size ≠ bn := (by omega); have _ : bn ≠ w2.heap.size + 1 := (by omega); have _ : w2.heap.size + 1 ≠ bn := (by omega); have _ : 0 < w2.heap.size := (by omega); have _ : 0 ≤ w2.heap.size := (by omega); have _ : 0 < w2.heap.size + 1 := (by omega); have _ : 0 < w2.heap.size + 1 + 1 := (by omega); have _ : 0 ≠ w2.heap.size := (by omega); have _ : w2.heap.size ≠ 0 := (by omega); have _ : 0 ≠ w2.heap.size + 1 := (by omega); have _ : w2.heap.size + 1 ≠ 0 := (by omega); (try (have _ : W.heap.size < w2.heap.size := (by omega))); (try (have _ : W.heap.size ≤ w2.heap.size := (by omega))); (try (have _ : W.heap.size ≠ w2.heap.size := (by omega))); (try (have _ : w2.heap.size ≠ W.heap.size := (by omega))); (try (have _ : W.heap.size < w2.heap.size + 1 := (by omega))); (try (have _ : W.heap.size + 1 < w2.heap.size := (by omega))); (try (have _ : W.heap.size + 1 ≤ w2.heap.size := (by omega))); (try (have _ : W.heap.size + 1 ≠ w2.heap.size := (by omega))); (try (have _ : w2.heap.size ≠ W.heap.size + 1 := (by omega))); (try (have _ : W.heap.size + 1 < w2.heap.size + 1 := (by omega))); (try (have _ : w1.heap.size < w2.heap.size := (by omega))); (try (have _ : w1.heap.size ≤ w2.heap.size := (by omega))); (try (have _ : w1.heap.size ≠ w2.heap.size := (by omega))); (try (have _ : w2.heap.size ≠ w1.heap.size := (by omega))); (try (have _ : w1.heap.size < w2.heap.size + 1 := (by omega))); (try (have _ : w1.heap.size + 1 < w2.heap.size := (by omega))); (try (have _ : w1.heap.size + 1 ≤ w2.heap.size := (by omega))); (try (have _ : w1.heap.size + 1 ≠ w2.heap.size := (by omega))); (try (have _ : w2.heap.size ≠ w1.heap.size + 1 := (by omega))); (try (have _ : w1.heap.size + 1 < w2.heap.size + 1 := (by omega)))))
    all_goals (refine OutQ.intro ⟨_, ?_, ?_, ?_, ?_, ?_, ?_, ?_, ?_, ?_, rfl⟩)
    all_goals repeat (first | with_reducible exact BB.out | with_reducible exact QhD.out | with_reducible exact QhX.out | with_reducible exact QhY.out | with_reducible exact QhS.out | with_reducible exact QhM.out | with_reducible exact QhR.out | with_reducible exact QhN.out | with_reducible refine Hold.fresh (by first | rfl | (simp; done) | fail) | with_reducible refine Hold.sets4 ?_ | with_reducible refine Var.new (by first | rfl | (simp; done) | fail) | with_reducible refine Hold.alloc ?_ _ | with_reducible refine Hold.drew ?_ | with_reducible refine Hold.set4 ?_ (by with_reducible assumption) _ _ _ _ | with_reducible refine HoldM.alloc ?_ _ | with_reducible refine HoldM.drew ?_ | with_reducible refine HoldM.set4 ?_ (by with_reducible assumption) _ _ _ _ | with_reducible refine Blank.alloc ?_ _ | with_reducible refine Blank.drew ?_ | with_reducible refine Blank.set4 ?_ (by with_reducible assumption) _ _ _ _ | with_reducible refine Smm.alloc ?_ _ | with_reducible refine Smm.drew ?_ | with_reducible refine Smm.set4 ?_ (by with_reducible assumption) _ _ _ _ | with_reducible refine Mds.alloc ?_ _ | with_reducible refine Mds.drew ?_ | with_reducible refine Mds.set4 ?_ (by with_reducible assumption) _ _ _ _ | with_reducible refine Var.alloc ?_ _ | with_reducible refine Var.set4 ?_ (by with_reducible assumption) _ _ _ _ | with_reducible refine below_alloc hbx ?_ _ | with_reducible refine Below.drew ?_ | with_reducible refine Below.setCell ?_ (by with_reducible assumption) _ | with_reducible refine Has.fresh (by first | rfl | (simp; done) | fail) (by first | (simp; done) | fail) | with_reducible refine Has.alloc ?_ _ | with_reducible refine Has.drew ?_ | with_reducible refine Has.keep ?_ hb2 | with_reducible refine Hold.keep ?_ hb2 | with_reducible refine HoldM.keep ?_ hb2 | with_reducible refine Blank.keep ?_ hb2 | with_reducible refine Smm.keep ?_ hb2 | with_reducible refine Mds.keep ?_ hb2 | with_reducible refine Var.keep ?_ hb2 | with_reducible refine below_then hbx ?_ hb2 | with_reducible refine Has.keep ?_ hb1 | with_reducible refine Hold.keep ?_ hb1 | with_reducible refine HoldM.keep ?_ hb1 | with_reducible refine Blank.keep ?_ hb1 | with_reducible refine Smm.keep ?_ hb1 | with_reducible refine Mds.keep ?_ hb1 | with_reducible refine Var.keep ?_ hb1 | with_reducible refine below_then hbx ?_ hb1)
  rintro _ W ⟨bp, B, hD, hX, hY, hS, hM, hR, hN, hP, rfl⟩
  subst hbx
  clear BB geB QhD QhX QhY QhS QhM QhR QhN ghX lthD lthX lthY lthS lthM lthR lthN
  have ghR := hR.cells
  go_wp2_with fail
  clear ghR
  with_reducible refine (B1.out _).mono ?_
  rintro e w5 ⟨rfl, hb⟩
  replace B := B.trans (hb.mono B.size)
  replace hD := hD.keep hb; replace hX := hX.keep hb; replace hY := hY.keep hb; replace hS := hS.keep hb; replace hM := hM.keep hb; replace hR := hR.keep hb; replace hN := hN.keep hb; replace hP := hP.keep hb
  clear hb W
  have ghR := hR.cells
  have ghN := hN.cells
  have ghP := hP.cells
  have ghM := hM.cells
  go_wp2_with fail
  refine calls_world (fun W => Below w.heap.size w W ∧ Mds W ∧ Hold W w.heap.size x ∧ Hold W bw y ∧ Smm W bb 0 ∧ Hold W bm m ∧ Hold W br r ∧ Hold W bn mn ∧ Hold W bp pl) ⟨B, hD, hX, hY, hS, hM, hR, hN, hP⟩ ?_
  clear B hD hX hY hS hM hR hN hP ghR ghN ghP ghM
  rintro W ⟨B, hD, hX, hY, hS, hM, hR, hN, hP⟩
  with_reducible refine (C1.out _).mono ?_
  rintro e w6 ⟨rfl, hb⟩
  replace B := B.trans (hb.mono B.size)
  replace hD := hD.keep hb; replace hX := hX.keep hb; replace hY := hY.keep hb; replace hS := hS.keep hb; replace hM := hM.keep hb; replace hR := hR.keep hb; replace hN := hN.keep hb; replace hP := hP.keep hb
  clear hb W
  have ghX := hX.cells
  go_wp2_with fail
  refine calls_world (fun W => Below w.heap.size w W ∧ Mds W ∧ Hold W w.heap.size x ∧ Hold W bw y ∧ Smm W bb 0 ∧ Hold W bm m ∧ Hold W br r ∧ Hold W bn mn ∧ Hold W bp pl) ⟨B, hD, hX, hY, hS, hM, hR, hN, hP⟩ ?_
  clear B hD hX hY hS hM hR hN hP ghX
  rintro W ⟨B, hD, hX, hY, hS, hM, hR, hN, hP⟩
  clear hR hN
  with_reducible refine (R2.out _ hD).mono ?_
  rintro e w7 ⟨rfl, hb⟩
  replace B := B.trans (hb.mono B.size)
  replace hD := hD.keep hb; replace hX := hX.keep hb; replace hY := hY.keep hb; replace hS := hS.keep hb; replace hM := hM.keep hb; replace hP := hP.keep hb
  clear hb W
  have ghX := hX.allocs
  go_wp2_with fail
  refine calls_world (fun W => Below w.heap.size w W ∧ Mds W ∧ Hold W w.heap.size x ∧ Hold W bw y ∧ Smm W bb 0 ∧ Hold W bm m ∧ Hold W bp pl ∧ Hold W w7.heap.size rt) ⟨B.alloc B.size _, hD.alloc _, hX.alloc _, hY.alloc _, hS.alloc _, hM.alloc _, hP.alloc _, Hold.new _ _ _⟩ ?_
  clear B hD hX hY hS hM hP ghX
  rintro W ⟨B, hD, hX, hY, hS, hM, hP, hQ⟩
  generalize w7.heap.size = bq at *
  with_reducible refine (Z1.out _ hD).mono ?_
  rintro e w8 ⟨rfl, hb⟩
  replace B := B.trans (hb.mono B.size)
  replace hD := hD.keep hb; replace hX := hX.keep hb; replace hY := hY.keep hb; replace hS := hS.keep hb; replace hM := hM.keep hb; replace hP := hP.keep hb; replace hQ := hQ.keep hb
  clear hb W
  go_wp2_with fail
  refine wp_world (fun W => Below w.heap.size w W ∧ Mds W ∧ Hold W w.heap.size x ∧ Hold W bw y ∧ Smm W bb 0 ∧ Hold W bm m ∧ Hold W bp pl ∧ Hold W bq rt) ⟨B, hD, hX, hY, hS, hM, hP, hQ⟩ ?_
  clear B hD hX hY hS hM hP hQ 
  rintro W ⟨B, hD, hX, hY, hS, hM, hP, hQ⟩
  have ghQ := hQ.grown
  have ghP := hP.grown
  have hDg : ∀ d os, Mds (grow (redrawn W d) os) := fun d os => hD.keep (below_regrown W d os)
  have hSg := fun d os => hS.keep (below_regrown W d os)
  refine wp_region_quiet_below (by kernel_rfl) (by kernel_rfl) ?_
  repeat
    first
      | go_big_quiet_skip
      | (go_big_quiet_want; go_big_quiet_op; go_big_quiet_on)
      | (go_big_quiet_want
         go_big_quiet_op
         apply Exists.intro
         refine ⟨fun p => ?_, ?_⟩
         · (first | (go_at_call 11; with_reducible exact Calls.regrown_of (nm.out _ _)))
         go_big_quiet_on)
  refine wpQuiet_nil ?_
  rintro w9 ⟨p, rfl⟩
  have hb := below_regrown W p.d p.os
  generalize grow (redrawn W p.d) p.os = w9 at *
  replace B := B.trans (hb.mono B.size)
  replace hD := hD.keep hb; replace hX := hX.keep hb; replace hY := hY.keep hb; replace hS := hS.keep hb; replace hM := hM.keep hb; replace hP := hP.keep hb; replace hQ := hQ.keep hb
  clear hb W ghQ ghP hDg hSg
  clear hQ
  go_wp2_with fail
  skip
  refine wp_world (fun W => Below w.heap.size w W ∧ Mds W ∧ Hold W w.heap.size x ∧ Hold W bw y ∧ Smm W bb 0 ∧ Hold W bm m ∧ Hold W bp pl) ⟨B, hD, hX, hY, hS, hM, hP⟩ ?_
  clear B hD hX hY hS hM hP
  rintro W ⟨B, hD, hX, hY, hS, hM, hP⟩
  clear w9
  have lthD : 0 < W.heap.size := hD.lt
  have lthX : w.heap.size < W.heap.size := World.block_lt_of_cell? W _ hX.1
  have lthY : bw < W.heap.size := World.block_lt_of_cell? W _ hY.1
  have lthS : bb < W.heap.size := hS.lt
  have ghM := hM.cells
  have lthM : bm < W.heap.size := World.block_lt_of_cell? W _ hM.1
  have lthP : bp < W.heap.size := World.block_lt_of_cell? W _ hP.1
  have BB : Hid (Below w.heap.size w W) := B
  have QhD : Hid (Mds W) := hD
  have QhX : Hid (Hold W w.heap.size x) := hX
  have QhY : Hid (Hold W bw y) := hY
  have QhS : Hid (Smm W bb 0) := hS
  have QhM : Hid (Hold W bm m) := hM
  have QhP : Hid (Hold W bp pl) := hP
  have geB : w.heap.size ≤ W.heap.size := B.size
  clear B hD hX hY hS hM hP
  generalize hbx : w.heap.size = bx at *
  refine wp_out (fun a' W' => ∃ bl, Below bx w W' ∧ Mds W' ∧ Hold W' bx x ∧ Hold W' bw y ∧ Smm W' bb 0 ∧ Hold W' bm m ∧ Hold W' bp pl ∧ Hold W' bl ls ∧ a' = { tmps := #[.agg #[.int .u64 (l0 x), .int .u64 (l1 x), .int .u64 (l2 x), .int .u64 (l3 x)], .agg #[.int .u64 (l0 y), .int .u64 (l1 y), .int .u64 (l2 y), .int .u64 (l3 y)], .pointer (some { block := bx, off := 0 }), .pointer (some { block := bw, off := 0 }), .bool false, .pointer (some { block := bb, off := 0 }), .pointer (some { block := bm, off := 0 }), .int .i64 0, .pointer (some { block := bv, off := 0 }), .pointer (some { block := br, off := 0 }), .int .i64 0, .pointer (some { block := bn, off := 0 }), .int .i64 0, .pointer (some { block := bp, off := 0 }), .pointer (some { block := bq, off := 0 }), .int .i64 41, .int .i64 (-1), .pointer (some { block := bl, off := 0 }), .int .u64 z1, Go.undef, Go.undef, .agg #[.int .i64 0, .bool false], .pointer (some { block := bb, off := 0 }), .tuple #[.agg #[.int .u64 (l0 m), .int .u64 (l1 m), .int .u64 (l2 m), .int .u64 (l3 m)], .int .i64 0], .tuple #[.agg #[.int .u64 (l0 m), .int .u64 (l1 m), .int .u64 (l2 m), .int .u64 (l3 m)], .int .i64 0], .agg #[.int .u64 (l0 m), .int .u64 (l1 m), .int .u64 (l2 m), .int .u64 (l3 m)], .int .i64 0, .pointer (some { block := bb, off := 0 }), .agg #[.int .u64 (l0 x), .int .u64 (l1 x), .int .u64 (l2 x), .int .u64 (l3 x)], .agg #[.int .u64 (l0 x), .int .u64 (l1 x), .int .u64 (l2 x), .int .u64 (l3 x)], .agg #[.int .u64 (l0 V), .int .u64 (l1 V), .int .u64 (l2 V), .int .u64 (l3 V)], .tuple #[.agg #[.int .u64 (l0 r), .int .u64 (l1 r), .int .u64 (l2 r), .int .u64 (l3 r)], .int .i64 0], .agg #[.int .u64 (l0 V), .int .u64 (l1 V), .int .u64 (l2 V), .int .u64 (l3 V)], .tuple #[.agg #[.int .u64 (l0 r), .int .u64 (l1 r), .int .u64 (l2 r), .int .u64 (l3 r)], .int .i64 0], .agg #[.int .u64 (l0 r), .int .u64 (l1 r), .int .u64 (l2 r), .int .u64 (l3 r)], .int .i64 0, .tuple #[.agg #[.int .u64 (l0 mn), .int .u64 (l1 mn), .int .u64 (l2 mn), .int .u64 (l3 mn)], .int .i64 0], .agg #[.int .u64 (l0 r), .int .u64 (l1 r), .int .u64 (l2 r), .int .u64 (l3 r)], .tuple #[.agg #[.int .u64 (l0 mn), .int .u64 (l1 mn), .int .u64 (l2 mn), .int .u64 (l3 mn)], .int .i64 0], .agg #[.int .u64 (l0 mn), .int .u64 (l1 mn), .int .u64 (l2 mn), .int .u64 (l3 mn)], .int .i64 0, .pointer (some { block := bb, off := 0 }), .agg #[.int .u64 (l0 x), .int .u64 (l1 x), .int .u64 (l2 x), .int .u64 (l3 x)], .agg #[.int .u64 (l0 1), .int .u64 (l1 1), .int .u64 (l2 1), .int .u64 (l3 1)], .agg #[.int .u64 (l0 pl), .int .u64 (l1 pl), .int .u64 (l2 pl), .int .u64 (l3 pl)], .int .i64 0, .bool false, .bool false, .int .i64 0, .bool false, .bool false, .bool false, .int .i64 0, .bool false, .bool false, .bool false, .agg #[.int .u64 (l0 r), .int .u64 (l1 r), .int .u64 (l2 r), .int .u64 (l3 r)], .int .i64 0, .bool false, .bool false, .bool false, .agg #[.int .u64 (l0 r), .int .u64 (l1 r), .int .u64 (l2 r), .int .u64 (l3 r)], .agg #[.int .u64 (l0 pl), .int .u64 (l1 pl), .int .u64 (l2 pl), .int .u64 (l3 pl)], .bool false, .bool false, Go.undef, Go.undef, Go.undef, .bool false, .bool false, .bool false, .agg #[.int .u64 (l0 r), .int .u64 (l1 r), .int .u64 (l2 r), .int .u64 (l3 r)], .agg #[.int .u64 (l0 m), .int .u64 (l1 m), .int .u64 (l2 m), .int .u64 (l3 m)], .int .i64 (-1), .bool false, .bool false, .tuple #[.agg #[.int .u64 (l0 rt), .int .u64 (l1 rt), .int .u64 (l2 rt), .int .u64 (l3 rt)], .int .i64 41], .agg #[.int .u64 (l0 x), .int .u64 (l1 x), .int .u64 (l2 x), .int .u64 (l3 x)], .tuple #[.agg #[.int .u64 (l0 rt), .int .u64 (l1 rt), .int .u64 (l2 rt), .int .u64 (l3 rt)], .int .i64 41], .agg #[.int .u64 (l0 rt), .int .u64 (l1 rt), .int .u64 (l2 rt), .int .u64 (l3 rt)], .int .i64 41, .agg #[.int .u64 (l0 x), .int .u64 (l1 x), .int .u64 (l2 x), .int .u64 (l3 x)], .int .i64 (-1), .int .i64 41, .bool false, .int .i64 (-1), .bool false, .bool false, .bool false, .int .i64 41, .bool false, .bool false, Go.undef, Go.undef, Go.undef, Go.undef, Go.undef, Go.undef, .bool false, .bool false, .bool false, .int .i64 41, .bool true, .bool true, .int .i64 41, .int .i64 41, .bool false, .bool false, .bool false, .tuple #[.agg #[.int .u64 (l0 ls), .int .u64 (l1 ls), .int .u64 (l2 ls), .int .u64 (l3 ls)], .int .u64 z1], .agg #[.int .u64 (l0 m), .int .u64 (l1 m), .int .u64 (l2 m), .int .u64 (l3 m)], .agg #[.int .u64 (l0 1), .int .u64 (l1 1), .int .u64 (l2 1), .int .u64 (l3 1)], .tuple #[.agg #[.int .u64 (l0 ls), .int .u64 (l1 ls), .int .u64 (l2 ls), .int .u64 (l3 ls)], .int .u64 z1], .agg #[.int .u64 (l0 ls), .int .u64 (l1 ls), .int .u64 (l2 ls), .int .u64 (l3 ls)], .int .u64 z1, Go.undef, Go.undef, Go.undef, Go.undef, Go.undef, Go.undef, Go.undef, Go.undef, Go.undef, Go.undef, Go.undef, Go.undef, Go.undef, Go.undef, Go.undef, Go.undef, Go.undef, Go.undef, Go.undef, Go.undef, Go.undef, Go.undef, Go.undef, Go.undef, Go.undef, Go.undef, Go.undef, Go.undef, Go.undef, Go.undef, Go.undef, Go.undef, Go.undef, Go.undef, Go.undef, Go.undef, Go.undef, Go.undef, Go.undef, Go.undef, Go.undef, Go.undef, Go.undef, Go.undef, Go.undef, Go.undef, Go.undef, Go.undef, Go.undef, Go.undef], defers := [] }) ?_ ?_
  · have dz : W.drew.heap.size = W.heap.size := rfl
    have _ : bx < W.heap.size := by omega
    have _ : bx ≤ W.heap.size := by omega
    have _ : bx < W.heap.size + 1 := by omega
    have _ : bx < W.heap.size + 1 + 1 := by omega
    have _ : bx ≠ W.heap.size := by omega
    have _ : W.heap.size ≠ bx := by omega
    have _ : bx ≠ W.heap.size + 1 := by omega
    have _ : W.heap.size + 1 ≠ bx := by omega
    have _ : bw < W.heap.size := by omega
    have _ : bw ≤ W.heap.size := by omega
    have _ : bw < W.heap.size + 1 := by omega
    have _ : bw < W.heap.size + 1 + 1 := by omega
    have _ : bw ≠ W.heap.size := by omega
    have _ : W.heap.size ≠ bw := by omega
    have _ : bw ≠ W.heap.size + 1 := by omega
    have _ : W.heap.size + 1 ≠ bw := by omega
    have _ : bb < W.heap.size := by omega
    have _ : bb ≤ W.heap.size := by omega
    have _ : bb < W.heap.size + 1 := by omega
    have _ : bb < W.heap.size + 1 + 1 := by omega
    have _ : bb ≠ W.heap.size := by omega
    have _ : W.heap.size ≠ bb := by omega
    have _ : bb ≠ W.heap.size + 1 := by omega
    have _ : W.heap.size + 1 ≠ bb := by omega
    have _ : bm < W.heap.size := by omega
    have _ : bm ≤ W.heap.size := by omega
    have _ : bm < W.heap.size + 1 := by omega
    have _ : bm < W.heap.size + 1 + 1 := by omega
    have _ : bm ≠ W.heap.size := by omega
    have _ : W.heap.size ≠ bm := by omega
    have _ : bm ≠ W.heap.size + 1 := by omega
    have _ : W.heap.size + 1 ≠ bm := by omega
    have _ : bp < W.heap.size := by omega
    have _ : bp ≤ W.heap.size := by omega
    have _ : bp < W.heap.size + 1 := by omega
    have _ : bp < W.heap.size + 1 + 1 := by omega
    have _ : bp ≠ W.heap.size := by omega
    have _ : W.heap.size ≠ bp := by omega
    have _ : bp ≠ W.heap.size + 1 := by omega
    have _ : W.heap.size + 1 ≠ bp := by omega
    have _ : 0 < W.heap.size := by omega
    have _ : 0 ≤ W.heap.size := by omega
    have _ : 0 < W.heap.size + 1 := by omega
    have _ : 0 < W.heap.size + 1 + 1 := by omega
    have _ : 0 ≠ W.heap.size := by omega
    have _ : W.heap.size ≠ 0 := by omega
    have _ : 0 ≠ W.heap.size + 1 := by omega
    have _ : W.heap.size + 1 ≠ 0 := by omega
    go_region_held3 (fun w' => w'.cell? ⟨bm, 0, none⟩ = some (.int .u64 (l0 m)) ∧ w'.cell? ⟨bm, 1, none⟩ = some (.int .u64 (l1 m)) ∧ w'.cell? ⟨bm, 2, none⟩ = some (.int .u64 (l2 m)) ∧ w'.cell? ⟨bm, 3, none⟩ = some (.int .u64 (l3 m))) (((try dsimp only); (repeat' (apply And.intro)); (all_goals repeat (first | with_reducible assumption | with_reducible apply cell_keep hb2 | with_reducible apply cell_keep hb1 | with_reducible apply cell_alloc | (with_reducible refine cell_set ?_ (by with_reducible assumption)) | (simp [go_sem, *]; done)))))
      (first
        | (go_at_call 14; with_reducible refine (F1.out _).mono ?_; rintro e w1 ⟨rfl, hb1⟩; have hc1 := oldCells hb1; have hz1 := hb1.size; (try simp at hz1); (try (have := fun j => oldCells hb1 (W.heap.size) j (by first | omega | (simp; done) | (simp; omega)))); (try (have := fun j => oldCells hb1 (W.heap.size + 1) j (by first | omega | (simp; done) | (simp; omega)))); have _ : bx < w1.heap.size := (by omega); have _ : bx ≤ w1.heap.size := (by omega); have _ : bx < w1.heap.size + 1 := (by omega); have _ : bx < w1.heap.size + 1 + 1 := (by omega); have _ : bx ≠ w1.heap.size := (by omega); have _ : w1.heap.size ≠ bx := (by omega); have _ : bx ≠ w1.heap.size + 1 := (by omega); have _ : w1.heap.size + 1 ≠ bx := (by omega); have _ : bw < w1.heap.size := (by omega); have _ : bw ≤ w1.heap.size := (by omega); have _ : bw < w1.heap.size + 1 := (by omega); have _ : bw < w1.heap.size + 1 + 1 := (by omega); have _ : bw ≠ w1.heap.size := (by omega); have _ : w1.heap.size ≠ bw := (by omega); have _ : bw ≠ w1.heap.size + 1 := (by omega); have _ : w1.heap.size + 1 ≠ bw := (by omega); have _ : bb < w1.heap.size := (by omega); have _ : bb ≤ w1.heap.size := (by omega); have _ : bb < w1.heap.size + 1 := (by omega); have _ : bb < w1.heap.size + 1 + 1 := (by omega); have _ : bb ≠ w1.heap.size := (by omega); have _ : w1.heap.size ≠ bb := (by omega); have _ : bb ≠ w1.heap.size + 1 := (by omega); have _ : w1.heap.size + 1 ≠ bb := (by omega); have _ : bm < w1.heap.size := (by omega); have _ : bm ≤ w1.heap.size := (by omega); have _ : bm < w1.heap.size + 1 := (by omega); have _ : bm < w1.heap.size + 1 + 1 := (by omega); have _ : bm ≠ w1.heap.size := (by omega); have _ : w1.heap.size ≠ bm := (by omega); have _ : bm ≠ w1.heap.size + 1 := (by omega); have _ : w1.heap.size + 1 ≠ bm := (by omega); have _ : bp < w1.heap.size := (by omega); have _ : bp ≤ w1.heap.size := (by omega); have _ : bp < w1.heap.size + 1 := (by omega); have _ : bp < w1.heap.size + 1 + 1 := (by omega); have _ : bp ≠ w1.heap.size := (by omega); have _ : w1.heap.size ≠ bp := (by omega); have _ : bp ≠ w1.heap.size + 1 := (by omega); have _ : w1.heap.size + 1 ≠ bp := (by omega); have _ : 0 < w1.heap.size := (by omega); have _ : 0 ≤ w1.heap.size := (by omega); have _ : 0 < w1.heap.size + 1 := (by omega); have _ : 0 < w1.heap.size + 1 + 1 := (by omega); have _ : 0 ≠ w1.heap.size := (by omega); have _ : w1.heap.size ≠ 0 := (by omega); have _ : 0 ≠ w1.heap.size + 1 := (by omega); have _ : w1.heap.size + 1 ≠ 0 := (by omega); (try (have _ : W.heap.size < w1.heap.size := (by omega))); (try (have _ : W.heap.size ≤ w1.heap.size := (by omega))); (try (have _ : W.heap.size ≠ w1.heap.size := (by omega))); (try (have _ : w1.heap.size ≠ W.heap.size := (by omega))); (try (have _ : W.heap.size < w1.heap.size + 1 := (by omega))); (try (have _ : W.heap.size + 1 < w1.heap.size := (by omega))); (try (have _ : W.heap.size + 1 ≤ w1.heap.size := (by omega))); (try (have _ : W.heap.size + 1 ≠ w1.heap.size := (by omega))); (try (have _ : w1.heap.size ≠ W.heap.size + 1 := (by omega))); (try (have _ : W.heap.size + 1 < w1.heap.size + 1 := (by omega))))
        | (go_at_call 28; with_reducible refine (S1.out _).mono ?_; rintro e w2 ⟨rfl, hb2⟩; have hc2 := oldCells hb2; have hz2 := hb2.size; (try simp at hz2); (try (have := fun j => oldCells hb2 (W.heap.size) j (by first | omega | (simp; done) | (simp; omega)))); (try (have := fun j => oldCells hb2 (W.heap.size + 1) j (by first | omega | (simp; done) | (simp; omega)))); (try (have := fun j => oldCells hb2 (w1.heap.size) j (by first | omega | (simp; done) | (simp; omega)))); (try (have := fun j => oldCells hb2 (w1.heap.size + 1) j (by first | omega | (simp; done) | (simp; omega)))); have _ : bx < w2.heap.size := (by omega); have _ : bx ≤ w2.heap.size := (by omega); have _ : bx < w2.heap.size + 1 := (by omega); have _ : bx < w2.heap.size + 1 + 1 := (by omega); have _ : bx ≠ w2.heap.size := (by omega); have _ : w2.heap.size ≠ bx := (by omega); have _ : bx ≠ w2.heap.size + 1 := (by omega); have _ : w2.heap.size + 1 ≠ bx := (by omega); have _ : bw < w2.heap.size := (by omega); have _ : bw ≤ w2.heap.size := (by omega); have _ : bw < w2.heap.size + 1 := (by omega); have _ : bw < w2.heap.size + 1 + 1 := (by omega); have _ : bw ≠ w2.heap.size := (by omega); have _ : w2.heap.size ≠ bw := (by omega); have _ : bw ≠ w2.heap.size + 1 := (by omega); have _ : w2.heap.size + 1 ≠ bw := (by omega); have _ : bb < w2.heap.size := (by omega); have _ : bb ≤ w2.heap.size := (by omega); have _ : bb < w2.heap.size + 1 := (by omega); have _ : bb < w2.heap.size + 1 + 1 := (by omega); have _ : bb ≠ w2.heap.size := (by omega); have _ : w2.heap.size ≠ bb := (by omega); have _ : bb ≠ w2.heap.size + 1 := (by omega); have _ : w2.heap.size + 1 ≠ bb := (by omega); have _ : bm < w2.heap.size := (by omega); have _ : bm ≤ w2.heap.size := (by omega); have _ : bm < w2.heap.size + 1 := (by omega); have _ : bm < w2.heap.size + 1 + 1 := (by omega); have _ : bm ≠ w2.heap.size := (by omega); have _ : w2.heap.size ≠ bm := (by omega); have _ : bm ≠ w2.heap.size + 1 := (by omega); have _ : w2.heap.size + 1 ≠ bm := (by omega); have _ : bp < w2.heap.size := (by omega); have _ : bp ≤ w2.heap.size := (by omega); have _ : bp < w2.heap.size + 1 := (by omega); have _ : bp < w2.heap.size + 1 + 1 := (by omega); have _ : bp ≠ w2.heap.size := (by omega); have _ : w2.heap.size ≠ bp := (by omega); have _ : bp ≠ w2.heap.size + 1 := (by omega); have _ : w2.heap.size + 1 ≠ bp := (by omega); have _ : 0 < w2.heap.size := (by omega); have _ : 0 ≤ w2.heap.size := (by omega); have _ : 0 < w2.heap.size + 1 := (by omega); have _ : 0 < w2.heap.size + 1 + 1 := (by omega); have _ : 0 ≠ w2.heap.size := (by omega); have _ : w2.heap.size ≠ 0 := (by omega); have _ : 0 ≠ w2.heap.size + 1 := (by omega); have _ : w2.heap.size + 1 ≠ 0 := (by omega); (try (have _ : W.heap.size < w2.heap.size := (by omega))); (try (have _ : W.heap.size ≤ w2.heap.size := (by omega))); (try (have _ : W.heap.size ≠ w2.heap.size := (by omega))); (try (have _ : w2.heap.size ≠ W.heap.size := (by omega))); (try (have _ : W.heap.size < w2.heap.size + 1 := (by omega))); (try (have _ : W.heap.size + 1 < w2.heap.size := (by omega))); (try (have _ : W.heap.size + 1 ≤ w2.heap.size := (by omega))); (try (have _ : W.heap.size + 1 ≠ w2.heap.size := (by omega))); (try (have _ : w2.heap.size ≠ W.heap.size + 1 := (by omega))); (try (have _ : W.heap.size + 1 < w2.heap.size + 1 := (by omega))); (try (have _ : w1.heap.size < w2.heap.size := (by omega))); (try (have _ : w1.heap.size ≤ w2.heap.size := (by omega))); (try (have _ : w1.heap.size ≠ w2.heap.size := (by omega))); (try (have _ : w2.heap.size ≠ w1.heap.size := (by omega))); (try (have _ : w1.heap.size < w2.heap.size + 1 := (by omega))); (try (have _ : w1.heap.size + 1 < w2.heap.size := (by omega))); (try (have _ : w1.heap.size + 1 ≤ w2.heap.size := (by omega))); (try (have _ : w1.heap.size + 1 ≠ w2.heap.size := (by omega))); (try (have _ : w2.heap.size ≠ w1.heap.size + 1 := (by omega))); (try (have _ : w1.heap.size + 1 < w2.heap.size + 1 := (by omega)))))
    all_goals (refine OutQ.intro ⟨_, ?_, ?_, ?_, ?_, ?_, ?_, ?_, ?_, rfl⟩)
    all_goals repeat (first | with_reducible exact BB.out | with_reducible exact QhD.out | with_reducible exact QhX.out | with_reducible exact QhY.out | with_reducible exact QhS.out | with_reducible exact QhM.out | with_reducible exact QhP.out | with_reducible refine Hold.fresh (by first | rfl | (simp; done) | fail) | with_reducible refine Hold.sets4 ?_ | with_reducible refine Var.new (by first | rfl | (simp; done) | fail) | with_reducible refine Hold.alloc ?_ _ | with_reducible refine Hold.drew ?_ | with_reducible refine Hold.set4 ?_ (by with_reducible assumption) _ _ _ _ | with_reducible refine HoldM.alloc ?_ _ | with_reducible refine HoldM.drew ?_ | with_reducible refine HoldM.set4 ?_ (by with_reducible assumption) _ _ _ _ | with_reducible refine Blank.alloc ?_ _ | with_reducible refine Blank.drew ?_ | with_reducible refine Blank.set4 ?_ (by with_reducible assumption) _ _ _ _ | with_reducible refine Smm.alloc ?_ _ | with_reducible refine Smm.drew ?_ | with_reducible refine Smm.set4 ?_ (by with_reducible assumption) _ _ _ _ | with_reducible refine Mds.alloc ?_ _ | with_reducible refine Mds.drew ?_ | with_reducible refine Mds.set4 ?_ (by with_reducible assumption) _ _ _ _ | with_reducible refine Var.alloc ?_ _ | with_reducible refine Var.set4 ?_ (by with_reducible assumption) _ _ _ _ | with_reducible refine below_alloc hbx ?_ _ | with_reducible refine Below.drew ?_ | with_reducible refine Below.setCell ?_ (by with_reducible assumption) _ | with_reducible refine Has.fresh (by first | rfl | (simp; done) | fail) (by first | (simp; done) | fail) | with_reducible refine Has.alloc ?_ _ | with_reducible refine Has.drew ?_ | with_reducible refine Has.keep ?_ hb2 | with_reducible refine Hold.keep ?_ hb2 | with_reducible refine HoldM.keep ?_ hb2 | with_reducible refine Blank.keep ?_ hb2 | with_reducible refine Smm.keep ?_ hb2 | with_reducible refine Mds.keep ?_ hb2 | with_reducible refine Var.keep ?_ hb2 | with_reducible refine below_then hbx ?_ hb2 | with_reducible refine Has.keep ?_ hb1 | with_reducible refine Hold.keep ?_ hb1 | with_reducible refine HoldM.keep ?_ hb1 | with_reducible refine Blank.keep ?_ hb1 | with_reducible refine Smm.keep ?_ hb1 | with_reducible refine Mds.keep ?_ hb1 | with_reducible refine Var.keep ?_ hb1 | with_reducible refine below_then hbx ?_ hb1)
  rintro _ W ⟨bl, B, hD, hX, hY, hS, hM, hP, hL, rfl⟩
  subst hbx
  clear BB geB QhD QhX QhY QhS QhM QhP ghM lthD lthX lthY lthS lthM lthP
  go_wp2_with fail
  clear hM
  have lthD : 0 < W.heap.size := hD.lt
  have ghX := hX.cells
  have lthX : w.heap.size < W.heap.size := World.block_lt_of_cell? W _ hX.1
  have lthY : bw < W.heap.size := World.block_lt_of_cell? W _ hY.1
  have lthS : bb < W.heap.size := hS.lt
  have lthP : bp < W.heap.size := World.block_lt_of_cell? W _ hP.1
  have ghL := hL.cells
  have lthL : bl < W.heap.size := World.block_lt_of_cell? W _ hL.1
  have BB : Hid (Below w.heap.size w W) := B
  have QhD : Hid (Mds W) := hD
  have QhX : Hid (Hold W w.heap.size x) := hX
  have QhY : Hid (Hold W bw y) := hY
  have QhS : Hid (Smm W bb 0) := hS
  have QhP : Hid (Hold W bp pl) := hP
  have QhL : Hid (Hold W bl ls) := hL
  have geB : w.heap.size ≤ W.heap.size := B.size
  clear B hD hX hY hS hP hL
  generalize hbx : w.heap.size = bx at *
  refine wp_out (fun a' W' => ∃ be, Below bx w W' ∧ Mds W' ∧ Hold W' bx x ∧ Hold W' bw y ∧ Smm W' bb 0 ∧ Hold W' bp pl ∧ Hold W' bl ls ∧ Hold W' be eu ∧ a' = { tmps := #[.agg #[.int .u64 (l0 x), .int .u64 (l1 x), .int .u64 (l2 x), .int .u64 (l3 x)], .agg #[.int .u64 (l0 y), .int .u64 (l1 y), .int .u64 (l2 y), .int .u64 (l3 y)], .pointer (some { block := bx, off := 0 }), .pointer (some { block := bw, off := 0 }), .bool false, .pointer (some { block := bb, off := 0 }), .pointer (some { block := bm, off := 0 }), .int .i64 0, .pointer (some { block := bv, off := 0 }), .pointer (some { block := br, off := 0 }), .int .i64 0, .pointer (some { block := bn, off := 0 }), .int .i64 0, .pointer (some { block := bp, off := 0 }), .pointer (some { block := bq, off := 0 }), .int .i64 41, .int .i64 (-1), .pointer (some { block := bl, off := 0 }), .int .u64 z1, .pointer (some { block := be, off := 0 }), .int .i64 0, .agg #[.int .i64 0, .bool false], .pointer (some { block := bb, off := 0 }), .tuple #[.agg #[.int .u64 (l0 m), .int .u64 (l1 m), .int .u64 (l2 m), .int .u64 (l3 m)], .int .i64 0], .tuple #[.agg #[.int .u64 (l0 m), .int .u64 (l1 m), .int .u64 (l2 m), .int .u64 (l3 m)], .int .i64 0], .agg #[.int .u64 (l0 m), .int .u64 (l1 m), .int .u64 (l2 m), .int .u64 (l3 m)], .int .i64 0, .pointer (some { block := bb, off := 0 }), .agg #[.int .u64 (l0 x), .int .u64 (l1 x), .int .u64 (l2 x), .int .u64 (l3 x)], .agg #[.int .u64 (l0 x), .int .u64 (l1 x), .int .u64 (l2 x), .int .u64 (l3 x)], .agg #[.int .u64 (l0 V), .int .u64 (l1 V), .int .u64 (l2 V), .int .u64 (l3 V)], .tuple #[.agg #[.int .u64 (l0 r), .int .u64 (l1 r), .int .u64 (l2 r), .int .u64 (l3 r)], .int .i64 0], .agg #[.int .u64 (l0 V), .int .u64 (l1 V), .int .u64 (l2 V), .int .u64 (l3 V)], .tuple #[.agg #[.int .u64 (l0 r), .int .u64 (l1 r), .int .u64 (l2 r), .int .u64 (l3 r)], .int .i64 0], .agg #[.int .u64 (l0 r), .int .u64 (l1 r), .int .u64 (l2 r), .int .u64 (l3 r)], .int .i64 0, .tuple #[.agg #[.int .u64 (l0 mn), .int .u64 (l1 mn), .int .u64 (l2 mn), .int .u64 (l3 mn)], .int .i64 0], .agg #[.int .u64 (l0 r), .int .u64 (l1 r), .int .u64 (l2 r), .int .u64 (l3 r)], .tuple #[.agg #[.int .u64 (l0 mn), .int .u64 (l1 mn), .int .u64 (l2 mn), .int .u64 (l3 mn)], .int .i64 0], .agg #[.int .u64 (l0 mn), .int .u64 (l1 mn), .int .u64 (l2 mn), .int .u64 (l3 mn)], .int .i64 0, .pointer (some { block := bb, off := 0 }), .agg #[.int .u64 (l0 x), .int .u64 (l1 x), .int .u64 (l2 x), .int .u64 (l3 x)], .agg #[.int .u64 (l0 1), .int .u64 (l1 1), .int .u64 (l2 1), .int .u64 (l3 1)], .agg #[.int .u64 (l0 pl), .int .u64 (l1 pl), .int .u64 (l2 pl), .int .u64 (l3 pl)], .int .i64 0, .bool false, .bool false, .int .i64 0, .bool false, .bool false, .bool false, .int .i64 0, .bool false, .bool false, .bool false, .agg #[.int .u64 (l0 r), .int .u64 (l1 r), .int .u64 (l2 r), .int .u64 (l3 r)], .int .i64 0, .bool false, .bool false, .bool false, .agg #[.int .u64 (l0 r), .int .u64 (l1 r), .int .u64 (l2 r), .int .u64 (l3 r)], .agg #[.int .u64 (l0 pl), .int .u64 (l1 pl), .int .u64 (l2 pl), .int .u64 (l3 pl)], .bool false, .bool false, Go.undef, Go.undef, Go.undef, .bool false, .bool false, .bool false, .agg #[.int .u64 (l0 r), .int .u64 (l1 r), .int .u64 (l2 r), .int .u64 (l3 r)], .agg #[.int .u64 (l0 m), .int .u64 (l1 m), .int .u64 (l2 m), .int .u64 (l3 m)], .int .i64 (-1), .bool false, .bool false, .tuple #[.agg #[.int .u64 (l0 rt), .int .u64 (l1 rt), .int .u64 (l2 rt), .int .u64 (l3 rt)], .int .i64 41], .agg #[.int .u64 (l0 x), .int .u64 (l1 x), .int .u64 (l2 x), .int .u64 (l3 x)], .tuple #[.agg #[.int .u64 (l0 rt), .int .u64 (l1 rt), .int .u64 (l2 rt), .int .u64 (l3 rt)], .int .i64 41], .agg #[.int .u64 (l0 rt), .int .u64 (l1 rt), .int .u64 (l2 rt), .int .u64 (l3 rt)], .int .i64 41, .agg #[.int .u64 (l0 x), .int .u64 (l1 x), .int .u64 (l2 x), .int .u64 (l3 x)], .int .i64 (-1), .int .i64 41, .bool false, .int .i64 (-1), .bool false, .bool false, .bool false, .int .i64 41, .bool false, .bool false, Go.undef, Go.undef, Go.undef, Go.undef, Go.undef, Go.undef, .bool false, .bool false, .bool false, .int .i64 41, .bool true, .bool true, .int .i64 41, .int .i64 41, .bool false, .bool false, .bool false, .tuple #[.agg #[.int .u64 (l0 ls), .int .u64 (l1 ls), .int .u64 (l2 ls), .int .u64 (l3 ls)], .int .u64 z1], .agg #[.int .u64 (l0 m), .int .u64 (l1 m), .int .u64 (l2 m), .int .u64 (l3 m)], .agg #[.int .u64 (l0 1), .int .u64 (l1 1), .int .u64 (l2 1), .int .u64 (l3 1)], .tuple #[.agg #[.int .u64 (l0 ls), .int .u64 (l1 ls), .int .u64 (l2 ls), .int .u64 (l3 ls)], .int .u64 z1], .agg #[.int .u64 (l0 ls), .int .u64 (l1 ls), .int .u64 (l2 ls), .int .u64 (l3 ls)], .int .u64 z1, .tuple #[.agg #[.int .u64 (l0 eu), .int .u64 (l1 eu), .int .u64 (l2 eu), .int .u64 (l3 eu)], .int .i64 0], .agg #[.int .u64 (l0 x), .int .u64 (l1 x), .int .u64 (l2 x), .int .u64 (l3 x)], .agg #[.int .u64 (l0 ls), .int .u64 (l1 ls), .int .u64 (l2 ls), .int .u64 (l3 ls)], .agg #[.int .u64 (l0 hh), .int .u64 (l1 hh), .int .u64 (l2 hh), .int .u64 (l3 hh)], .tuple #[.agg #[.int .u64 (l0 eu), .int .u64 (l1 eu), .int .u64 (l2 eu), .int .u64 (l3 eu)], .int .i64 0], .agg #[.int .u64 (l0 eu), .int .u64 (l1 eu), .int .u64 (l2 eu), .int .u64 (l3 eu)], .int .i64 0, Go.undef, Go.undef, Go.undef, Go.undef, Go.undef, Go.undef, Go.undef, Go.undef, Go.undef, Go.undef, Go.undef, Go.undef, Go.undef, Go.undef, Go.undef, Go.undef, Go.undef, Go.undef, Go.undef, Go.undef, Go.undef, Go.undef, Go.undef, Go.undef, Go.undef, Go.undef, Go.undef, Go.undef, Go.undef, Go.undef, Go.undef, Go.undef, Go.undef, Go.undef, Go.undef, Go.undef, Go.undef, Go.undef, Go.undef, Go.undef, Go.undef, Go.undef, Go.undef], defers := [] }) ?_ ?_
  · have dz : W.drew.heap.size = W.heap.size := rfl
    have _ : bx < W.heap.size := by omega
    have _ : bx ≤ W.heap.size := by omega
    have _ : bx < W.heap.size + 1 := by omega
    have _ : bx < W.heap.size + 1 + 1 := by omega
    have _ : bx ≠ W.heap.size := by omega
    have _ : W.heap.size ≠ bx := by omega
    have _ : bx ≠ W.heap.size + 1 := by omega
    have _ : W.heap.size + 1 ≠ bx := by omega
    have _ : bw < W.heap.size := by omega
    have _ : bw ≤ W.heap.size := by omega
    have _ : bw < W.heap.size + 1 := by omega
    have _ : bw < W.heap.size + 1 + 1 := by omega
    have _ : bw ≠ W.heap.size := by omega
    have _ : W.heap.size ≠ bw := by omega
    have _ : bw ≠ W.heap.size + 1 := by omega
    have _ : W.heap.size + 1 ≠ bw := by omega
    have _ : bb < W.heap.size := by omega
    have _ : bb ≤ W.heap.size := by omega
    have _ : bb < W.heap.size + 1 := by omega
    have _ : bb < W.heap.size + 1 + 1 := by omega
    have _ : bb ≠ W.heap.size := by omega
    have _ : W.heap.size ≠ bb := by omega
    have _ : bb ≠ W.heap.size + 1 := by omega
    have _ : W.heap.size + 1 ≠ bb := by omega
    have _ : bp < W.heap.size := by omega
    have _ : bp ≤ W.heap.size := by omega
    have _ : bp < W.heap.size + 1 := by omega
    have _ : bp < W.heap.size + 1 + 1 := by omega
    have _ : bp ≠ W.heap.size := by omega
    have _ : W.heap.size ≠ bp := by omega
    have _ : bp ≠ W.heap.size + 1 := by omega
    have _ : W.heap.size + 1 ≠ bp := by omega
    have _ : bl < W.heap.size := by omega
    have _ : bl ≤ W.heap.size := by omega
    have _ : bl < W.heap.size + 1 := by omega
    have _ : bl < W.heap.size + 1 + 1 := by omega
    have _ : bl ≠ W.heap.size := by omega
    have _ : W.heap.size ≠ bl := by omega
    have _ : bl ≠ W.heap.size + 1 := by omega
    have _ : W.heap.size + 1 ≠ bl := by omega
    have _ : 0 < W.heap.size := by omega
    have _ : 0 ≤ W.heap.size := by omega
    have _ : 0 < W.heap.size + 1 := by omega
    have _ : 0 < W.heap.size + 1 + 1 := by omega
    have _ : 0 ≠ W.heap.size := by omega
    have _ : W.heap.size ≠ 0 := by omega
    have _ : 0 ≠ W.heap.size + 1 := by omega
    have _ : W.heap.size + 1 ≠ 0 := by omega
    go_region_held3 (fun w' => w'.cell? ⟨bx, 0, none⟩ = some (.int .u64 (l0 x)) ∧ w'.cell? ⟨bx, 1, none⟩ = some (.int .u64 (l1 x)) ∧ w'.cell? ⟨bx, 2, none⟩ = some (.int .u64 (l2 x)) ∧ w'.cell? ⟨bx, 3, none⟩ = some (.int .u64 (l3 x)) ∧ w'.cell? ⟨bl, 0, none⟩ = some (.int .u64 (l0 ls)) ∧ w'.cell? ⟨bl, 1, none⟩ = some (.int .u64 (l1 ls)) ∧ w'.cell? ⟨bl, 2, none⟩ = some (.int .u64 (l2 ls)) ∧ w'.cell? ⟨bl, 3, none⟩ = some (.int .u64 (l3 ls))) (((try dsimp only); (repeat' (apply And.intro)); (all_goals repeat (first | with_reducible assumption | with_reducible apply cell_keep hb2 | with_reducible apply cell_keep hb1 | with_reducible apply cell_alloc | (with_reducible refine cell_set ?_ (by with_reducible assumption)) | (simp [go_sem, *]; done)))))
      (first
        | (go_at_call 30; with_reducible refine (H1.out _).mono ?_; rintro e w1 ⟨rfl, hb1⟩; have hc1 := oldCells hb1; have hz1 := hb1.size; (try simp at hz1); (try (have := fun j => oldCells hb1 (W.heap.size) j (by first | omega | (simp; done) | (simp; omega)))); (try (have := fun j => oldCells hb1 (W.heap.size + 1) j (by first | omega | (simp; done) | (simp; omega)))); have _ : bx < w1.heap.size := (by omega); have _ : bx ≤ w1.heap.size := (by omega); have _ : bx < w1.heap.size + 1 := (by omega); have _ : bx < w1.heap.size + 1 + 1 := (by omega); have _ : bx ≠ w1.heap.size := (by omega); have _ : w1.heap.size ≠ bx := (by omega); have _ : bx ≠ w1.heap.size + 1 := (by omega); have _ : w1.heap.size + 1 ≠ bx := (by omega); have _ : bw < w1.heap.size := (by omega); have _ : bw ≤ w1.heap.size := (by omega); have _ : bw < w1.heap.size + 1 := (by omega); have _ : bw < w1.heap.size + 1 + 1 := (by omega); have _ : bw ≠ w1.heap.size := (by omega); have _ : w1.heap.size ≠ bw := (by omega); have _ : bw ≠ w1.heap.size + 1 := (by omega); have _ : w1.heap.size + 1 ≠ bw := (by omega); have _ : bb < w1.heap.size := (by omega); have _ : bb ≤ w1.heap.size := (by omega); have _ : bb < w1.heap.size + 1 := (by omega); have _ : bb < w1.heap.size + 1 + 1 := (by omega); have _ : bb ≠ w1.heap.size := (by omega); have _ : w1.heap.size ≠ bb := (by omega); have _ : bb ≠ w1.heap.size + 1 := (by omega); have _ : w1.heap.size + 1 ≠ bb := (by omega); have _ : bp < w1.heap.size := (by omega); have _ : bp ≤ w1.heap.size := (by omega); have _ : bp < w1.heap.size + 1 := (by omega); have _ : bp < w1.heap.size + 1 + 1 := (by omega); have _ : bp ≠ w1.heap.size := (by omega); have _ : w1.heap.size ≠ bp := (by omega); have _ : bp ≠ w1.heap.size + 1 := (by omega); have _ : w1.heap.size + 1 ≠ bp := (by omega); have _ : bl < w1.heap.size := (by omega); have _ : bl ≤ w1.heap.size := (by omega); have _ : bl < w1.heap.size + 1 := (by omega); have _ : bl < w1.heap.size + 1 + 1 := (by omega); have _ : bl ≠ w1.heap.size := (by omega); have _ : w1.heap.size ≠ bl := (by omega); have _ : bl ≠ w1.heap.size + 1 := (by omega); have _ : w1.heap.size + 1 ≠ bl := (by omega); have _ : 0 < w1.heap.size := (by omega); have _ : 0 ≤ w1.heap.size := (by omega); have _ : 0 < w1.heap.size + 1 := (by omega); have _ : 0 < w1.heap.size + 1 + 1 := (by omega); have _ : 0 ≠ w1.heap.size := (by omega); have _ : w1.heap.size ≠ 0 := (by omega); have _ : 0 ≠ w1.heap.size + 1 := (by omega); have _ : w1.heap.size + 1 ≠ 0 := (by omega); (try (have _ : W.heap.size < w1.heap.size := (by omega))); (try (have _ : W.heap.size ≤ w1.heap.size := (by omega))); (try (have _ : W.heap.size ≠ w1.heap.size := (by omega))); (try (have _ : w1.heap.size ≠ W.heap.size := (by omega))); (try (have _ : W.heap.size < w1.heap.size + 1 := (by omega))); (try (have _ : W.heap.size + 1 < w1.heap.size := (by omega))); (try (have _ : W.heap.size + 1 ≤ w1.heap.size := (by omega))); (try (have _ : W.heap.size + 1 ≠ w1.heap.size := (by omega))); (try (have _ : w1.heap.size ≠ W.heap.size + 1 := (by omega))); (try (have _ : W.heap.size + 1 < w1.heap.size + 1 := (by omega))))
        | (go_at_call 29; with_reducible refine (X1.out _ (by repeat (first | with_reducible exact QhD.out | with_reducible refine Mds.alloc ?_ _ | with_reducible refine Mds.drew ?_ | with_reducible refine Mds.keep ?_ hb1))).mono ?_; rintro e w2 ⟨rfl, hb2⟩; have hc2 := oldCells hb2; have hz2 := hb2.size; (try simp at hz2); (try (have := fun j => oldCells hb2 (W.heap.size) j (by first | omega | (simp; done) | (simp; omega)))); (try (have := fun j => oldCells hb2 (W.heap.size + 1) j (by first | omega | (simp; done) | (simp; omega)))); (try (have := fun j => oldCells hb2 (w1.heap.size) j (by first | omega | (simp; done) | (simp; omega)))); (try (have := fun j => oldCells hb2 (w1.heap.size + 1) j (by first | omega | (simp; done) | (simp; omega)))); have _ : bx < w2.heap.size := (by omega); have _ : bx ≤ w2.heap.size := (by omega); have _ : bx < w2.heap.size + 1 := (by omega); have _ : bx < w2.heap.size + 1 + 1 := (by omega); have _ : bx ≠ w2.heap.size := (by omega); have _ : w2.heap.size ≠ bx := (by omega); have _ : bx ≠ w2.heap.size + 1 := (by omega); have _ : w2.heap.size + 1 ≠ bx := (by omega); have _ : bw < w2.heap.size := (by omega); have _ : bw ≤ w2.heap.size := (by omega); have _ : bw < w2.heap.size + 1 := (by omega); have _ : bw < w2.heap.size + 1 + 1 := (by omega); have _ : bw ≠ w2.heap.size := (by omega); have _ : w2.heap.size ≠ bw := (by omega); have _ : bw ≠ w2.heap.size + 1 := (by omega); have _ : w2.heap.size + 1 ≠ bw := (by omega); have _ : bb < w2.heap.size := (by omega); have _ : bb ≤ w2.heap.size := (by omega); have _ : bb < w2.heap.size + 1 := (by omega); have _ : bb < w2.heap.size + 1 + 1 := (by omega); have _ : bb ≠ w2.heap.size := (by omega); have _ : w2.heap.size ≠ bb := (by omega); have _ : bb ≠ w2.heap.size + 1 := (by omega); have _ : w2.heap.size + 1 ≠ bb := (by omega); have _ : bp < w2.heap.size := (by omega); have _ : bp ≤ w2.heap.size := (by omega); have _ : bp < w2.heap.size + 1 := (by omega); have _ : bp < w2.heap.size + 1 + 1 := (by omega); have _ : bp ≠ w2.heap.size := (by omega); have _ : w2.heap.size ≠ bp := (by omega); have _ : bp ≠ w2.heap.size + 1 := (by omega); have _ : w2.heap.size + 1 ≠ bp := (by omega); have _ : bl < w2.heap.size := (by omega); have _ : bl ≤ w2.heap.size := (by omega); have _ : bl < w2.heap.size + 1 := (by omega); have _ : bl < w2.heap.size + 1 + 1 := (by omega); have _ : bl ≠ w2.heap.size := (by omega); have _ : w2.heap.size ≠ bl := (by omega); have _ : bl ≠ w2.heap.size + 1 := (by omega); have _ : w2.heap.size + 1 ≠ bl := (by omega); have _ : 0 < w2.heap.size := (by omega); have _ : 0 ≤ w2.heap.size := (by omega); have _ : 0 < w2.heap.size + 1 := (by omega); have _ : 0 < w2.heap.size + 1 + 1 := (by omega); have _ : 0 ≠ w2.heap.size := (by omega); have _ : w2.heap.size ≠ 0 := (by omega); have _ : 0 ≠ w2.heap.size + 1 := (by omega); have _ : w2.heap.size + 1 ≠ 0 := (by omega); (try (have _ : W.heap.size < w2.heap.size := (by omega))); (try (have _ : W.heap.size ≤ w2.heap.size := (by omega))); (try (have _ : W.heap.size ≠ w2.heap.size := (by omega))); (try (have _ : w2.heap.size ≠ W.heap.size := (by omega))); (try (have _ : W.heap.size < w2.heap.size + 1 := (by omega))); (try (have _ : W.heap.size + 1 < w2.heap.size := (by omega))); (try (have _ : W.heap.size + 1 ≤ w2.heap.size := (by omega))); (try (have _ : W.heap.size + 1 ≠ w2.heap.size := (by omega))); (try (have _ : w2.heap.size ≠ W.heap.size + 1 := (by omega))); (try (have _ : W.heap.size + 1 < w2.heap.size + 1 := (by omega))); (try (have _ : w1.heap.size < w2.heap.size := (by omega))); (try (have _ : w1.heap.size ≤ w2.heap.size := (by omega))); (try (have _ : w1.heap.size ≠ w2.heap.size := (by omega))); (try (have _ : w2.heap.size ≠ w1.heap.size := (by omega))); (try (have _ : w1.heap.size < w2.heap.size + 1 := (by omega))); (try (have _ : w1.heap.size + 1 < w2.heap.size := (by omega))); (try (have _ : w1.heap.size + 1 ≤ w2.heap.size := (by omega))); (try (have _ : w1.heap.size + 1 ≠ w2.heap.size := (by omega))); (try (have _ : w2.heap.size ≠ w1.heap.size + 1 := (by omega))); (try (have _ : w1.heap.size + 1 < w2.heap.size + 1 := (by omega)))))
    all_goals (refine OutQ.intro ⟨_, ?_, ?_, ?_, ?_, ?_, ?_, ?_, ?_, rfl⟩)
    all_goals repeat (first | with_reducible exact BB.out | with_reducible exact QhD.out | with_reducible exact QhX.out | with_reducible exact QhY.out | with_reducible exact QhS.out | with_reducible exact QhP.out | with_reducible exact QhL.out | with_reducible refine Hold.fresh (by first | rfl | (simp; done) | fail) | with_reducible refine Hold.sets4 ?_ | with_reducible refine Var.new (by first | rfl | (simp; done) | fail) | with_reducible refine Hold.alloc ?_ _ | with_reducible refine Hold.drew ?_ | with_reducible refine Hold.set4 ?_ (by with_reducible assumption) _ _ _ _ | with_reducible refine HoldM.alloc ?_ _ | with_reducible refine HoldM.drew ?_ | with_reducible refine HoldM.set4 ?_ (by with_reducible assumption) _ _ _ _ | with_reducible refine Blank.alloc ?_ _ | with_reducible refine Blank.drew ?_ | with_reducible refine Blank.set4 ?_ (by with_reducible assumption) _ _ _ _ | with_reducible refine Smm.alloc ?_ _ | with_reducible refine Smm.drew ?_ | with_reducible refine Smm.set4 ?_ (by with_reducible assumption) _ _ _ _ | with_reducible refine Mds.alloc ?_ _ | with_reducible refine Mds.drew ?_ | with_reducible refine Mds.set4 ?_ (by with_reducible assumption) _ _ _ _ | with_reducible refine Var.alloc ?_ _ | with_reducible refine Var.set4 ?_ (by with_reducible assumption) _ _ _ _ | with_reducible refine below_alloc hbx ?_ _ | with_reducible refine Below.drew ?_ | with_reducible refine Below.setCell ?_ (by with_reducible assumption) _ | with_reducible refine Has.fresh (by first | rfl | (simp; done) | fail) (by first | (simp; done) | fail) | with_reducible refine Has.alloc ?_ _ | with_reducible refine Has.drew ?_ | with_reducible refine Has.keep ?_ hb2 | with_reducible refine Hold.keep ?_ hb2 | with_reducible refine HoldM.keep ?_ hb2 | with_reducible refine Blank.keep ?_ hb2 | with_reducible refine Smm.keep ?_ hb2 | with_reducible refine Mds.keep ?_ hb2 | with_reducible refine Var.keep ?_ hb2 | with_reducible refine below_then hbx ?_ hb2 | with_reducible refine Has.keep ?_ hb1 | with_reducible refine Hold.keep ?_ hb1 | with_reducible refine HoldM.keep ?_ hb1 | with_reducible refine Blank.keep ?_ hb1 | with_reducible refine Smm.keep ?_ hb1 | with_reducible refine Mds.keep ?_ hb1 | with_reducible refine Var.keep ?_ hb1 | with_reducible refine below_then hbx ?_ hb1)
  rintro _ W ⟨be, B, hD, hX, hY, hS, hP, hL, hE, rfl⟩
  subst hbx
  clear BB geB QhD QhX QhY QhS QhP QhL ghX ghL lthD lthX lthY lthS lthP lthL
  go_wp2_with fail
  have ghE := hE.grown
  have ghL := hL.grown
  have ghP := hP.grown
  have hDg : ∀ d os, Mds (grow (redrawn W d) os) := fun d os => hD.keep (below_regrown W d os)
  have hSg := fun d os => hS.keep (below_regrown W d os)
  refine wp_region_quiet_below (by kernel_rfl) (by kernel_rfl) ?_
  repeat
    first
      | go_big_quiet_skip
      | (go_big_quiet_want; go_big_quiet_op; go_big_quiet_on)
      | (go_big_quiet_want
         go_big_quiet_op
         apply Exists.intro
         refine ⟨fun p => ?_, ?_⟩
         · (first | (go_at_call 14; with_reducible exact Calls.regrown_of (F1.out _)))
         go_big_quiet_on)
  refine wpQuiet_nil ?_
  rintro w10 ⟨p, rfl⟩
  have hb := below_regrown W p.d p.os
  generalize grow (redrawn W p.d) p.os = w10 at *
  replace B := B.trans (hb.mono B.size)
  replace hD := hD.keep hb; replace hX := hX.keep hb; replace hY := hY.keep hb; replace hS := hS.keep hb; replace hP := hP.keep hb; replace hL := hL.keep hb; replace hE := hE.keep hb
  clear hb W ghE ghL ghP hDg hSg
  clear hE hL hP
  go_wp2_with fail
  refine wp_world (fun W => Below w.heap.size w W ∧ Mds W ∧ Hold W w.heap.size x ∧ Hold W bw y ∧ Smm W bb 0) ⟨B, hD, hX, hY, hS⟩ ?_
  clear B hD hX hY hS
  rintro W ⟨B, hD, hX, hY, hS⟩
  clear w10
  have ghX := hX.grown
  have ghY := hY.grown
  have ghS := hS.grown
  have hDg : ∀ d os, Mds (grow (redrawn W d) os) := fun d os => hD.keep (below_regrown W d os)
  have hSg := fun d os => hS.keep (below_regrown W d os)
  refine wp_region_quiet_below (by kernel_rfl) (by kernel_rfl) ?_
  repeat
    first
      | go_big_quiet_skip
      | (go_big_quiet_want; go_big_quiet_op; go_big_quiet_on)
      | (go_big_quiet_want
         go_big_quiet_op
         apply Exists.intro
         refine ⟨fun p => ?_, ?_⟩
         · (first | (go_at_call 24; with_reducible exact Calls.regrown_of (P4.out _ _ (hDg p.d p.os) (hSg p.d p.os))) | (go_at_call 33; with_reducible exact Calls.regrown_of (Z2.out _ (hDg p.d p.os))) | (go_at_call 33; with_reducible exact Calls.regrown_of (Z3.out _ (hDg p.d p.os))))
         go_big_quiet_on)
  refine wpQuiet_nil ?_
  rintro w11 ⟨p, rfl⟩
  have hb := below_regrown W p.d p.os
  generalize grow (redrawn W p.d) p.os = w11 at *
  replace B := B.trans (hb.mono B.size)
  replace hD := hD.keep hb; replace hX := hX.keep hb; replace hY := hY.keep hb; replace hS := hS.keep hb
  clear hb W ghX ghY ghS hDg hSg
  clear hD hX hY hS
  go_wp2
  simp [bodyPost, results, Tryd.results7, go_sem]
  exact B
end Go.Proofs.YtfpiopjlcjckeaaDoor
