import Derived.Test.YtfpiopjlcjckeaaDoorFThr
import Derived.Test.YtfpiopjlcjckeaaDoorFUn
namespace Go.Proofs.YtfpiopjlcjckeaaDoor
open Go.RowKit Go.Sort

set_option maxRecDepth 100000 in
set_option maxHeartbeats 16000000 in
theorem flaws_walk {v k a x y z m ra rm rt ru rp rq rr rv rd rn rs : Int} (K0 : Hid (∀ w, Calls Tryd.prog 9 #[.int .i64 v] w fun e w' => e = .returned (.int .i64 k) ∧ Below w.heap.size w w'))
    (O1 : Hid (∀ w, Mds w → Calls Tryd.prog 15 #[.int .i64 k] w fun e w' => e = .returned (.tuple #[.agg #[.int .u64 (l0 m), .int .u64 (l1 m), .int .u64 (l2 m), .int .u64 (l3 m)], .int .i64 0]) ∧ Below w.heap.size w w')) (O2 : Hid (∀ w, Mds w → Calls Tryd.prog 20 #[.int .i64 k, .agg #[.int .u64 0, .int .u64 0, .int .u64 0, .int .u64 0], .agg #[.int .u64 (l0 a), .int .u64 (l1 a), .int .u64 (l2 a), .int .u64 (l3 a)]] w fun e w' => e = .returned (.tuple #[.agg #[.int .u64 (l0 x), .int .u64 (l1 x), .int .u64 (l2 x), .int .u64 (l3 x)], .int .i64 0]) ∧ Below w.heap.size w w')) (F1 : Hid (∀ w, Calls Tryd.prog 14 #[.int .u64 1] w fun e w' => e = .returned (.agg #[.int .u64 (l0 1), .int .u64 (l1 1), .int .u64 (l2 1), .int .u64 (l3 1)]) ∧ Below w.heap.size w w'))
    (C1 : Hid (∀ w, Calls Tryd.prog 22 #[.agg #[.int .u64 (l0 x), .int .u64 (l1 x), .int .u64 (l2 x), .int .u64 (l3 x)], .agg #[.int .u64 (l0 m), .int .u64 (l1 m), .int .u64 (l2 m), .int .u64 (l3 m)]] w fun e w' => e = .returned (.int .i64 (-1)) ∧ Below w.heap.size w w')) (C2 : Hid (∀ w, Calls Tryd.prog 22 #[.agg #[.int .u64 (l0 rq), .int .u64 (l1 rq), .int .u64 (l2 rq), .int .u64 (l3 rq)], .agg #[.int .u64 (l0 m), .int .u64 (l1 m), .int .u64 (l2 m), .int .u64 (l3 m)]] w fun e w' => e = .returned (.int .i64 (-1)) ∧ Below w.heap.size w w')) (C3 : Hid (∀ w, Calls Tryd.prog 22 #[.agg #[.int .u64 (l0 rd), .int .u64 (l1 rd), .int .u64 (l2 rd), .int .u64 (l3 rd)], .agg #[.int .u64 (l0 m), .int .u64 (l1 m), .int .u64 (l2 m), .int .u64 (l3 m)]] w fun e w' => e = .returned (.int .i64 (-1)) ∧ Below w.heap.size w w')) (C4 : Hid (∀ w, Calls Tryd.prog 22 #[.agg #[.int .u64 (l0 rn), .int .u64 (l1 rn), .int .u64 (l2 rn), .int .u64 (l3 rn)], .agg #[.int .u64 (l0 m), .int .u64 (l1 m), .int .u64 (l2 m), .int .u64 (l3 m)]] w fun e w' => e = .returned (.int .i64 (-1)) ∧ Below w.heap.size w w'))
    (D1 : Hid (∀ w, Mds w → Calls Tryd.prog 25 #[.int .i64 k, .agg #[.int .u64 (l0 x), .int .u64 (l1 x), .int .u64 (l2 x), .int .u64 (l3 x)], .agg #[.int .u64 (l0 y), .int .u64 (l1 y), .int .u64 (l2 y), .int .u64 (l3 y)]] w fun e w' => e = .returned (.tuple #[.agg #[.int .u64 (l0 rd), .int .u64 (l1 rd), .int .u64 (l2 rd), .int .u64 (l3 rd)], .int .i64 0]) ∧ Below w.heap.size w w')) (D2 : Hid (∀ w, Mds w → Calls Tryd.prog 26 #[.int .i64 k, .agg #[.int .u64 (l0 y), .int .u64 (l1 y), .int .u64 (l2 y), .int .u64 (l3 y)]] w fun e w' => e = .returned (.tuple #[.agg #[.int .u64 (l0 rn), .int .u64 (l1 rn), .int .u64 (l2 rn), .int .u64 (l3 rn)], .int .i64 0]) ∧ Below w.heap.size w w')) (D3 : Hid (∀ w, Mds w → Calls Tryd.prog 27 #[.int .i64 k, .agg #[.int .u64 (l0 x), .int .u64 (l1 x), .int .u64 (l2 x), .int .u64 (l3 x)]] w fun e w' => e = .returned (.tuple #[.agg #[.int .u64 (l0 rs), .int .u64 (l1 rs), .int .u64 (l2 rs), .int .u64 (l3 rs)], .int .i64 0]) ∧ Below w.heap.size w w'))
    (A1 : Hid (∀ w b, Mds w → Smm w b k → Calls Tryd.prog 23 #[.pointer (some ⟨b, 0, none⟩), .agg #[.int .u64 (l0 x), .int .u64 (l1 x), .int .u64 (l2 x), .int .u64 (l3 x)], .agg #[.int .u64 (l0 y), .int .u64 (l1 y), .int .u64 (l2 y), .int .u64 (l3 y)]] w fun e w' => e = .returned (.agg #[.int .u64 (l0 ra), .int .u64 (l1 ra), .int .u64 (l2 ra), .int .u64 (l3 ra)]) ∧ Below w.heap.size w w'))
    (A2 : Hid (∀ w b, Mds w → Smm w b k → Calls Tryd.prog 23 #[.pointer (some ⟨b, 0, none⟩), .agg #[.int .u64 (l0 y), .int .u64 (l1 y), .int .u64 (l2 y), .int .u64 (l3 y)], .agg #[.int .u64 (l0 x), .int .u64 (l1 x), .int .u64 (l2 x), .int .u64 (l3 x)]] w fun e w' => e = .returned (.agg #[.int .u64 (l0 ra), .int .u64 (l1 ra), .int .u64 (l2 ra), .int .u64 (l3 ra)]) ∧ Below w.heap.size w w'))
    (M1 : Hid (∀ w b, Mds w → Smm w b k → Calls Tryd.prog 24 #[.pointer (some ⟨b, 0, none⟩), .agg #[.int .u64 (l0 x), .int .u64 (l1 x), .int .u64 (l2 x), .int .u64 (l3 x)], .agg #[.int .u64 (l0 y), .int .u64 (l1 y), .int .u64 (l2 y), .int .u64 (l3 y)]] w fun e w' => e = .returned (.agg #[.int .u64 (l0 rm), .int .u64 (l1 rm), .int .u64 (l2 rm), .int .u64 (l3 rm)]) ∧ Below w.heap.size w w'))
    (M2 : Hid (∀ w b, Mds w → Smm w b k → Calls Tryd.prog 24 #[.pointer (some ⟨b, 0, none⟩), .agg #[.int .u64 (l0 y), .int .u64 (l1 y), .int .u64 (l2 y), .int .u64 (l3 y)], .agg #[.int .u64 (l0 x), .int .u64 (l1 x), .int .u64 (l2 x), .int .u64 (l3 x)]] w fun e w' => e = .returned (.agg #[.int .u64 (l0 rm), .int .u64 (l1 rm), .int .u64 (l2 rm), .int .u64 (l3 rm)]) ∧ Below w.heap.size w w'))
    (A3 : Hid (∀ w b, Mds w → Smm w b k → Calls Tryd.prog 23 #[.pointer (some ⟨b, 0, none⟩), .agg #[.int .u64 (l0 ra), .int .u64 (l1 ra), .int .u64 (l2 ra), .int .u64 (l3 ra)], .agg #[.int .u64 (l0 z), .int .u64 (l1 z), .int .u64 (l2 z), .int .u64 (l3 z)]] w fun e w' => e = .returned (.agg #[.int .u64 (l0 rt), .int .u64 (l1 rt), .int .u64 (l2 rt), .int .u64 (l3 rt)]) ∧ Below w.heap.size w w'))
    (A4 : Hid (∀ w b, Mds w → Smm w b k → Calls Tryd.prog 23 #[.pointer (some ⟨b, 0, none⟩), .agg #[.int .u64 (l0 y), .int .u64 (l1 y), .int .u64 (l2 y), .int .u64 (l3 y)], .agg #[.int .u64 (l0 z), .int .u64 (l1 z), .int .u64 (l2 z), .int .u64 (l3 z)]] w fun e w' => e = .returned (.agg #[.int .u64 (l0 ru), .int .u64 (l1 ru), .int .u64 (l2 ru), .int .u64 (l3 ru)]) ∧ Below w.heap.size w w'))
    (A5 : Hid (∀ w b, Mds w → Smm w b k → Calls Tryd.prog 23 #[.pointer (some ⟨b, 0, none⟩), .agg #[.int .u64 (l0 x), .int .u64 (l1 x), .int .u64 (l2 x), .int .u64 (l3 x)], .agg #[.int .u64 (l0 ru), .int .u64 (l1 ru), .int .u64 (l2 ru), .int .u64 (l3 ru)]] w fun e w' => e = .returned (.agg #[.int .u64 (l0 rt), .int .u64 (l1 rt), .int .u64 (l2 rt), .int .u64 (l3 rt)]) ∧ Below w.heap.size w w'))
    (M3 : Hid (∀ w b, Mds w → Smm w b k → Calls Tryd.prog 24 #[.pointer (some ⟨b, 0, none⟩), .agg #[.int .u64 (l0 rm), .int .u64 (l1 rm), .int .u64 (l2 rm), .int .u64 (l3 rm)], .agg #[.int .u64 (l0 z), .int .u64 (l1 z), .int .u64 (l2 z), .int .u64 (l3 z)]] w fun e w' => e = .returned (.agg #[.int .u64 (l0 rp), .int .u64 (l1 rp), .int .u64 (l2 rp), .int .u64 (l3 rp)]) ∧ Below w.heap.size w w'))
    (M4 : Hid (∀ w b, Mds w → Smm w b k → Calls Tryd.prog 24 #[.pointer (some ⟨b, 0, none⟩), .agg #[.int .u64 (l0 y), .int .u64 (l1 y), .int .u64 (l2 y), .int .u64 (l3 y)], .agg #[.int .u64 (l0 z), .int .u64 (l1 z), .int .u64 (l2 z), .int .u64 (l3 z)]] w fun e w' => e = .returned (.agg #[.int .u64 (l0 rq), .int .u64 (l1 rq), .int .u64 (l2 rq), .int .u64 (l3 rq)]) ∧ Below w.heap.size w w'))
    (M5 : Hid (∀ w b, Mds w → Smm w b k → Calls Tryd.prog 24 #[.pointer (some ⟨b, 0, none⟩), .agg #[.int .u64 (l0 x), .int .u64 (l1 x), .int .u64 (l2 x), .int .u64 (l3 x)], .agg #[.int .u64 (l0 rq), .int .u64 (l1 rq), .int .u64 (l2 rq), .int .u64 (l3 rq)]] w fun e w' => e = .returned (.agg #[.int .u64 (l0 rp), .int .u64 (l1 rp), .int .u64 (l2 rp), .int .u64 (l3 rp)]) ∧ Below w.heap.size w w'))
    (M6 : Hid (∀ w b, Mds w → Smm w b k → Calls Tryd.prog 24 #[.pointer (some ⟨b, 0, none⟩), .agg #[.int .u64 (l0 x), .int .u64 (l1 x), .int .u64 (l2 x), .int .u64 (l3 x)], .agg #[.int .u64 (l0 ru), .int .u64 (l1 ru), .int .u64 (l2 ru), .int .u64 (l3 ru)]] w fun e w' => e = .returned (.agg #[.int .u64 (l0 rr), .int .u64 (l1 rr), .int .u64 (l2 rr), .int .u64 (l3 rr)]) ∧ Below w.heap.size w w'))
    (M7 : Hid (∀ w b, Mds w → Smm w b k → Calls Tryd.prog 24 #[.pointer (some ⟨b, 0, none⟩), .agg #[.int .u64 (l0 x), .int .u64 (l1 x), .int .u64 (l2 x), .int .u64 (l3 x)], .agg #[.int .u64 (l0 z), .int .u64 (l1 z), .int .u64 (l2 z), .int .u64 (l3 z)]] w fun e w' => e = .returned (.agg #[.int .u64 (l0 rv), .int .u64 (l1 rv), .int .u64 (l2 rv), .int .u64 (l3 rv)]) ∧ Below w.heap.size w w'))
    (A6 : Hid (∀ w b, Mds w → Smm w b k → Calls Tryd.prog 23 #[.pointer (some ⟨b, 0, none⟩), .agg #[.int .u64 (l0 rm), .int .u64 (l1 rm), .int .u64 (l2 rm), .int .u64 (l3 rm)], .agg #[.int .u64 (l0 rv), .int .u64 (l1 rv), .int .u64 (l2 rv), .int .u64 (l3 rv)]] w fun e w' => e = .returned (.agg #[.int .u64 (l0 rr), .int .u64 (l1 rr), .int .u64 (l2 rr), .int .u64 (l3 rr)]) ∧ Below w.heap.size w w'))
    (A7 : Hid (∀ w b, Mds w → Smm w b k → Calls Tryd.prog 23 #[.pointer (some ⟨b, 0, none⟩), .agg #[.int .u64 (l0 x), .int .u64 (l1 x), .int .u64 (l2 x), .int .u64 (l3 x)], .agg #[.int .u64 0, .int .u64 0, .int .u64 0, .int .u64 0]] w fun e w' => e = .returned (.agg #[.int .u64 (l0 x), .int .u64 (l1 x), .int .u64 (l2 x), .int .u64 (l3 x)]) ∧ Below w.heap.size w w'))
    (M8 : Hid (∀ w b, Mds w → Smm w b k → Calls Tryd.prog 24 #[.pointer (some ⟨b, 0, none⟩), .agg #[.int .u64 (l0 x), .int .u64 (l1 x), .int .u64 (l2 x), .int .u64 (l3 x)], .agg #[.int .u64 (l0 1), .int .u64 (l1 1), .int .u64 (l2 1), .int .u64 (l3 1)]] w fun e w' => e = .returned (.agg #[.int .u64 (l0 x), .int .u64 (l1 x), .int .u64 (l2 x), .int .u64 (l3 x)]) ∧ Below w.heap.size w w'))
    (M9 : Hid (∀ w b, Mds w → Smm w b k → Calls Tryd.prog 24 #[.pointer (some ⟨b, 0, none⟩), .agg #[.int .u64 (l0 x), .int .u64 (l1 x), .int .u64 (l2 x), .int .u64 (l3 x)], .agg #[.int .u64 0, .int .u64 0, .int .u64 0, .int .u64 0]] w fun e w' => e = .returned (.agg #[.int .u64 0, .int .u64 0, .int .u64 0, .int .u64 0]) ∧ Below w.heap.size w w'))
    (A8 : Hid (∀ w b, Mds w → Smm w b k → Calls Tryd.prog 23 #[.pointer (some ⟨b, 0, none⟩), .agg #[.int .u64 (l0 rd), .int .u64 (l1 rd), .int .u64 (l2 rd), .int .u64 (l3 rd)], .agg #[.int .u64 (l0 y), .int .u64 (l1 y), .int .u64 (l2 y), .int .u64 (l3 y)]] w fun e w' => e = .returned (.agg #[.int .u64 (l0 x), .int .u64 (l1 x), .int .u64 (l2 x), .int .u64 (l3 x)]) ∧ Below w.heap.size w w'))
    (A9 : Hid (∀ w b, Mds w → Smm w b k → Calls Tryd.prog 23 #[.pointer (some ⟨b, 0, none⟩), .agg #[.int .u64 (l0 x), .int .u64 (l1 x), .int .u64 (l2 x), .int .u64 (l3 x)], .agg #[.int .u64 (l0 rn), .int .u64 (l1 rn), .int .u64 (l2 rn), .int .u64 (l3 rn)]] w fun e w' => e = .returned (.agg #[.int .u64 (l0 rd), .int .u64 (l1 rd), .int .u64 (l2 rd), .int .u64 (l3 rd)]) ∧ Below w.heap.size w w'))
    (M0 : Hid (∀ w b, Mds w → Smm w b k → Calls Tryd.prog 24 #[.pointer (some ⟨b, 0, none⟩), .agg #[.int .u64 (l0 x), .int .u64 (l1 x), .int .u64 (l2 x), .int .u64 (l3 x)], .agg #[.int .u64 (l0 x), .int .u64 (l1 x), .int .u64 (l2 x), .int .u64 (l3 x)]] w fun e w' => e = .returned (.agg #[.int .u64 (l0 rs), .int .u64 (l1 rs), .int .u64 (l2 rs), .int .u64 (l3 rs)]) ∧ Below w.heap.size w w'))
    (q1 : ∀ w, (Op.equalIn 10000 30 (.agg #[.int .u64 (l0 m), .int .u64 (l1 m), .int .u64 (l2 m), .int .u64 (l3 m)]) (.agg #[.int .u64 (l0 1), .int .u64 (l1 1), .int .u64 (l2 1), .int .u64 (l3 1)])).run Tryd.prog w = .ok false w) (w : World) (hm : Mds w) :
    Calls Tryd.prog 5 #[.int .i64 v, .agg #[.int .u64 (l0 a), .int .u64 (l1 a), .int .u64 (l2 a), .int .u64 (l3 a), .int .u64 (l0 y), .int .u64 (l1 y), .int .u64 (l2 y), .int .u64 (l3 y), .int .u64 (l0 z), .int .u64 (l1 z), .int .u64 (l2 z), .int .u64 (l3 z)]] w fun e w' => e = .returned (.bool true) ∧ Below w.heap.size w w' := by
  have ey : ∀ n w, (Op.equalIn 10000 30 (.agg #[.int .u64 (l0 n), .int .u64 (l1 n), .int .u64 (l2 n), .int .u64 (l3 n)]) (.agg #[.int .u64 (l0 n), .int .u64 (l1 n), .int .u64 (l2 n), .int .u64 (l3 n)])).run Tryd.prog w = .ok true w := fun n w => eq_yes w
  have eo : ∀ w, (Op.equalIn 10000 30 (.agg #[.int .u64 0, .int .u64 0, .int .u64 0, .int .u64 0]) (.agg #[.int .u64 0, .int .u64 0, .int .u64 0, .int .u64 0])).run Tryd.prog w = .ok true w := fun w => by rw [eq_any]; rfl
  have bz := build_zero
  go_enter Tryd.func5, Tryd.ntmps5
  go_wp2_with fail
  refine calls_world (fun W => Below w.heap.size w W ∧ Mds W ∧ Thr W w.heap.size a y z) ⟨by repeat (first | with_reducible exact Below.refl _ _ | with_reducible refine Below.alloc ?_ (by first | omega | (simp; done) | (simp; omega)) _), hm.alloc _, Thr.new _ _ _ _ _⟩ ?_
  rintro W ⟨B, hD, hT⟩
  with_reducible refine (K0.out _).mono ?_
  rintro e w1 ⟨rfl, hb⟩
  replace B := B.trans (hb.mono B.size)
  replace hD := hD.keep hb; replace hT := hT.keep hb
  clear hb W
  go_wp2_with fail
  refine calls_world (fun W => Below w.heap.size w W ∧ Mds W ∧ Thr W w.heap.size a y z ∧ Smm W w1.heap.size k) ⟨B.alloc B.size _, hD.alloc _, hT.alloc _, Smm.new rfl⟩ ?_
  clear B hD hT
  rintro W ⟨B, hD, hT, hS⟩
  generalize w1.heap.size = bb at *
  with_reducible refine (O1.out _ hD).mono ?_
  rintro e w2 ⟨rfl, hb⟩
  replace B := B.trans (hb.mono B.size)
  replace hD := hD.keep hb; replace hT := hT.keep hb; replace hS := hS.keep hb
  clear hb W
  go_wp2_with fail
  refine wp_world (fun W => Below w.heap.size w W ∧ Mds W ∧ Thr W w.heap.size a y z ∧ Smm W bb k ∧ Hold W w2.heap.size m) ⟨B.alloc B.size _, hD.alloc _, hT.alloc _, hS.alloc _, Hold.new _ _ _⟩ ?_
  clear B hD hT hS 
  rintro W ⟨B, hD, hT, hS, hM⟩
  generalize w2.heap.size = bm at *
  have lthD : 0 < W.heap.size := hD.lt
  have ghT := hT.cells
  have lthT : w.heap.size < W.heap.size := hT.lt
  have ghS := hS.1
  have lthS : bb < W.heap.size := hS.lt
  have lthM : bm < W.heap.size := World.block_lt_of_cell? W _ hM.1
  have BB : Hid (Below w.heap.size w W) := B
  have QhD : Hid (Mds W) := hD
  have QhT : Hid (Thr W w.heap.size a y z) := hT
  have QhS : Hid (Smm W bb k) := hS
  have QhM : Hid (Hold W bm m) := hM
  have geB : w.heap.size ≤ W.heap.size := B.size
  clear B hD hT hS hM
  generalize hbx : w.heap.size = bx at *
  refine wp_out (fun a' W' => ∃ bx1, Below bx w W' ∧ Mds W' ∧ Thr W' bx a y z ∧ Smm W' bb k ∧ Hold W' bm m ∧ Hold W' bx1 x ∧ a' = { tmps := #[.int .i64 v, .agg #[.int .u64 (l0 a), .int .u64 (l1 a), .int .u64 (l2 a), .int .u64 (l3 a), .int .u64 (l0 y), .int .u64 (l1 y), .int .u64 (l2 y), .int .u64 (l3 y), .int .u64 (l0 z), .int .u64 (l1 z), .int .u64 (l2 z), .int .u64 (l3 z)], Go.undef, .pointer (some { block := bx, off := 0 }), .bool false, .pointer (some { block := bb, off := 0 }), .pointer (some { block := bm, off := 0 }), .int .i64 0, .pointer (some { block := bx1, off := 0 }), .int .i64 0, Go.undef, Go.undef, Go.undef, Go.undef, Go.undef, Go.undef, Go.undef, Go.undef, Go.undef, .int .i64 v, .int .i64 k, .agg #[.int .i64 k, .bool false], .pointer (some { block := bb, off := 0 }), .tuple #[.agg #[.int .u64 (l0 m), .int .u64 (l1 m), .int .u64 (l2 m), .int .u64 (l3 m)], .int .i64 0], .pointer (some { block := bb, off := 0 }), .pointer (some { block := bb, off := 0 }), .pointer (some { block := bb, off := 0 }), .int .i64 k, .tuple #[.agg #[.int .u64 (l0 m), .int .u64 (l1 m), .int .u64 (l2 m), .int .u64 (l3 m)], .int .i64 0], .agg #[.int .u64 (l0 m), .int .u64 (l1 m), .int .u64 (l2 m), .int .u64 (l3 m)], .int .i64 0, .tuple #[.agg #[.int .u64 (l0 x), .int .u64 (l1 x), .int .u64 (l2 x), .int .u64 (l3 x)], .int .i64 0], .pointer (some { block := bb, off := 0 }), .pointer (some { block := bb, off := 0 }), .pointer (some { block := bb, off := 0 }), .int .i64 k, .agg #[.int .u64 0, .int .u64 0, .int .u64 0, .int .u64 0], .pointer (some { block := bx, off := 0 }), .agg #[.int .u64 (l0 a), .int .u64 (l1 a), .int .u64 (l2 a), .int .u64 (l3 a)], .tuple #[.agg #[.int .u64 (l0 x), .int .u64 (l1 x), .int .u64 (l2 x), .int .u64 (l3 x)], .int .i64 0], .agg #[.int .u64 (l0 x), .int .u64 (l1 x), .int .u64 (l2 x), .int .u64 (l3 x)], .int .i64 0, Go.undef, Go.undef, Go.undef, Go.undef, Go.undef, Go.undef, Go.undef, Go.undef, Go.undef, Go.undef, Go.undef, Go.undef, Go.undef, Go.undef, Go.undef, Go.undef, Go.undef, Go.undef, Go.undef, Go.undef, Go.undef, Go.undef, Go.undef, Go.undef, Go.undef, Go.undef, Go.undef, Go.undef, Go.undef, Go.undef, Go.undef, Go.undef, Go.undef, Go.undef, Go.undef, Go.undef, Go.undef, Go.undef, Go.undef, Go.undef, Go.undef, Go.undef, Go.undef, Go.undef, Go.undef, Go.undef, Go.undef, Go.undef, Go.undef, Go.undef, Go.undef, Go.undef, Go.undef, Go.undef, Go.undef, Go.undef, Go.undef, Go.undef, Go.undef, Go.undef, Go.undef, Go.undef, Go.undef, Go.undef, Go.undef, Go.undef, Go.undef, Go.undef, Go.undef, Go.undef, Go.undef, Go.undef, Go.undef, Go.undef, Go.undef, Go.undef, Go.undef, Go.undef, Go.undef, Go.undef, Go.undef, Go.undef, Go.undef, Go.undef, Go.undef, Go.undef, Go.undef, Go.undef, Go.undef, Go.undef, Go.undef, Go.undef, Go.undef, Go.undef, Go.undef, Go.undef, Go.undef, Go.undef, Go.undef, Go.undef, Go.undef, Go.undef, Go.undef, Go.undef, Go.undef, Go.undef, Go.undef, Go.undef, Go.undef, Go.undef, Go.undef, Go.undef, Go.undef, Go.undef, Go.undef, Go.undef, Go.undef, Go.undef, Go.undef, Go.undef, Go.undef, Go.undef, Go.undef, Go.undef, Go.undef, Go.undef, Go.undef, Go.undef, Go.undef, Go.undef, Go.undef, Go.undef, Go.undef, Go.undef, Go.undef, Go.undef, Go.undef, Go.undef, Go.undef, Go.undef, Go.undef, Go.undef, Go.undef, Go.undef, Go.undef, Go.undef, Go.undef, Go.undef, Go.undef, Go.undef, Go.undef, Go.undef, Go.undef, Go.undef, Go.undef, Go.undef, Go.undef, Go.undef, Go.undef, Go.undef, Go.undef, Go.undef, Go.undef, Go.undef, Go.undef, Go.undef, Go.undef, Go.undef, Go.undef, Go.undef, Go.undef, Go.undef, Go.undef, Go.undef, Go.undef, Go.undef, Go.undef, Go.undef, Go.undef, Go.undef, Go.undef, Go.undef, Go.undef, Go.undef, Go.undef, Go.undef, Go.undef, Go.undef, Go.undef, Go.undef, Go.undef, Go.undef, Go.undef, Go.undef, Go.undef, Go.undef, Go.undef, Go.undef, Go.undef, Go.undef, Go.undef, Go.undef, Go.undef, Go.undef, Go.undef, Go.undef], defers := [] }) ?_ ?_
  · have dz : W.drew.heap.size = W.heap.size := rfl
    have _ : bx < W.heap.size := by omega
    have _ : bx ≤ W.heap.size := by omega
    have _ : bx < W.heap.size + 1 := by omega
    have _ : bx < W.heap.size + 1 + 1 := by omega
    have _ : bx ≠ W.heap.size := by omega
    have _ : W.heap.size ≠ bx := by omega
    have _ : bx ≠ W.heap.size + 1 := by omega
    have _ : W.heap.size + 1 ≠ bx := by omega
    have _ : bb < W.heap.size := by omega
    have _ : bb ≤ W.heap.size := by omega
    have _ : bb < W.heap.size + 1 := by omega
    have _ : bb < W.heap.size + 1 + 1 := by omega
    have _ : bb ≠ W.heap.size := by omega
    have _ : W.heap.size ≠ bb := by omega
    have _ : bb ≠ W.heap.size + 1 := by omega
    have _ : W.heap.size + 1 ≠ bb := by omega
    have _ : bm < W.heap.size := by omega
    have _ : bm ≤ W.heap.size := by omega
    have _ : bm < W.heap.size + 1 := by omega
    have _ : bm < W.heap.size + 1 + 1 := by omega
    have _ : bm ≠ W.heap.size := by omega
    have _ : W.heap.size ≠ bm := by omega
    have _ : bm ≠ W.heap.size + 1 := by omega
    have _ : W.heap.size + 1 ≠ bm := by omega
    have _ : 0 < W.heap.size := by omega
    have _ : 0 ≤ W.heap.size := by omega
    have _ : 0 < W.heap.size + 1 := by omega
    have _ : 0 < W.heap.size + 1 + 1 := by omega
    have _ : 0 ≠ W.heap.size := by omega
    have _ : W.heap.size ≠ 0 := by omega
    have _ : 0 ≠ W.heap.size + 1 := by omega
    have _ : W.heap.size + 1 ≠ 0 := by omega
    go_region_held3 (fun w' => w'.cell? ⟨bx, 0, none⟩ = some (.int .u64 (l0 a)) ∧ w'.cell? ⟨bx, 1, none⟩ = some (.int .u64 (l1 a)) ∧ w'.cell? ⟨bx, 2, none⟩ = some (.int .u64 (l2 a)) ∧ w'.cell? ⟨bx, 3, none⟩ = some (.int .u64 (l3 a)) ∧ w'.cell? ⟨bx, 4, none⟩ = some (.int .u64 (l0 y)) ∧ w'.cell? ⟨bx, 5, none⟩ = some (.int .u64 (l1 y)) ∧ w'.cell? ⟨bx, 6, none⟩ = some (.int .u64 (l2 y)) ∧ w'.cell? ⟨bx, 7, none⟩ = some (.int .u64 (l3 y)) ∧ w'.cell? ⟨bx, 8, none⟩ = some (.int .u64 (l0 z)) ∧ w'.cell? ⟨bx, 9, none⟩ = some (.int .u64 (l1 z)) ∧ w'.cell? ⟨bx, 10, none⟩ = some (.int .u64 (l2 z)) ∧ w'.cell? ⟨bx, 11, none⟩ = some (.int .u64 (l3 z)) ∧ w'.cell? ⟨bb, 0, none⟩ = some (.int .i64 k)) (((try dsimp only); (repeat' (apply And.intro)); (all_goals repeat (first | with_reducible assumption | with_reducible apply cell_keep hb1 | with_reducible apply cell_alloc | (with_reducible refine cell_set ?_ (by with_reducible assumption)) | (simp [go_sem, *]; done)))))
      (first
        | (go_at_call 20; with_reducible refine (O2.out _ (by repeat (first | with_reducible exact QhD.out | with_reducible refine Mds.alloc ?_ _ | with_reducible refine Mds.drew ?_))).mono ?_; rintro e w1 ⟨rfl, hb1⟩; have hc1 := oldCells hb1; have hz1 := hb1.size; (try simp at hz1); (try (have := fun j => oldCells hb1 (W.heap.size) j (by first | omega | (simp; done) | (simp; omega)))); (try (have := fun j => oldCells hb1 (W.heap.size + 1) j (by first | omega | (simp; done) | (simp; omega)))); have _ : bx < w1.heap.size := (by omega); have _ : bx ≤ w1.heap.size := (by omega); have _ : bx < w1.heap.size + 1 := (by omega); have _ : bx < w1.heap.size + 1 + 1 := (by omega); have _ : bx ≠ w1.heap.size := (by omega); have _ : w1.heap.size ≠ bx := (by omega); have _ : bx ≠ w1.heap.size + 1 := (by omega); have _ : w1.heap.size + 1 ≠ bx := (by omega); have _ : bb < w1.heap.size := (by omega); have _ : bb ≤ w1.heap.size := (by omega); have _ : bb < w1.heap.size + 1 := (by omega); have _ : bb < w1.heap.size + 1 + 1 := (by omega); have _ : bb ≠ w1.heap.size := (by omega); have _ : w1.heap.size ≠ bb := (by omega); have _ : bb ≠ w1.heap.size + 1 := (by omega); have _ : w1.heap.size + 1 ≠ bb := (by omega); have _ : bm < w1.heap.size := (by omega); have _ : bm ≤ w1.heap.size := (by omega); have _ : bm < w1.heap.size + 1 := (by omega); have _ : bm < w1.heap.size + 1 + 1 := (by omega); have _ : bm ≠ w1.heap.size := (by omega); have _ : w1.heap.size ≠ bm := (by omega); have _ : bm ≠ w1.heap.size + 1 := (by omega); have _ : w1.heap.size + 1 ≠ bm := (by omega); have _ : 0 < w1.heap.size := (by omega); have _ : 0 ≤ w1.heap.size := (by omega); have _ : 0 < w1.heap.size + 1 := (by omega); have _ : 0 < w1.heap.size + 1 + 1 := (by omega); have _ : 0 ≠ w1.heap.size := (by omega); have _ : w1.heap.size ≠ 0 := (by omega); have _ : 0 ≠ w1.heap.size + 1 := (by omega); have _ : w1.heap.size + 1 ≠ 0 := (by omega); (try (have _ : W.heap.size < w1.heap.size := (by omega))); (try (have _ : W.heap.size ≤ w1.heap.size := (by omega))); (try (have _ : W.heap.size ≠ w1.heap.size := (by omega))); (try (have _ : w1.heap.size ≠ W.heap.size := (by omega))); (try (have _ : W.heap.size < w1.heap.size + 1 := (by omega))); (try (have _ : W.heap.size + 1 < w1.heap.size := (by omega))); (try (have _ : W.heap.size + 1 ≤ w1.heap.size := (by omega))); (try (have _ : W.heap.size + 1 ≠ w1.heap.size := (by omega))); (try (have _ : w1.heap.size ≠ W.heap.size + 1 := (by omega))); (try (have _ : W.heap.size + 1 < w1.heap.size + 1 := (by omega)))))
    all_goals (refine OutQ.intro ⟨_, ?_, ?_, ?_, ?_, ?_, ?_, rfl⟩)
    all_goals repeat (first | with_reducible exact BB.out | with_reducible exact QhD.out | with_reducible exact QhT.out | with_reducible exact QhS.out | with_reducible exact QhM.out | with_reducible refine Hold.fresh (by first | rfl | (simp; done) | fail) | with_reducible refine Hold.sets4 ?_ | with_reducible refine Var.new (by first | rfl | (simp; done) | fail) | with_reducible refine Hold.alloc ?_ _ | with_reducible refine Hold.drew ?_ | with_reducible refine Hold.set4 ?_ (by with_reducible assumption) _ _ _ _ | with_reducible refine HoldM.alloc ?_ _ | with_reducible refine HoldM.drew ?_ | with_reducible refine HoldM.set4 ?_ (by with_reducible assumption) _ _ _ _ | with_reducible refine Blank.alloc ?_ _ | with_reducible refine Blank.drew ?_ | with_reducible refine Blank.set4 ?_ (by with_reducible assumption) _ _ _ _ | with_reducible refine Smm.alloc ?_ _ | with_reducible refine Smm.drew ?_ | with_reducible refine Smm.set4 ?_ (by with_reducible assumption) _ _ _ _ | with_reducible refine Mds.alloc ?_ _ | with_reducible refine Mds.drew ?_ | with_reducible refine Mds.set4 ?_ (by with_reducible assumption) _ _ _ _ | with_reducible refine Var.alloc ?_ _ | with_reducible refine Var.set4 ?_ (by with_reducible assumption) _ _ _ _ | with_reducible refine Thr.alloc ?_ _ | with_reducible refine Thr.drew ?_ | with_reducible refine Thr.set4 ?_ (by with_reducible assumption) _ _ _ _ | with_reducible refine below_alloc hbx ?_ _ | with_reducible refine Below.drew ?_ | with_reducible refine Below.setCell ?_ (by with_reducible assumption) _ | with_reducible refine Has.fresh (by first | rfl | (simp; done) | fail) (by first | (simp; done) | fail) | with_reducible refine Has.alloc ?_ _ | with_reducible refine Has.drew ?_ | with_reducible refine Has.keep ?_ hb1 | with_reducible refine Hold.keep ?_ hb1 | with_reducible refine HoldM.keep ?_ hb1 | with_reducible refine Blank.keep ?_ hb1 | with_reducible refine Smm.keep ?_ hb1 | with_reducible refine Mds.keep ?_ hb1 | with_reducible refine Var.keep ?_ hb1 | with_reducible refine Thr.keep ?_ hb1 | with_reducible refine below_then hbx ?_ hb1)
  rintro _ W ⟨bx1, B, hD, hT, hS, hM, hX, rfl⟩
  subst hbx
  clear BB geB QhD QhT QhS QhM ghT ghS lthD lthT lthS lthM
  have ghT := hT.cells
  have ghT1 := fun o => (hT.alloc o).cells
  go_wp2_with fail
  clear ghT ghT1
  refine calls_world (fun V => Below w.heap.size w V ∧ Mds V ∧ Thr V w.heap.size a y z ∧ Smm V bb k ∧ Hold V bm m ∧ Hold V bx1 x ∧ Hold V W.heap.size y ∧ Hold V (W.heap.size + 1) z) ⟨(B.alloc B.size _).alloc (by have := B.size; simp; omega) _, (hD.alloc _).alloc _, (hT.alloc _).alloc _, (hS.alloc _).alloc _, (hM.alloc _).alloc _, (hX.alloc _).alloc _, (Hold.new _ _ _).alloc _, Hold.fresh (by simp)⟩ ?_
  clear B hD hT hS hM hX
  rintro V ⟨B, hD, hT, hS, hM, hX, hY, hZ⟩
  generalize W.heap.size + 1 = bz1 at *
  generalize W.heap.size = by1 at *
  clear W
  clear hT
  with_reducible refine (F1.out _).mono ?_
  rintro e w3 ⟨rfl, hb⟩
  replace B := B.trans (hb.mono B.size)
  replace hD := hD.keep hb; replace hS := hS.keep hb; replace hM := hM.keep hb; replace hX := hX.keep hb; replace hY := hY.keep hb; replace hZ := hZ.keep hb
  clear hb V
  have ghX := hX.allocs
  have ghM := hM.allocs
  go_wp2_with fail
  refine calls_world (fun W => Below w.heap.size w W ∧ Mds W ∧ Smm W bb k ∧ Hold W bm m ∧ Hold W bx1 x ∧ Hold W by1 y ∧ Hold W bz1 z ∧ Hold W w3.heap.size 1) ⟨B.alloc B.size _, hD.alloc _, hS.alloc _, hM.alloc _, hX.alloc _, hY.alloc _, hZ.alloc _, Hold.new _ _ _⟩ ?_
  clear B hD hS hM hX hY hZ ghX ghM
  rintro W ⟨B, hD, hS, hM, hX, hY, hZ, hO⟩
  generalize w3.heap.size = bo at *
  with_reducible refine (C1.out _).mono ?_
  rintro e w4 ⟨rfl, hb⟩
  replace B := B.trans (hb.mono B.size)
  replace hD := hD.keep hb; replace hS := hS.keep hb; replace hM := hM.keep hb; replace hX := hX.keep hb; replace hY := hY.keep hb; replace hZ := hZ.keep hb; replace hO := hO.keep hb
  clear hb W
  go_wp2_with fail
  refine wp_world (fun W => Below w.heap.size w W ∧ Mds W ∧ Smm W bb k ∧ Hold W bm m ∧ Hold W bx1 x ∧ Hold W by1 y ∧ Hold W bz1 z ∧ Hold W bo 1) ⟨B, hD, hS, hM, hX, hY, hZ, hO⟩ ?_
  clear B hD hS hM hX hY hZ hO 
  rintro W ⟨B, hD, hS, hM, hX, hY, hZ, hO⟩
  have ghX := hX.grown
  have ghY := hY.grown
  have ghZ := hZ.grown
  have hDg : ∀ d os, Mds (grow (redrawn W d) os) := fun d os => hD.keep (below_regrown W d os)
  have hSg := fun d os => hS.keep (below_regrown W d os)
  refine wp_region_quiet_below (by kernel_rfl) (by kernel_rfl) ?_
  repeat
    first
      | go_big_quiet_skip
      | (go_big_quiet_want; go_big_quiet_op; go_big_quiet_on)
      | (go_big_quiet_want
         go_big_quiet_op
         apply Exists.intro
         refine ⟨fun p => ?_, ?_⟩
         · (first | (go_at_call 23; with_reducible exact Calls.regrown_of (A1.out _ _ (hDg p.d p.os) (hSg p.d p.os))) | (go_at_call 23; with_reducible exact Calls.regrown_of (A2.out _ _ (hDg p.d p.os) (hSg p.d p.os))) | (go_at_call 24; with_reducible exact Calls.regrown_of (M1.out _ _ (hDg p.d p.os) (hSg p.d p.os))) | (go_at_call 24; with_reducible exact Calls.regrown_of (M2.out _ _ (hDg p.d p.os) (hSg p.d p.os))) | (go_at_call 23; with_reducible exact Calls.regrown_of (A3.out _ _ (hDg p.d p.os) (hSg p.d p.os))) | (go_at_call 23; with_reducible exact Calls.regrown_of (A4.out _ _ (hDg p.d p.os) (hSg p.d p.os))) | (go_at_call 23; with_reducible exact Calls.regrown_of (A5.out _ _ (hDg p.d p.os) (hSg p.d p.os))) | (go_at_call 24; with_reducible exact Calls.regrown_of (M3.out _ _ (hDg p.d p.os) (hSg p.d p.os))) | (go_at_call 24; with_reducible exact Calls.regrown_of (M4.out _ _ (hDg p.d p.os) (hSg p.d p.os))) | (go_at_call 24; with_reducible exact Calls.regrown_of (M5.out _ _ (hDg p.d p.os) (hSg p.d p.os))))
         go_big_quiet_on)
  refine wpQuiet_nil ?_
  rintro w5 ⟨p, rfl⟩
  have hb := below_regrown W p.d p.os
  generalize grow (redrawn W p.d) p.os = w5 at *
  replace B := B.trans (hb.mono B.size)
  replace hD := hD.keep hb; replace hS := hS.keep hb; replace hM := hM.keep hb; replace hX := hX.keep hb; replace hY := hY.keep hb; replace hZ := hZ.keep hb; replace hO := hO.keep hb
  clear hb W ghX ghY ghZ hDg hSg
  go_wp2_with fail
  refine wp_world (fun W => Below w.heap.size w W ∧ Mds W ∧ Smm W bb k ∧ Hold W bm m ∧ Hold W bx1 x ∧ Hold W by1 y ∧ Hold W bz1 z ∧ Hold W bo 1) ⟨B, hD, hS, hM, hX, hY, hZ, hO⟩ ?_
  clear B hD hS hM hX hY hZ hO
  rintro W ⟨B, hD, hS, hM, hX, hY, hZ, hO⟩
  clear w5
  have ghX := hX.grown
  have ghY := hY.grown
  have ghZ := hZ.grown
  have ghO := hO.grown
  have hDg : ∀ d os, Mds (grow (redrawn W d) os) := fun d os => hD.keep (below_regrown W d os)
  have hSg := fun d os => hS.keep (below_regrown W d os)
  refine wp_region_quiet_below (by kernel_rfl) (by kernel_rfl) ?_
  repeat
    first
      | go_big_quiet_skip
      | (go_big_quiet_want; go_big_quiet_op; go_big_quiet_on)
      | (go_big_quiet_want
         go_big_quiet_op
         apply Exists.intro
         refine ⟨fun p => ?_, ?_⟩
         · (first | (go_at_call 24; with_reducible exact Calls.regrown_of (M1.out _ _ (hDg p.d p.os) (hSg p.d p.os))) | (go_at_call 23; with_reducible exact Calls.regrown_of (A4.out _ _ (hDg p.d p.os) (hSg p.d p.os))) | (go_at_call 24; with_reducible exact Calls.regrown_of (M6.out _ _ (hDg p.d p.os) (hSg p.d p.os))) | (go_at_call 24; with_reducible exact Calls.regrown_of (M7.out _ _ (hDg p.d p.os) (hSg p.d p.os))) | (go_at_call 23; with_reducible exact Calls.regrown_of (A6.out _ _ (hDg p.d p.os) (hSg p.d p.os))) | (go_at_call 23; with_reducible exact Calls.regrown_of (A7.out _ _ (hDg p.d p.os) (hSg p.d p.os))) | (go_at_call 24; with_reducible exact Calls.regrown_of (M8.out _ _ (hDg p.d p.os) (hSg p.d p.os))) | (go_at_call 24; with_reducible exact Calls.regrown_of (M9.out _ _ (hDg p.d p.os) (hSg p.d p.os))))
         go_big_quiet_on)
  refine wpQuiet_nil ?_
  rintro w6 ⟨p, rfl⟩
  have hb := below_regrown W p.d p.os
  generalize grow (redrawn W p.d) p.os = w6 at *
  replace B := B.trans (hb.mono B.size)
  replace hD := hD.keep hb; replace hS := hS.keep hb; replace hM := hM.keep hb; replace hX := hX.keep hb; replace hY := hY.keep hb; replace hZ := hZ.keep hb; replace hO := hO.keep hb
  clear hb W ghX ghY ghZ ghO hDg hSg
  go_wp2_with fail
  refine wp_world (fun W => Below w.heap.size w W ∧ Mds W ∧ Smm W bb k ∧ Hold W bm m ∧ Hold W bx1 x ∧ Hold W by1 y ∧ Hold W bz1 z ∧ Hold W bo 1) ⟨B, hD, hS, hM, hX, hY, hZ, hO⟩ ?_
  clear B hD hS hM hX hY hZ hO
  rintro W ⟨B, hD, hS, hM, hX, hY, hZ, hO⟩
  clear w6
  have lthD : 0 < W.heap.size := hD.lt
  have ghS := hS.1
  have lthS : bb < W.heap.size := hS.lt
  have lthM : bm < W.heap.size := World.block_lt_of_cell? W _ hM.1
  have ghX := hX.cells
  have lthX : bx1 < W.heap.size := World.block_lt_of_cell? W _ hX.1
  have ghY := hY.cells
  have lthY : by1 < W.heap.size := World.block_lt_of_cell? W _ hY.1
  have lthZ : bz1 < W.heap.size := World.block_lt_of_cell? W _ hZ.1
  have lthO : bo < W.heap.size := World.block_lt_of_cell? W _ hO.1
  have BB : Hid (Below w.heap.size w W) := B
  have QhD : Hid (Mds W) := hD
  have QhS : Hid (Smm W bb k) := hS
  have QhM : Hid (Hold W bm m) := hM
  have QhX : Hid (Hold W bx1 x) := hX
  have QhY : Hid (Hold W by1 y) := hY
  have QhZ : Hid (Hold W bz1 z) := hZ
  have QhO : Hid (Hold W bo 1) := hO
  have geB : w.heap.size ≤ W.heap.size := B.size
  clear B hD hS hM hX hY hZ hO
  generalize hbx : w.heap.size = bx at *
  refine wp_out (fun a' W' => ∃ be, Below bx w W' ∧ Mds W' ∧ Smm W' bb k ∧ Hold W' bm m ∧ Hold W' bx1 x ∧ Hold W' by1 y ∧ Hold W' bz1 z ∧ Hold W' bo 1 ∧ Hold W' be rd ∧ a' = { tmps := #[.int .i64 v, .agg #[.int .u64 (l0 a), .int .u64 (l1 a), .int .u64 (l2 a), .int .u64 (l3 a), .int .u64 (l0 y), .int .u64 (l1 y), .int .u64 (l2 y), .int .u64 (l3 y), .int .u64 (l0 z), .int .u64 (l1 z), .int .u64 (l2 z), .int .u64 (l3 z)], Go.undef, .pointer (some { block := bx, off := 0 }), .bool false, .pointer (some { block := bb, off := 0 }), .pointer (some { block := bm, off := 0 }), .int .i64 0, .pointer (some { block := bx1, off := 0 }), .int .i64 0, .pointer (some { block := by1, off := 0 }), .pointer (some { block := bz1, off := 0 }), .pointer (some { block := bo, off := 0 }), .pointer (some { block := be, off := 0 }), .int .i64 0, Go.undef, Go.undef, Go.undef, Go.undef, .int .i64 v, .int .i64 k, .agg #[.int .i64 k, .bool false], .pointer (some { block := bb, off := 0 }), .tuple #[.agg #[.int .u64 (l0 m), .int .u64 (l1 m), .int .u64 (l2 m), .int .u64 (l3 m)], .int .i64 0], .pointer (some { block := bb, off := 0 }), .pointer (some { block := bb, off := 0 }), .pointer (some { block := bb, off := 0 }), .int .i64 k, .tuple #[.agg #[.int .u64 (l0 m), .int .u64 (l1 m), .int .u64 (l2 m), .int .u64 (l3 m)], .int .i64 0], .agg #[.int .u64 (l0 m), .int .u64 (l1 m), .int .u64 (l2 m), .int .u64 (l3 m)], .int .i64 0, .tuple #[.agg #[.int .u64 (l0 x), .int .u64 (l1 x), .int .u64 (l2 x), .int .u64 (l3 x)], .int .i64 0], .pointer (some { block := bb, off := 0 }), .pointer (some { block := bb, off := 0 }), .pointer (some { block := bb, off := 0 }), .int .i64 k, .agg #[.int .u64 0, .int .u64 0, .int .u64 0, .int .u64 0], .pointer (some { block := bx, off := 0 }), .agg #[.int .u64 (l0 a), .int .u64 (l1 a), .int .u64 (l2 a), .int .u64 (l3 a)], .tuple #[.agg #[.int .u64 (l0 x), .int .u64 (l1 x), .int .u64 (l2 x), .int .u64 (l3 x)], .int .i64 0], .agg #[.int .u64 (l0 x), .int .u64 (l1 x), .int .u64 (l2 x), .int .u64 (l3 x)], .int .i64 0, .pointer (some { block := bx, off := 4 }), .agg #[.int .u64 (l0 y), .int .u64 (l1 y), .int .u64 (l2 y), .int .u64 (l3 y)], .pointer (some { block := bx, off := 8 }), .agg #[.int .u64 (l0 z), .int .u64 (l1 z), .int .u64 (l2 z), .int .u64 (l3 z)], .agg #[.int .u64 (l0 1), .int .u64 (l1 1), .int .u64 (l2 1), .int .u64 (l3 1)], .int .i64 0, .bool false, .bool false, .int .i64 0, .bool false, .bool false, .bool false, .agg #[.int .u64 (l0 x), .int .u64 (l1 x), .int .u64 (l2 x), .int .u64 (l3 x)], .agg #[.int .u64 (l0 m), .int .u64 (l1 m), .int .u64 (l2 m), .int .u64 (l3 m)], .int .i64 (-1), .bool false, .bool false, .pointer (some { block := bb, off := 0 }), .agg #[.int .u64 (l0 x), .int .u64 (l1 x), .int .u64 (l2 x), .int .u64 (l3 x)], .agg #[.int .u64 (l0 y), .int .u64 (l1 y), .int .u64 (l2 y), .int .u64 (l3 y)], .agg #[.int .u64 (l0 ra), .int .u64 (l1 ra), .int .u64 (l2 ra), .int .u64 (l3 ra)], .pointer (some { block := bb, off := 0 }), .agg #[.int .u64 (l0 y), .int .u64 (l1 y), .int .u64 (l2 y), .int .u64 (l3 y)], .agg #[.int .u64 (l0 x), .int .u64 (l1 x), .int .u64 (l2 x), .int .u64 (l3 x)], .agg #[.int .u64 (l0 ra), .int .u64 (l1 ra), .int .u64 (l2 ra), .int .u64 (l3 ra)], .bool false, .bool false, .pointer (some { block := bb, off := 0 }), .agg #[.int .u64 (l0 x), .int .u64 (l1 x), .int .u64 (l2 x), .int .u64 (l3 x)], .agg #[.int .u64 (l0 y), .int .u64 (l1 y), .int .u64 (l2 y), .int .u64 (l3 y)], .agg #[.int .u64 (l0 rm), .int .u64 (l1 rm), .int .u64 (l2 rm), .int .u64 (l3 rm)], .pointer (some { block := bb, off := 0 }), .agg #[.int .u64 (l0 y), .int .u64 (l1 y), .int .u64 (l2 y), .int .u64 (l3 y)], .agg #[.int .u64 (l0 x), .int .u64 (l1 x), .int .u64 (l2 x), .int .u64 (l3 x)], .agg #[.int .u64 (l0 rm), .int .u64 (l1 rm), .int .u64 (l2 rm), .int .u64 (l3 rm)], .bool false, .bool false, .bool false, .pointer (some { block := bb, off := 0 }), .pointer (some { block := bb, off := 0 }), .agg #[.int .u64 (l0 x), .int .u64 (l1 x), .int .u64 (l2 x), .int .u64 (l3 x)], .agg #[.int .u64 (l0 y), .int .u64 (l1 y), .int .u64 (l2 y), .int .u64 (l3 y)], .agg #[.int .u64 (l0 ra), .int .u64 (l1 ra), .int .u64 (l2 ra), .int .u64 (l3 ra)], .agg #[.int .u64 (l0 z), .int .u64 (l1 z), .int .u64 (l2 z), .int .u64 (l3 z)], .agg #[.int .u64 (l0 rt), .int .u64 (l1 rt), .int .u64 (l2 rt), .int .u64 (l3 rt)], .pointer (some { block := bb, off := 0 }), .agg #[.int .u64 (l0 x), .int .u64 (l1 x), .int .u64 (l2 x), .int .u64 (l3 x)], .pointer (some { block := bb, off := 0 }), .agg #[.int .u64 (l0 y), .int .u64 (l1 y), .int .u64 (l2 y), .int .u64 (l3 y)], .agg #[.int .u64 (l0 z), .int .u64 (l1 z), .int .u64 (l2 z), .int .u64 (l3 z)], .agg #[.int .u64 (l0 ru), .int .u64 (l1 ru), .int .u64 (l2 ru), .int .u64 (l3 ru)], .agg #[.int .u64 (l0 rt), .int .u64 (l1 rt), .int .u64 (l2 rt), .int .u64 (l3 rt)], .bool false, .bool false, .bool false, .pointer (some { block := bb, off := 0 }), .pointer (some { block := bb, off := 0 }), .agg #[.int .u64 (l0 x), .int .u64 (l1 x), .int .u64 (l2 x), .int .u64 (l3 x)], .agg #[.int .u64 (l0 y), .int .u64 (l1 y), .int .u64 (l2 y), .int .u64 (l3 y)], .agg #[.int .u64 (l0 rm), .int .u64 (l1 rm), .int .u64 (l2 rm), .int .u64 (l3 rm)], .agg #[.int .u64 (l0 z), .int .u64 (l1 z), .int .u64 (l2 z), .int .u64 (l3 z)], .agg #[.int .u64 (l0 rp), .int .u64 (l1 rp), .int .u64 (l2 rp), .int .u64 (l3 rp)], .pointer (some { block := bb, off := 0 }), .agg #[.int .u64 (l0 x), .int .u64 (l1 x), .int .u64 (l2 x), .int .u64 (l3 x)], .pointer (some { block := bb, off := 0 }), .agg #[.int .u64 (l0 y), .int .u64 (l1 y), .int .u64 (l2 y), .int .u64 (l3 y)], .agg #[.int .u64 (l0 z), .int .u64 (l1 z), .int .u64 (l2 z), .int .u64 (l3 z)], .agg #[.int .u64 (l0 rq), .int .u64 (l1 rq), .int .u64 (l2 rq), .int .u64 (l3 rq)], .agg #[.int .u64 (l0 rp), .int .u64 (l1 rp), .int .u64 (l2 rp), .int .u64 (l3 rp)], .bool false, .bool false, .pointer (some { block := bb, off := 0 }), .agg #[.int .u64 (l0 x), .int .u64 (l1 x), .int .u64 (l2 x), .int .u64 (l3 x)], .pointer (some { block := bb, off := 0 }), .agg #[.int .u64 (l0 y), .int .u64 (l1 y), .int .u64 (l2 y), .int .u64 (l3 y)], .agg #[.int .u64 (l0 z), .int .u64 (l1 z), .int .u64 (l2 z), .int .u64 (l3 z)], .agg #[.int .u64 (l0 ru), .int .u64 (l1 ru), .int .u64 (l2 ru), .int .u64 (l3 ru)], .agg #[.int .u64 (l0 rr), .int .u64 (l1 rr), .int .u64 (l2 rr), .int .u64 (l3 rr)], .pointer (some { block := bb, off := 0 }), .pointer (some { block := bb, off := 0 }), .agg #[.int .u64 (l0 x), .int .u64 (l1 x), .int .u64 (l2 x), .int .u64 (l3 x)], .agg #[.int .u64 (l0 y), .int .u64 (l1 y), .int .u64 (l2 y), .int .u64 (l3 y)], .agg #[.int .u64 (l0 rm), .int .u64 (l1 rm), .int .u64 (l2 rm), .int .u64 (l3 rm)], .pointer (some { block := bb, off := 0 }), .agg #[.int .u64 (l0 x), .int .u64 (l1 x), .int .u64 (l2 x), .int .u64 (l3 x)], .agg #[.int .u64 (l0 z), .int .u64 (l1 z), .int .u64 (l2 z), .int .u64 (l3 z)], .agg #[.int .u64 (l0 rv), .int .u64 (l1 rv), .int .u64 (l2 rv), .int .u64 (l3 rv)], .agg #[.int .u64 (l0 rr), .int .u64 (l1 rr), .int .u64 (l2 rr), .int .u64 (l3 rr)], .bool false, .bool false, .pointer (some { block := bb, off := 0 }), .agg #[.int .u64 (l0 x), .int .u64 (l1 x), .int .u64 (l2 x), .int .u64 (l3 x)], .agg #[.int .u64 0, .int .u64 0, .int .u64 0, .int .u64 0], .agg #[.int .u64 (l0 x), .int .u64 (l1 x), .int .u64 (l2 x), .int .u64 (l3 x)], .agg #[.int .u64 (l0 x), .int .u64 (l1 x), .int .u64 (l2 x), .int .u64 (l3 x)], .bool false, .bool false, .bool false, .pointer (some { block := bb, off := 0 }), .agg #[.int .u64 (l0 x), .int .u64 (l1 x), .int .u64 (l2 x), .int .u64 (l3 x)], .agg #[.int .u64 (l0 1), .int .u64 (l1 1), .int .u64 (l2 1), .int .u64 (l3 1)], .agg #[.int .u64 (l0 x), .int .u64 (l1 x), .int .u64 (l2 x), .int .u64 (l3 x)], .agg #[.int .u64 (l0 x), .int .u64 (l1 x), .int .u64 (l2 x), .int .u64 (l3 x)], .bool false, .bool false, .bool false, .pointer (some { block := bb, off := 0 }), .agg #[.int .u64 (l0 x), .int .u64 (l1 x), .int .u64 (l2 x), .int .u64 (l3 x)], .agg #[.int .u64 0, .int .u64 0, .int .u64 0, .int .u64 0], .agg #[.int .u64 0, .int .u64 0, .int .u64 0, .int .u64 0], .agg #[.int .u64 0, .int .u64 0, .int .u64 0, .int .u64 0], .bool false, .bool false, .tuple #[.agg #[.int .u64 (l0 rd), .int .u64 (l1 rd), .int .u64 (l2 rd), .int .u64 (l3 rd)], .int .i64 0], .pointer (some { block := bb, off := 0 }), .pointer (some { block := bb, off := 0 }), .pointer (some { block := bb, off := 0 }), .int .i64 k, .agg #[.int .u64 (l0 x), .int .u64 (l1 x), .int .u64 (l2 x), .int .u64 (l3 x)], .agg #[.int .u64 (l0 y), .int .u64 (l1 y), .int .u64 (l2 y), .int .u64 (l3 y)], .tuple #[.agg #[.int .u64 (l0 rd), .int .u64 (l1 rd), .int .u64 (l2 rd), .int .u64 (l3 rd)], .int .i64 0], .agg #[.int .u64 (l0 rd), .int .u64 (l1 rd), .int .u64 (l2 rd), .int .u64 (l3 rd)], .int .i64 0, Go.undef, Go.undef, Go.undef, Go.undef, Go.undef, Go.undef, Go.undef, Go.undef, Go.undef, Go.undef, Go.undef, Go.undef, Go.undef, Go.undef, Go.undef, Go.undef, Go.undef, Go.undef, Go.undef, Go.undef, Go.undef, Go.undef, Go.undef, Go.undef, Go.undef, Go.undef, Go.undef, Go.undef, Go.undef, Go.undef, Go.undef, Go.undef, Go.undef, Go.undef, Go.undef, Go.undef, Go.undef, Go.undef, Go.undef, Go.undef, Go.undef, Go.undef, Go.undef, Go.undef, Go.undef, Go.undef, Go.undef, Go.undef, Go.undef, Go.undef, Go.undef, Go.undef, Go.undef, Go.undef, Go.undef, Go.undef, Go.undef, Go.undef, Go.undef, Go.undef, Go.undef, Go.undef, Go.undef, Go.undef, Go.undef, Go.undef, Go.undef, Go.undef, Go.undef, Go.undef, Go.undef, Go.undef, Go.undef, Go.undef, Go.undef, Go.undef, Go.undef, Go.undef, Go.undef, Go.undef, Go.undef, Go.undef, Go.undef], defers := [] }) ?_ ?_
  · have dz : W.drew.heap.size = W.heap.size := rfl
    have _ : bb < W.heap.size := by omega
    have _ : bb ≤ W.heap.size := by omega
    have _ : bb < W.heap.size + 1 := by omega
    have _ : bb < W.heap.size + 1 + 1 := by omega
    have _ : bb ≠ W.heap.size := by omega
    have _ : W.heap.size ≠ bb := by omega
    have _ : bb ≠ W.heap.size + 1 := by omega
    have _ : W.heap.size + 1 ≠ bb := by omega
    have _ : bm < W.heap.size := by omega
    have _ : bm ≤ W.heap.size := by omega
    have _ : bm < W.heap.size + 1 := by omega
    have _ : bm < W.heap.size + 1 + 1 := by omega
    have _ : bm ≠ W.heap.size := by omega
    have _ : W.heap.size ≠ bm := by omega
    have _ : bm ≠ W.heap.size + 1 := by omega
    have _ : W.heap.size + 1 ≠ bm := by omega
    have _ : bx1 < W.heap.size := by omega
    have _ : bx1 ≤ W.heap.size := by omega
    have _ : bx1 < W.heap.size + 1 := by omega
    have _ : bx1 < W.heap.size + 1 + 1 := by omega
    have _ : bx1 ≠ W.heap.size := by omega
    have _ : W.heap.size ≠ bx1 := by omega
    have _ : bx1 ≠ W.heap.size + 1 := by omega
    have _ : W.heap.size + 1 ≠ bx1 := by omega
    have _ : by1 < W.heap.size := by omega
    have _ : by1 ≤ W.heap.size := by omega
    have _ : by1 < W.heap.size + 1 := by omega
    have _ : by1 < W.heap.size + 1 + 1 := by omega
    have _ : by1 ≠ W.heap.size := by omega
    have _ : W.heap.size ≠ by1 := by omega
    have _ : by1 ≠ W.heap.size + 1 := by omega
    have _ : W.heap.size + 1 ≠ by1 := by omega
    have _ : bz1 < W.heap.size := by omega
    have _ : bz1 ≤ W.heap.size := by omega
    have _ : bz1 < W.heap.size + 1 := by omega
    have _ : bz1 < W.heap.size + 1 + 1 := by omega
    have _ : bz1 ≠ W.heap.size := by omega
    have _ : W.heap.size ≠ bz1 := by omega
    have _ : bz1 ≠ W.heap.size + 1 := by omega
    have _ : W.heap.size + 1 ≠ bz1 := by omega
    have _ : bo < W.heap.size := by omega
    have _ : bo ≤ W.heap.size := by omega
    have _ : bo < W.heap.size + 1 := by omega
    have _ : bo < W.heap.size + 1 + 1 := by omega
    have _ : bo ≠ W.heap.size := by omega
    have _ : W.heap.size ≠ bo := by omega
    have _ : bo ≠ W.heap.size + 1 := by omega
    have _ : W.heap.size + 1 ≠ bo := by omega
    have _ : 0 < W.heap.size := by omega
    have _ : 0 ≤ W.heap.size := by omega
    have _ : 0 < W.heap.size + 1 := by omega
    have _ : 0 < W.heap.size + 1 + 1 := by omega
    have _ : 0 ≠ W.heap.size := by omega
    have _ : W.heap.size ≠ 0 := by omega
    have _ : 0 ≠ W.heap.size + 1 := by omega
    have _ : W.heap.size + 1 ≠ 0 := by omega
    go_region_held3 (fun w' => w'.cell? ⟨bb, 0, none⟩ = some (.int .i64 k) ∧ w'.cell? ⟨bx1, 0, none⟩ = some (.int .u64 (l0 x)) ∧ w'.cell? ⟨bx1, 1, none⟩ = some (.int .u64 (l1 x)) ∧ w'.cell? ⟨bx1, 2, none⟩ = some (.int .u64 (l2 x)) ∧ w'.cell? ⟨bx1, 3, none⟩ = some (.int .u64 (l3 x)) ∧ w'.cell? ⟨by1, 0, none⟩ = some (.int .u64 (l0 y)) ∧ w'.cell? ⟨by1, 1, none⟩ = some (.int .u64 (l1 y)) ∧ w'.cell? ⟨by1, 2, none⟩ = some (.int .u64 (l2 y)) ∧ w'.cell? ⟨by1, 3, none⟩ = some (.int .u64 (l3 y))) (((try dsimp only); (repeat' (apply And.intro)); (all_goals repeat (first | with_reducible assumption | with_reducible apply cell_keep hb1 | with_reducible apply cell_alloc | (with_reducible refine cell_set ?_ (by with_reducible assumption)) | (simp [go_sem, *]; done)))))
      (first
        | (go_at_call 25; with_reducible refine (D1.out _ (by repeat (first | with_reducible exact QhD.out | with_reducible refine Mds.alloc ?_ _ | with_reducible refine Mds.drew ?_))).mono ?_; rintro e w1 ⟨rfl, hb1⟩; have hc1 := oldCells hb1; have hz1 := hb1.size; (try simp at hz1); (try (have := fun j => oldCells hb1 (W.heap.size) j (by first | omega | (simp; done) | (simp; omega)))); (try (have := fun j => oldCells hb1 (W.heap.size + 1) j (by first | omega | (simp; done) | (simp; omega)))); have _ : bb < w1.heap.size := (by omega); have _ : bb ≤ w1.heap.size := (by omega); have _ : bb < w1.heap.size + 1 := (by omega); have _ : bb < w1.heap.size + 1 + 1 := (by omega); have _ : bb ≠ w1.heap.size := (by omega); have _ : w1.heap.size ≠ bb := (by omega); have _ : bb ≠ w1.heap.size + 1 := (by omega); have _ : w1.heap.size + 1 ≠ bb := (by omega); have _ : bm < w1.heap.size := (by omega); have _ : bm ≤ w1.heap.size := (by omega); have _ : bm < w1.heap.size + 1 := (by omega); have _ : bm < w1.heap.size + 1 + 1 := (by omega); have _ : bm ≠ w1.heap.size := (by omega); have _ : w1.heap.size ≠ bm := (by omega); have _ : bm ≠ w1.heap.size + 1 := (by omega); have _ : w1.heap.size + 1 ≠ bm := (by omega); have _ : bx1 < w1.heap.size := (by omega); have _ : bx1 ≤ w1.heap.size := (by omega); have _ : bx1 < w1.heap.size + 1 := (by omega); have _ : bx1 < w1.heap.size + 1 + 1 := (by omega); have _ : bx1 ≠ w1.heap.size := (by omega); have _ : w1.heap.size ≠ bx1 := (by omega); have _ : bx1 ≠ w1.heap.size + 1 := (by omega); have _ : w1.heap.size + 1 ≠ bx1 := (by omega); have _ : by1 < w1.heap.size := (by omega); have _ : by1 ≤ w1.heap.size := (by omega); have _ : by1 < w1.heap.size + 1 := (by omega); have _ : by1 < w1.heap.size + 1 + 1 := (by omega); have _ : by1 ≠ w1.heap.size := (by omega); have _ : w1.heap.size ≠ by1 := (by omega); have _ : by1 ≠ w1.heap.size + 1 := (by omega); have _ : w1.heap.size + 1 ≠ by1 := (by omega); have _ : bz1 < w1.heap.size := (by omega); have _ : bz1 ≤ w1.heap.size := (by omega); have _ : bz1 < w1.heap.size + 1 := (by omega); have _ : bz1 < w1.heap.size + 1 + 1 := (by omega); have _ : bz1 ≠ w1.heap.size := (by omega); have _ : w1.heap.size ≠ bz1 := (by omega); have _ : bz1 ≠ w1.heap.size + 1 := (by omega); have _ : w1.heap.size + 1 ≠ bz1 := (by omega); have _ : bo < w1.heap.size := (by omega); have _ : bo ≤ w1.heap.size := (by omega); have _ : bo < w1.heap.size + 1 := (by omega); have _ : bo < w1.heap.size + 1 + 1 := (by omega); have _ : bo ≠ w1.heap.size := (by omega); have _ : w1.heap.size ≠ bo := (by omega); have _ : bo ≠ w1.heap.size + 1 := (by omega); have _ : w1.heap.size + 1 ≠ bo := (by omega); have _ : 0 < w1.heap.size := (by omega); have _ : 0 ≤ w1.heap.size := (by omega); have _ : 0 < w1.heap.size + 1 := (by omega); have _ : 0 < w1.heap.size + 1 + 1 := (by omega); have _ : 0 ≠ w1.heap.size := (by omega); have _ : w1.heap.size ≠ 0 := (by omega); have _ : 0 ≠ w1.heap.size + 1 := (by omega); have _ : w1.heap.size + 1 ≠ 0 := (by omega); (try (have _ : W.heap.size < w1.heap.size := (by omega))); (try (have _ : W.heap.size ≤ w1.heap.size := (by omega))); (try (have _ : W.heap.size ≠ w1.heap.size := (by omega))); (try (have _ : w1.heap.size ≠ W.heap.size := (by omega))); (try (have _ : W.heap.size < w1.heap.size + 1 := (by omega))); (try (have _ : W.heap.size + 1 < w1.heap.size := (by omega))); (try (have _ : W.heap.size + 1 ≤ w1.heap.size := (by omega))); (try (have _ : W.heap.size + 1 ≠ w1.heap.size := (by omega))); (try (have _ : w1.heap.size ≠ W.heap.size + 1 := (by omega))); (try (have _ : W.heap.size + 1 < w1.heap.size + 1 := (by omega)))))
    all_goals (refine OutQ.intro ⟨_, ?_, ?_, ?_, ?_, ?_, ?_, ?_, ?_, ?_, rfl⟩)
    all_goals repeat (first | with_reducible exact BB.out | with_reducible exact QhD.out | with_reducible exact QhS.out | with_reducible exact QhM.out | with_reducible exact QhX.out | with_reducible exact QhY.out | with_reducible exact QhZ.out | with_reducible exact QhO.out | with_reducible refine Hold.fresh (by first | rfl | (simp; done) | fail) | with_reducible refine Hold.sets4 ?_ | with_reducible refine Var.new (by first | rfl | (simp; done) | fail) | with_reducible refine Hold.alloc ?_ _ | with_reducible refine Hold.drew ?_ | with_reducible refine Hold.set4 ?_ (by with_reducible assumption) _ _ _ _ | with_reducible refine HoldM.alloc ?_ _ | with_reducible refine HoldM.drew ?_ | with_reducible refine HoldM.set4 ?_ (by with_reducible assumption) _ _ _ _ | with_reducible refine Blank.alloc ?_ _ | with_reducible refine Blank.drew ?_ | with_reducible refine Blank.set4 ?_ (by with_reducible assumption) _ _ _ _ | with_reducible refine Smm.alloc ?_ _ | with_reducible refine Smm.drew ?_ | with_reducible refine Smm.set4 ?_ (by with_reducible assumption) _ _ _ _ | with_reducible refine Mds.alloc ?_ _ | with_reducible refine Mds.drew ?_ | with_reducible refine Mds.set4 ?_ (by with_reducible assumption) _ _ _ _ | with_reducible refine Var.alloc ?_ _ | with_reducible refine Var.set4 ?_ (by with_reducible assumption) _ _ _ _ | with_reducible refine below_alloc hbx ?_ _ | with_reducible refine Below.drew ?_ | with_reducible refine Below.setCell ?_ (by with_reducible assumption) _ | with_reducible refine Has.fresh (by first | rfl | (simp; done) | fail) (by first | (simp; done) | fail) | with_reducible refine Has.alloc ?_ _ | with_reducible refine Has.drew ?_ | with_reducible refine Has.keep ?_ hb1 | with_reducible refine Hold.keep ?_ hb1 | with_reducible refine HoldM.keep ?_ hb1 | with_reducible refine Blank.keep ?_ hb1 | with_reducible refine Smm.keep ?_ hb1 | with_reducible refine Mds.keep ?_ hb1 | with_reducible refine Var.keep ?_ hb1 | with_reducible refine below_then hbx ?_ hb1)
  rintro _ W ⟨be, B, hD, hS, hM, hX, hY, hZ, hO, hE, rfl⟩
  subst hbx
  clear BB geB QhD QhS QhM QhX QhY QhZ QhO ghS ghX ghY lthD lthS lthM lthX lthY lthZ lthO
  go_wp2_with fail
  have lthD : 0 < W.heap.size := hD.lt
  have ghS := hS.1
  have lthS : bb < W.heap.size := hS.lt
  have lthM : bm < W.heap.size := World.block_lt_of_cell? W _ hM.1
  have lthX : bx1 < W.heap.size := World.block_lt_of_cell? W _ hX.1
  have ghY := hY.cells
  have lthY : by1 < W.heap.size := World.block_lt_of_cell? W _ hY.1
  have lthZ : bz1 < W.heap.size := World.block_lt_of_cell? W _ hZ.1
  have lthO : bo < W.heap.size := World.block_lt_of_cell? W _ hO.1
  have lthE : be < W.heap.size := World.block_lt_of_cell? W _ hE.1
  have BB : Hid (Below w.heap.size w W) := B
  have QhD : Hid (Mds W) := hD
  have QhS : Hid (Smm W bb k) := hS
  have QhM : Hid (Hold W bm m) := hM
  have QhX : Hid (Hold W bx1 x) := hX
  have QhY : Hid (Hold W by1 y) := hY
  have QhZ : Hid (Hold W bz1 z) := hZ
  have QhO : Hid (Hold W bo 1) := hO
  have QhE : Hid (Hold W be rd) := hE
  have geB : w.heap.size ≤ W.heap.size := B.size
  clear B hD hS hM hX hY hZ hO hE
  generalize hbx : w.heap.size = bx at *
  refine wp_out (fun a' W' => ∃ bn, Below bx w W' ∧ Mds W' ∧ Smm W' bb k ∧ Hold W' bm m ∧ Hold W' bx1 x ∧ Hold W' by1 y ∧ Hold W' bz1 z ∧ Hold W' bo 1 ∧ Hold W' be rd ∧ Hold W' bn rn ∧ a' = { tmps := #[.int .i64 v, .agg #[.int .u64 (l0 a), .int .u64 (l1 a), .int .u64 (l2 a), .int .u64 (l3 a), .int .u64 (l0 y), .int .u64 (l1 y), .int .u64 (l2 y), .int .u64 (l3 y), .int .u64 (l0 z), .int .u64 (l1 z), .int .u64 (l2 z), .int .u64 (l3 z)], Go.undef, .pointer (some { block := bx, off := 0 }), .bool false, .pointer (some { block := bb, off := 0 }), .pointer (some { block := bm, off := 0 }), .int .i64 0, .pointer (some { block := bx1, off := 0 }), .int .i64 0, .pointer (some { block := by1, off := 0 }), .pointer (some { block := bz1, off := 0 }), .pointer (some { block := bo, off := 0 }), .pointer (some { block := be, off := 0 }), .int .i64 0, .pointer (some { block := bn, off := 0 }), .int .i64 0, Go.undef, Go.undef, .int .i64 v, .int .i64 k, .agg #[.int .i64 k, .bool false], .pointer (some { block := bb, off := 0 }), .tuple #[.agg #[.int .u64 (l0 m), .int .u64 (l1 m), .int .u64 (l2 m), .int .u64 (l3 m)], .int .i64 0], .pointer (some { block := bb, off := 0 }), .pointer (some { block := bb, off := 0 }), .pointer (some { block := bb, off := 0 }), .int .i64 k, .tuple #[.agg #[.int .u64 (l0 m), .int .u64 (l1 m), .int .u64 (l2 m), .int .u64 (l3 m)], .int .i64 0], .agg #[.int .u64 (l0 m), .int .u64 (l1 m), .int .u64 (l2 m), .int .u64 (l3 m)], .int .i64 0, .tuple #[.agg #[.int .u64 (l0 x), .int .u64 (l1 x), .int .u64 (l2 x), .int .u64 (l3 x)], .int .i64 0], .pointer (some { block := bb, off := 0 }), .pointer (some { block := bb, off := 0 }), .pointer (some { block := bb, off := 0 }), .int .i64 k, .agg #[.int .u64 0, .int .u64 0, .int .u64 0, .int .u64 0], .pointer (some { block := bx, off := 0 }), .agg #[.int .u64 (l0 a), .int .u64 (l1 a), .int .u64 (l2 a), .int .u64 (l3 a)], .tuple #[.agg #[.int .u64 (l0 x), .int .u64 (l1 x), .int .u64 (l2 x), .int .u64 (l3 x)], .int .i64 0], .agg #[.int .u64 (l0 x), .int .u64 (l1 x), .int .u64 (l2 x), .int .u64 (l3 x)], .int .i64 0, .pointer (some { block := bx, off := 4 }), .agg #[.int .u64 (l0 y), .int .u64 (l1 y), .int .u64 (l2 y), .int .u64 (l3 y)], .pointer (some { block := bx, off := 8 }), .agg #[.int .u64 (l0 z), .int .u64 (l1 z), .int .u64 (l2 z), .int .u64 (l3 z)], .agg #[.int .u64 (l0 1), .int .u64 (l1 1), .int .u64 (l2 1), .int .u64 (l3 1)], .int .i64 0, .bool false, .bool false, .int .i64 0, .bool false, .bool false, .bool false, .agg #[.int .u64 (l0 x), .int .u64 (l1 x), .int .u64 (l2 x), .int .u64 (l3 x)], .agg #[.int .u64 (l0 m), .int .u64 (l1 m), .int .u64 (l2 m), .int .u64 (l3 m)], .int .i64 (-1), .bool false, .bool false, .pointer (some { block := bb, off := 0 }), .agg #[.int .u64 (l0 x), .int .u64 (l1 x), .int .u64 (l2 x), .int .u64 (l3 x)], .agg #[.int .u64 (l0 y), .int .u64 (l1 y), .int .u64 (l2 y), .int .u64 (l3 y)], .agg #[.int .u64 (l0 ra), .int .u64 (l1 ra), .int .u64 (l2 ra), .int .u64 (l3 ra)], .pointer (some { block := bb, off := 0 }), .agg #[.int .u64 (l0 y), .int .u64 (l1 y), .int .u64 (l2 y), .int .u64 (l3 y)], .agg #[.int .u64 (l0 x), .int .u64 (l1 x), .int .u64 (l2 x), .int .u64 (l3 x)], .agg #[.int .u64 (l0 ra), .int .u64 (l1 ra), .int .u64 (l2 ra), .int .u64 (l3 ra)], .bool false, .bool false, .pointer (some { block := bb, off := 0 }), .agg #[.int .u64 (l0 x), .int .u64 (l1 x), .int .u64 (l2 x), .int .u64 (l3 x)], .agg #[.int .u64 (l0 y), .int .u64 (l1 y), .int .u64 (l2 y), .int .u64 (l3 y)], .agg #[.int .u64 (l0 rm), .int .u64 (l1 rm), .int .u64 (l2 rm), .int .u64 (l3 rm)], .pointer (some { block := bb, off := 0 }), .agg #[.int .u64 (l0 y), .int .u64 (l1 y), .int .u64 (l2 y), .int .u64 (l3 y)], .agg #[.int .u64 (l0 x), .int .u64 (l1 x), .int .u64 (l2 x), .int .u64 (l3 x)], .agg #[.int .u64 (l0 rm), .int .u64 (l1 rm), .int .u64 (l2 rm), .int .u64 (l3 rm)], .bool false, .bool false, .bool false, .pointer (some { block := bb, off := 0 }), .pointer (some { block := bb, off := 0 }), .agg #[.int .u64 (l0 x), .int .u64 (l1 x), .int .u64 (l2 x), .int .u64 (l3 x)], .agg #[.int .u64 (l0 y), .int .u64 (l1 y), .int .u64 (l2 y), .int .u64 (l3 y)], .agg #[.int .u64 (l0 ra), .int .u64 (l1 ra), .int .u64 (l2 ra), .int .u64 (l3 ra)], .agg #[.int .u64 (l0 z), .int .u64 (l1 z), .int .u64 (l2 z), .int .u64 (l3 z)], .agg #[.int .u64 (l0 rt), .int .u64 (l1 rt), .int .u64 (l2 rt), .int .u64 (l3 rt)], .pointer (some { block := bb, off := 0 }), .agg #[.int .u64 (l0 x), .int .u64 (l1 x), .int .u64 (l2 x), .int .u64 (l3 x)], .pointer (some { block := bb, off := 0 }), .agg #[.int .u64 (l0 y), .int .u64 (l1 y), .int .u64 (l2 y), .int .u64 (l3 y)], .agg #[.int .u64 (l0 z), .int .u64 (l1 z), .int .u64 (l2 z), .int .u64 (l3 z)], .agg #[.int .u64 (l0 ru), .int .u64 (l1 ru), .int .u64 (l2 ru), .int .u64 (l3 ru)], .agg #[.int .u64 (l0 rt), .int .u64 (l1 rt), .int .u64 (l2 rt), .int .u64 (l3 rt)], .bool false, .bool false, .bool false, .pointer (some { block := bb, off := 0 }), .pointer (some { block := bb, off := 0 }), .agg #[.int .u64 (l0 x), .int .u64 (l1 x), .int .u64 (l2 x), .int .u64 (l3 x)], .agg #[.int .u64 (l0 y), .int .u64 (l1 y), .int .u64 (l2 y), .int .u64 (l3 y)], .agg #[.int .u64 (l0 rm), .int .u64 (l1 rm), .int .u64 (l2 rm), .int .u64 (l3 rm)], .agg #[.int .u64 (l0 z), .int .u64 (l1 z), .int .u64 (l2 z), .int .u64 (l3 z)], .agg #[.int .u64 (l0 rp), .int .u64 (l1 rp), .int .u64 (l2 rp), .int .u64 (l3 rp)], .pointer (some { block := bb, off := 0 }), .agg #[.int .u64 (l0 x), .int .u64 (l1 x), .int .u64 (l2 x), .int .u64 (l3 x)], .pointer (some { block := bb, off := 0 }), .agg #[.int .u64 (l0 y), .int .u64 (l1 y), .int .u64 (l2 y), .int .u64 (l3 y)], .agg #[.int .u64 (l0 z), .int .u64 (l1 z), .int .u64 (l2 z), .int .u64 (l3 z)], .agg #[.int .u64 (l0 rq), .int .u64 (l1 rq), .int .u64 (l2 rq), .int .u64 (l3 rq)], .agg #[.int .u64 (l0 rp), .int .u64 (l1 rp), .int .u64 (l2 rp), .int .u64 (l3 rp)], .bool false, .bool false, .pointer (some { block := bb, off := 0 }), .agg #[.int .u64 (l0 x), .int .u64 (l1 x), .int .u64 (l2 x), .int .u64 (l3 x)], .pointer (some { block := bb, off := 0 }), .agg #[.int .u64 (l0 y), .int .u64 (l1 y), .int .u64 (l2 y), .int .u64 (l3 y)], .agg #[.int .u64 (l0 z), .int .u64 (l1 z), .int .u64 (l2 z), .int .u64 (l3 z)], .agg #[.int .u64 (l0 ru), .int .u64 (l1 ru), .int .u64 (l2 ru), .int .u64 (l3 ru)], .agg #[.int .u64 (l0 rr), .int .u64 (l1 rr), .int .u64 (l2 rr), .int .u64 (l3 rr)], .pointer (some { block := bb, off := 0 }), .pointer (some { block := bb, off := 0 }), .agg #[.int .u64 (l0 x), .int .u64 (l1 x), .int .u64 (l2 x), .int .u64 (l3 x)], .agg #[.int .u64 (l0 y), .int .u64 (l1 y), .int .u64 (l2 y), .int .u64 (l3 y)], .agg #[.int .u64 (l0 rm), .int .u64 (l1 rm), .int .u64 (l2 rm), .int .u64 (l3 rm)], .pointer (some { block := bb, off := 0 }), .agg #[.int .u64 (l0 x), .int .u64 (l1 x), .int .u64 (l2 x), .int .u64 (l3 x)], .agg #[.int .u64 (l0 z), .int .u64 (l1 z), .int .u64 (l2 z), .int .u64 (l3 z)], .agg #[.int .u64 (l0 rv), .int .u64 (l1 rv), .int .u64 (l2 rv), .int .u64 (l3 rv)], .agg #[.int .u64 (l0 rr), .int .u64 (l1 rr), .int .u64 (l2 rr), .int .u64 (l3 rr)], .bool false, .bool false, .pointer (some { block := bb, off := 0 }), .agg #[.int .u64 (l0 x), .int .u64 (l1 x), .int .u64 (l2 x), .int .u64 (l3 x)], .agg #[.int .u64 0, .int .u64 0, .int .u64 0, .int .u64 0], .agg #[.int .u64 (l0 x), .int .u64 (l1 x), .int .u64 (l2 x), .int .u64 (l3 x)], .agg #[.int .u64 (l0 x), .int .u64 (l1 x), .int .u64 (l2 x), .int .u64 (l3 x)], .bool false, .bool false, .bool false, .pointer (some { block := bb, off := 0 }), .agg #[.int .u64 (l0 x), .int .u64 (l1 x), .int .u64 (l2 x), .int .u64 (l3 x)], .agg #[.int .u64 (l0 1), .int .u64 (l1 1), .int .u64 (l2 1), .int .u64 (l3 1)], .agg #[.int .u64 (l0 x), .int .u64 (l1 x), .int .u64 (l2 x), .int .u64 (l3 x)], .agg #[.int .u64 (l0 x), .int .u64 (l1 x), .int .u64 (l2 x), .int .u64 (l3 x)], .bool false, .bool false, .bool false, .pointer (some { block := bb, off := 0 }), .agg #[.int .u64 (l0 x), .int .u64 (l1 x), .int .u64 (l2 x), .int .u64 (l3 x)], .agg #[.int .u64 0, .int .u64 0, .int .u64 0, .int .u64 0], .agg #[.int .u64 0, .int .u64 0, .int .u64 0, .int .u64 0], .agg #[.int .u64 0, .int .u64 0, .int .u64 0, .int .u64 0], .bool false, .bool false, .tuple #[.agg #[.int .u64 (l0 rd), .int .u64 (l1 rd), .int .u64 (l2 rd), .int .u64 (l3 rd)], .int .i64 0], .pointer (some { block := bb, off := 0 }), .pointer (some { block := bb, off := 0 }), .pointer (some { block := bb, off := 0 }), .int .i64 k, .agg #[.int .u64 (l0 x), .int .u64 (l1 x), .int .u64 (l2 x), .int .u64 (l3 x)], .agg #[.int .u64 (l0 y), .int .u64 (l1 y), .int .u64 (l2 y), .int .u64 (l3 y)], .tuple #[.agg #[.int .u64 (l0 rd), .int .u64 (l1 rd), .int .u64 (l2 rd), .int .u64 (l3 rd)], .int .i64 0], .agg #[.int .u64 (l0 rd), .int .u64 (l1 rd), .int .u64 (l2 rd), .int .u64 (l3 rd)], .int .i64 0, .tuple #[.agg #[.int .u64 (l0 rn), .int .u64 (l1 rn), .int .u64 (l2 rn), .int .u64 (l3 rn)], .int .i64 0], .pointer (some { block := bb, off := 0 }), .pointer (some { block := bb, off := 0 }), .pointer (some { block := bb, off := 0 }), .int .i64 k, .agg #[.int .u64 (l0 y), .int .u64 (l1 y), .int .u64 (l2 y), .int .u64 (l3 y)], .tuple #[.agg #[.int .u64 (l0 rn), .int .u64 (l1 rn), .int .u64 (l2 rn), .int .u64 (l3 rn)], .int .i64 0], .agg #[.int .u64 (l0 rn), .int .u64 (l1 rn), .int .u64 (l2 rn), .int .u64 (l3 rn)], .int .i64 0, Go.undef, Go.undef, Go.undef, Go.undef, Go.undef, Go.undef, Go.undef, Go.undef, Go.undef, Go.undef, Go.undef, Go.undef, Go.undef, Go.undef, Go.undef, Go.undef, Go.undef, Go.undef, Go.undef, Go.undef, Go.undef, Go.undef, Go.undef, Go.undef, Go.undef, Go.undef, Go.undef, Go.undef, Go.undef, Go.undef, Go.undef, Go.undef, Go.undef, Go.undef, Go.undef, Go.undef, Go.undef, Go.undef, Go.undef, Go.undef, Go.undef, Go.undef, Go.undef, Go.undef, Go.undef, Go.undef, Go.undef, Go.undef, Go.undef, Go.undef, Go.undef, Go.undef, Go.undef, Go.undef, Go.undef, Go.undef, Go.undef, Go.undef, Go.undef, Go.undef, Go.undef, Go.undef, Go.undef, Go.undef, Go.undef, Go.undef, Go.undef, Go.undef, Go.undef, Go.undef, Go.undef, Go.undef, Go.undef, Go.undef], defers := [] }) ?_ ?_
  · have dz : W.drew.heap.size = W.heap.size := rfl
    have _ : bb < W.heap.size := by omega
    have _ : bb ≤ W.heap.size := by omega
    have _ : bb < W.heap.size + 1 := by omega
    have _ : bb < W.heap.size + 1 + 1 := by omega
    have _ : bb ≠ W.heap.size := by omega
    have _ : W.heap.size ≠ bb := by omega
    have _ : bb ≠ W.heap.size + 1 := by omega
    have _ : W.heap.size + 1 ≠ bb := by omega
    have _ : bm < W.heap.size := by omega
    have _ : bm ≤ W.heap.size := by omega
    have _ : bm < W.heap.size + 1 := by omega
    have _ : bm < W.heap.size + 1 + 1 := by omega
    have _ : bm ≠ W.heap.size := by omega
    have _ : W.heap.size ≠ bm := by omega
    have _ : bm ≠ W.heap.size + 1 := by omega
    have _ : W.heap.size + 1 ≠ bm := by omega
    have _ : bx1 < W.heap.size := by omega
    have _ : bx1 ≤ W.heap.size := by omega
    have _ : bx1 < W.heap.size + 1 := by omega
    have _ : bx1 < W.heap.size + 1 + 1 := by omega
    have _ : bx1 ≠ W.heap.size := by omega
    have _ : W.heap.size ≠ bx1 := by omega
    have _ : bx1 ≠ W.heap.size + 1 := by omega
    have _ : W.heap.size + 1 ≠ bx1 := by omega
    have _ : by1 < W.heap.size := by omega
    have _ : by1 ≤ W.heap.size := by omega
    have _ : by1 < W.heap.size + 1 := by omega
    have _ : by1 < W.heap.size + 1 + 1 := by omega
    have _ : by1 ≠ W.heap.size := by omega
    have _ : W.heap.size ≠ by1 := by omega
    have _ : by1 ≠ W.heap.size + 1 := by omega
    have _ : W.heap.size + 1 ≠ by1 := by omega
    have _ : bz1 < W.heap.size := by omega
    have _ : bz1 ≤ W.heap.size := by omega
    have _ : bz1 < W.heap.size + 1 := by omega
    have _ : bz1 < W.heap.size + 1 + 1 := by omega
    have _ : bz1 ≠ W.heap.size := by omega
    have _ : W.heap.size ≠ bz1 := by omega
    have _ : bz1 ≠ W.heap.size + 1 := by omega
    have _ : W.heap.size + 1 ≠ bz1 := by omega
    have _ : bo < W.heap.size := by omega
    have _ : bo ≤ W.heap.size := by omega
    have _ : bo < W.heap.size + 1 := by omega
    have _ : bo < W.heap.size + 1 + 1 := by omega
    have _ : bo ≠ W.heap.size := by omega
    have _ : W.heap.size ≠ bo := by omega
    have _ : bo ≠ W.heap.size + 1 := by omega
    have _ : W.heap.size + 1 ≠ bo := by omega
    have _ : be < W.heap.size := by omega
    have _ : be ≤ W.heap.size := by omega
    have _ : be < W.heap.size + 1 := by omega
    have _ : be < W.heap.size + 1 + 1 := by omega
    have _ : be ≠ W.heap.size := by omega
    have _ : W.heap.size ≠ be := by omega
    have _ : be ≠ W.heap.size + 1 := by omega
    have _ : W.heap.size + 1 ≠ be := by omega
    have _ : 0 < W.heap.size := by omega
    have _ : 0 ≤ W.heap.size := by omega
    have _ : 0 < W.heap.size + 1 := by omega
    have _ : 0 < W.heap.size + 1 + 1 := by omega
    have _ : 0 ≠ W.heap.size := by omega
    have _ : W.heap.size ≠ 0 := by omega
    have _ : 0 ≠ W.heap.size + 1 := by omega
    have _ : W.heap.size + 1 ≠ 0 := by omega
    go_region_held3 (fun w' => w'.cell? ⟨bb, 0, none⟩ = some (.int .i64 k) ∧ w'.cell? ⟨by1, 0, none⟩ = some (.int .u64 (l0 y)) ∧ w'.cell? ⟨by1, 1, none⟩ = some (.int .u64 (l1 y)) ∧ w'.cell? ⟨by1, 2, none⟩ = some (.int .u64 (l2 y)) ∧ w'.cell? ⟨by1, 3, none⟩ = some (.int .u64 (l3 y))) (((try dsimp only); (repeat' (apply And.intro)); (all_goals repeat (first | with_reducible assumption | with_reducible apply cell_keep hb1 | with_reducible apply cell_alloc | (with_reducible refine cell_set ?_ (by with_reducible assumption)) | (simp [go_sem, *]; done)))))
      (first
        | (go_at_call 26; with_reducible refine (D2.out _ (by repeat (first | with_reducible exact QhD.out | with_reducible refine Mds.alloc ?_ _ | with_reducible refine Mds.drew ?_))).mono ?_; rintro e w1 ⟨rfl, hb1⟩; have hc1 := oldCells hb1; have hz1 := hb1.size; (try simp at hz1); (try (have := fun j => oldCells hb1 (W.heap.size) j (by first | omega | (simp; done) | (simp; omega)))); (try (have := fun j => oldCells hb1 (W.heap.size + 1) j (by first | omega | (simp; done) | (simp; omega)))); have _ : bb < w1.heap.size := (by omega); have _ : bb ≤ w1.heap.size := (by omega); have _ : bb < w1.heap.size + 1 := (by omega); have _ : bb < w1.heap.size + 1 + 1 := (by omega); have _ : bb ≠ w1.heap.size := (by omega); have _ : w1.heap.size ≠ bb := (by omega); have _ : bb ≠ w1.heap.size + 1 := (by omega); have _ : w1.heap.size + 1 ≠ bb := (by omega); have _ : bm < w1.heap.size := (by omega); have _ : bm ≤ w1.heap.size := (by omega); have _ : bm < w1.heap.size + 1 := (by omega); have _ : bm < w1.heap.size + 1 + 1 := (by omega); have _ : bm ≠ w1.heap.size := (by omega); have _ : w1.heap.size ≠ bm := (by omega); have _ : bm ≠ w1.heap.size + 1 := (by omega); have _ : w1.heap.size + 1 ≠ bm := (by omega); have _ : bx1 < w1.heap.size := (by omega); have _ : bx1 ≤ w1.heap.size := (by omega); have _ : bx1 < w1.heap.size + 1 := (by omega); have _ : bx1 < w1.heap.size + 1 + 1 := (by omega); have _ : bx1 ≠ w1.heap.size := (by omega); have _ : w1.heap.size ≠ bx1 := (by omega); have _ : bx1 ≠ w1.heap.size + 1 := (by omega); have _ : w1.heap.size + 1 ≠ bx1 := (by omega); have _ : by1 < w1.heap.size := (by omega); have _ : by1 ≤ w1.heap.size := (by omega); have _ : by1 < w1.heap.size + 1 := (by omega); have _ : by1 < w1.heap.size + 1 + 1 := (by omega); have _ : by1 ≠ w1.heap.size := (by omega); have _ : w1.heap.size ≠ by1 := (by omega); have _ : by1 ≠ w1.heap.size + 1 := (by omega); have _ : w1.heap.size + 1 ≠ by1 := (by omega); have _ : bz1 < w1.heap.size := (by omega); have _ : bz1 ≤ w1.heap.size := (by omega); have _ : bz1 < w1.heap.size + 1 := (by omega); have _ : bz1 < w1.heap.size + 1 + 1 := (by omega); have _ : bz1 ≠ w1.heap.size := (by omega); have _ : w1.heap.size ≠ bz1 := (by omega); have _ : bz1 ≠ w1.heap.size + 1 := (by omega); have _ : w1.heap.size + 1 ≠ bz1 := (by omega); have _ : bo < w1.heap.size := (by omega); have _ : bo ≤ w1.heap.size := (by omega); have _ : bo < w1.heap.size + 1 := (by omega); have _ : bo < w1.heap.size + 1 + 1 := (by omega); have _ : bo ≠ w1.heap.size := (by omega); have _ : w1.heap.size ≠ bo := (by omega); have _ : bo ≠ w1.heap.size + 1 := (by omega); have _ : w1.heap.size + 1 ≠ bo := (by omega); have _ : be < w1.heap.size := (by omega); have _ : be ≤ w1.heap.size := (by omega); have _ : be < w1.heap.size + 1 := (by omega); have _ : be < w1.heap.size + 1 + 1 := (by omega); have _ : be ≠ w1.heap.size := (by omega); have _ : w1.heap.size ≠ be := (by omega); have _ : be ≠ w1.heap.size + 1 := (by omega); have _ : w1.heap.size + 1 ≠ be := (by omega); have _ : 0 < w1.heap.size := (by omega); have _ : 0 ≤ w1.heap.size := (by omega); have _ : 0 < w1.heap.size + 1 := (by omega); have _ : 0 < w1.heap.size + 1 + 1 := (by omega); have _ : 0 ≠ w1.heap.size := (by omega); have _ : w1.heap.size ≠ 0 := (by omega); have _ : 0 ≠ w1.heap.size + 1 := (by omega); have _ : w1.heap.size + 1 ≠ 0 := (by omega); (try (have _ : W.heap.size < w1.heap.size := (by omega))); (try (have _ : W.heap.size ≤ w1.heap.size := (by omega))); (try (have _ : W.heap.size ≠ w1.heap.size := (by omega))); (try (have _ : w1.heap.size ≠ W.heap.size := (by omega))); (try (have _ : W.heap.size < w1.heap.size + 1 := (by omega))); (try (have _ : W.heap.size + 1 < w1.heap.size := (by omega))); (try (have _ : W.heap.size + 1 ≤ w1.heap.size := (by omega))); (try (have _ : W.heap.size + 1 ≠ w1.heap.size := (by omega))); (try (have _ : w1.heap.size ≠ W.heap.size + 1 := (by omega))); (try (have _ : W.heap.size + 1 < w1.heap.size + 1 := (by omega)))))
    all_goals (refine OutQ.intro ⟨_, ?_, ?_, ?_, ?_, ?_, ?_, ?_, ?_, ?_, ?_, rfl⟩)
    all_goals repeat (first | with_reducible exact BB.out | with_reducible exact QhD.out | with_reducible exact QhS.out | with_reducible exact QhM.out | with_reducible exact QhX.out | with_reducible exact QhY.out | with_reducible exact QhZ.out | with_reducible exact QhO.out | with_reducible exact QhE.out | with_reducible refine Hold.fresh (by first | rfl | (simp; done) | fail) | with_reducible refine Hold.sets4 ?_ | with_reducible refine Var.new (by first | rfl | (simp; done) | fail) | with_reducible refine Hold.alloc ?_ _ | with_reducible refine Hold.drew ?_ | with_reducible refine Hold.set4 ?_ (by with_reducible assumption) _ _ _ _ | with_reducible refine HoldM.alloc ?_ _ | with_reducible refine HoldM.drew ?_ | with_reducible refine HoldM.set4 ?_ (by with_reducible assumption) _ _ _ _ | with_reducible refine Blank.alloc ?_ _ | with_reducible refine Blank.drew ?_ | with_reducible refine Blank.set4 ?_ (by with_reducible assumption) _ _ _ _ | with_reducible refine Smm.alloc ?_ _ | with_reducible refine Smm.drew ?_ | with_reducible refine Smm.set4 ?_ (by with_reducible assumption) _ _ _ _ | with_reducible refine Mds.alloc ?_ _ | with_reducible refine Mds.drew ?_ | with_reducible refine Mds.set4 ?_ (by with_reducible assumption) _ _ _ _ | with_reducible refine Var.alloc ?_ _ | with_reducible refine Var.set4 ?_ (by with_reducible assumption) _ _ _ _ | with_reducible refine below_alloc hbx ?_ _ | with_reducible refine Below.drew ?_ | with_reducible refine Below.setCell ?_ (by with_reducible assumption) _ | with_reducible refine Has.fresh (by first | rfl | (simp; done) | fail) (by first | (simp; done) | fail) | with_reducible refine Has.alloc ?_ _ | with_reducible refine Has.drew ?_ | with_reducible refine Has.keep ?_ hb1 | with_reducible refine Hold.keep ?_ hb1 | with_reducible refine HoldM.keep ?_ hb1 | with_reducible refine Blank.keep ?_ hb1 | with_reducible refine Smm.keep ?_ hb1 | with_reducible refine Mds.keep ?_ hb1 | with_reducible refine Var.keep ?_ hb1 | with_reducible refine below_then hbx ?_ hb1)
  rintro _ W ⟨bn, B, hD, hS, hM, hX, hY, hZ, hO, hE, hN, rfl⟩
  subst hbx
  clear BB geB QhD QhS QhM QhX QhY QhZ QhO QhE ghS ghY lthD lthS lthM lthX lthY lthZ lthO lthE
  go_wp2_with fail
  have lthD : 0 < W.heap.size := hD.lt
  have ghS := hS.1
  have lthS : bb < W.heap.size := hS.lt
  have lthM : bm < W.heap.size := World.block_lt_of_cell? W _ hM.1
  have ghX := hX.cells
  have lthX : bx1 < W.heap.size := World.block_lt_of_cell? W _ hX.1
  have lthY : by1 < W.heap.size := World.block_lt_of_cell? W _ hY.1
  have lthZ : bz1 < W.heap.size := World.block_lt_of_cell? W _ hZ.1
  have lthO : bo < W.heap.size := World.block_lt_of_cell? W _ hO.1
  have lthE : be < W.heap.size := World.block_lt_of_cell? W _ hE.1
  have lthN : bn < W.heap.size := World.block_lt_of_cell? W _ hN.1
  have BB : Hid (Below w.heap.size w W) := B
  have QhD : Hid (Mds W) := hD
  have QhS : Hid (Smm W bb k) := hS
  have QhM : Hid (Hold W bm m) := hM
  have QhX : Hid (Hold W bx1 x) := hX
  have QhY : Hid (Hold W by1 y) := hY
  have QhZ : Hid (Hold W bz1 z) := hZ
  have QhO : Hid (Hold W bo 1) := hO
  have QhE : Hid (Hold W be rd) := hE
  have QhN : Hid (Hold W bn rn) := hN
  have geB : w.heap.size ≤ W.heap.size := B.size
  clear B hD hS hM hX hY hZ hO hE hN
  generalize hbx : w.heap.size = bx at *
  refine wp_out (fun a' W' => ∃ bq, Below bx w W' ∧ Mds W' ∧ Smm W' bb k ∧ Hold W' bm m ∧ Hold W' bx1 x ∧ Hold W' by1 y ∧ Hold W' bz1 z ∧ Hold W' bo 1 ∧ Hold W' be rd ∧ Hold W' bn rn ∧ Hold W' bq rs ∧ a' = { tmps := #[.int .i64 v, .agg #[.int .u64 (l0 a), .int .u64 (l1 a), .int .u64 (l2 a), .int .u64 (l3 a), .int .u64 (l0 y), .int .u64 (l1 y), .int .u64 (l2 y), .int .u64 (l3 y), .int .u64 (l0 z), .int .u64 (l1 z), .int .u64 (l2 z), .int .u64 (l3 z)], Go.undef, .pointer (some { block := bx, off := 0 }), .bool false, .pointer (some { block := bb, off := 0 }), .pointer (some { block := bm, off := 0 }), .int .i64 0, .pointer (some { block := bx1, off := 0 }), .int .i64 0, .pointer (some { block := by1, off := 0 }), .pointer (some { block := bz1, off := 0 }), .pointer (some { block := bo, off := 0 }), .pointer (some { block := be, off := 0 }), .int .i64 0, .pointer (some { block := bn, off := 0 }), .int .i64 0, .pointer (some { block := bq, off := 0 }), .int .i64 0, .int .i64 v, .int .i64 k, .agg #[.int .i64 k, .bool false], .pointer (some { block := bb, off := 0 }), .tuple #[.agg #[.int .u64 (l0 m), .int .u64 (l1 m), .int .u64 (l2 m), .int .u64 (l3 m)], .int .i64 0], .pointer (some { block := bb, off := 0 }), .pointer (some { block := bb, off := 0 }), .pointer (some { block := bb, off := 0 }), .int .i64 k, .tuple #[.agg #[.int .u64 (l0 m), .int .u64 (l1 m), .int .u64 (l2 m), .int .u64 (l3 m)], .int .i64 0], .agg #[.int .u64 (l0 m), .int .u64 (l1 m), .int .u64 (l2 m), .int .u64 (l3 m)], .int .i64 0, .tuple #[.agg #[.int .u64 (l0 x), .int .u64 (l1 x), .int .u64 (l2 x), .int .u64 (l3 x)], .int .i64 0], .pointer (some { block := bb, off := 0 }), .pointer (some { block := bb, off := 0 }), .pointer (some { block := bb, off := 0 }), .int .i64 k, .agg #[.int .u64 0, .int .u64 0, .int .u64 0, .int .u64 0], .pointer (some { block := bx, off := 0 }), .agg #[.int .u64 (l0 a), .int .u64 (l1 a), .int .u64 (l2 a), .int .u64 (l3 a)], .tuple #[.agg #[.int .u64 (l0 x), .int .u64 (l1 x), .int .u64 (l2 x), .int .u64 (l3 x)], .int .i64 0], .agg #[.int .u64 (l0 x), .int .u64 (l1 x), .int .u64 (l2 x), .int .u64 (l3 x)], .int .i64 0, .pointer (some { block := bx, off := 4 }), .agg #[.int .u64 (l0 y), .int .u64 (l1 y), .int .u64 (l2 y), .int .u64 (l3 y)], .pointer (some { block := bx, off := 8 }), .agg #[.int .u64 (l0 z), .int .u64 (l1 z), .int .u64 (l2 z), .int .u64 (l3 z)], .agg #[.int .u64 (l0 1), .int .u64 (l1 1), .int .u64 (l2 1), .int .u64 (l3 1)], .int .i64 0, .bool false, .bool false, .int .i64 0, .bool false, .bool false, .bool false, .agg #[.int .u64 (l0 x), .int .u64 (l1 x), .int .u64 (l2 x), .int .u64 (l3 x)], .agg #[.int .u64 (l0 m), .int .u64 (l1 m), .int .u64 (l2 m), .int .u64 (l3 m)], .int .i64 (-1), .bool false, .bool false, .pointer (some { block := bb, off := 0 }), .agg #[.int .u64 (l0 x), .int .u64 (l1 x), .int .u64 (l2 x), .int .u64 (l3 x)], .agg #[.int .u64 (l0 y), .int .u64 (l1 y), .int .u64 (l2 y), .int .u64 (l3 y)], .agg #[.int .u64 (l0 ra), .int .u64 (l1 ra), .int .u64 (l2 ra), .int .u64 (l3 ra)], .pointer (some { block := bb, off := 0 }), .agg #[.int .u64 (l0 y), .int .u64 (l1 y), .int .u64 (l2 y), .int .u64 (l3 y)], .agg #[.int .u64 (l0 x), .int .u64 (l1 x), .int .u64 (l2 x), .int .u64 (l3 x)], .agg #[.int .u64 (l0 ra), .int .u64 (l1 ra), .int .u64 (l2 ra), .int .u64 (l3 ra)], .bool false, .bool false, .pointer (some { block := bb, off := 0 }), .agg #[.int .u64 (l0 x), .int .u64 (l1 x), .int .u64 (l2 x), .int .u64 (l3 x)], .agg #[.int .u64 (l0 y), .int .u64 (l1 y), .int .u64 (l2 y), .int .u64 (l3 y)], .agg #[.int .u64 (l0 rm), .int .u64 (l1 rm), .int .u64 (l2 rm), .int .u64 (l3 rm)], .pointer (some { block := bb, off := 0 }), .agg #[.int .u64 (l0 y), .int .u64 (l1 y), .int .u64 (l2 y), .int .u64 (l3 y)], .agg #[.int .u64 (l0 x), .int .u64 (l1 x), .int .u64 (l2 x), .int .u64 (l3 x)], .agg #[.int .u64 (l0 rm), .int .u64 (l1 rm), .int .u64 (l2 rm), .int .u64 (l3 rm)], .bool false, .bool false, .bool false, .pointer (some { block := bb, off := 0 }), .pointer (some { block := bb, off := 0 }), .agg #[.int .u64 (l0 x), .int .u64 (l1 x), .int .u64 (l2 x), .int .u64 (l3 x)], .agg #[.int .u64 (l0 y), .int .u64 (l1 y), .int .u64 (l2 y), .int .u64 (l3 y)], .agg #[.int .u64 (l0 ra), .int .u64 (l1 ra), .int .u64 (l2 ra), .int .u64 (l3 ra)], .agg #[.int .u64 (l0 z), .int .u64 (l1 z), .int .u64 (l2 z), .int .u64 (l3 z)], .agg #[.int .u64 (l0 rt), .int .u64 (l1 rt), .int .u64 (l2 rt), .int .u64 (l3 rt)], .pointer (some { block := bb, off := 0 }), .agg #[.int .u64 (l0 x), .int .u64 (l1 x), .int .u64 (l2 x), .int .u64 (l3 x)], .pointer (some { block := bb, off := 0 }), .agg #[.int .u64 (l0 y), .int .u64 (l1 y), .int .u64 (l2 y), .int .u64 (l3 y)], .agg #[.int .u64 (l0 z), .int .u64 (l1 z), .int .u64 (l2 z), .int .u64 (l3 z)], .agg #[.int .u64 (l0 ru), .int .u64 (l1 ru), .int .u64 (l2 ru), .int .u64 (l3 ru)], .agg #[.int .u64 (l0 rt), .int .u64 (l1 rt), .int .u64 (l2 rt), .int .u64 (l3 rt)], .bool false, .bool false, .bool false, .pointer (some { block := bb, off := 0 }), .pointer (some { block := bb, off := 0 }), .agg #[.int .u64 (l0 x), .int .u64 (l1 x), .int .u64 (l2 x), .int .u64 (l3 x)], .agg #[.int .u64 (l0 y), .int .u64 (l1 y), .int .u64 (l2 y), .int .u64 (l3 y)], .agg #[.int .u64 (l0 rm), .int .u64 (l1 rm), .int .u64 (l2 rm), .int .u64 (l3 rm)], .agg #[.int .u64 (l0 z), .int .u64 (l1 z), .int .u64 (l2 z), .int .u64 (l3 z)], .agg #[.int .u64 (l0 rp), .int .u64 (l1 rp), .int .u64 (l2 rp), .int .u64 (l3 rp)], .pointer (some { block := bb, off := 0 }), .agg #[.int .u64 (l0 x), .int .u64 (l1 x), .int .u64 (l2 x), .int .u64 (l3 x)], .pointer (some { block := bb, off := 0 }), .agg #[.int .u64 (l0 y), .int .u64 (l1 y), .int .u64 (l2 y), .int .u64 (l3 y)], .agg #[.int .u64 (l0 z), .int .u64 (l1 z), .int .u64 (l2 z), .int .u64 (l3 z)], .agg #[.int .u64 (l0 rq), .int .u64 (l1 rq), .int .u64 (l2 rq), .int .u64 (l3 rq)], .agg #[.int .u64 (l0 rp), .int .u64 (l1 rp), .int .u64 (l2 rp), .int .u64 (l3 rp)], .bool false, .bool false, .pointer (some { block := bb, off := 0 }), .agg #[.int .u64 (l0 x), .int .u64 (l1 x), .int .u64 (l2 x), .int .u64 (l3 x)], .pointer (some { block := bb, off := 0 }), .agg #[.int .u64 (l0 y), .int .u64 (l1 y), .int .u64 (l2 y), .int .u64 (l3 y)], .agg #[.int .u64 (l0 z), .int .u64 (l1 z), .int .u64 (l2 z), .int .u64 (l3 z)], .agg #[.int .u64 (l0 ru), .int .u64 (l1 ru), .int .u64 (l2 ru), .int .u64 (l3 ru)], .agg #[.int .u64 (l0 rr), .int .u64 (l1 rr), .int .u64 (l2 rr), .int .u64 (l3 rr)], .pointer (some { block := bb, off := 0 }), .pointer (some { block := bb, off := 0 }), .agg #[.int .u64 (l0 x), .int .u64 (l1 x), .int .u64 (l2 x), .int .u64 (l3 x)], .agg #[.int .u64 (l0 y), .int .u64 (l1 y), .int .u64 (l2 y), .int .u64 (l3 y)], .agg #[.int .u64 (l0 rm), .int .u64 (l1 rm), .int .u64 (l2 rm), .int .u64 (l3 rm)], .pointer (some { block := bb, off := 0 }), .agg #[.int .u64 (l0 x), .int .u64 (l1 x), .int .u64 (l2 x), .int .u64 (l3 x)], .agg #[.int .u64 (l0 z), .int .u64 (l1 z), .int .u64 (l2 z), .int .u64 (l3 z)], .agg #[.int .u64 (l0 rv), .int .u64 (l1 rv), .int .u64 (l2 rv), .int .u64 (l3 rv)], .agg #[.int .u64 (l0 rr), .int .u64 (l1 rr), .int .u64 (l2 rr), .int .u64 (l3 rr)], .bool false, .bool false, .pointer (some { block := bb, off := 0 }), .agg #[.int .u64 (l0 x), .int .u64 (l1 x), .int .u64 (l2 x), .int .u64 (l3 x)], .agg #[.int .u64 0, .int .u64 0, .int .u64 0, .int .u64 0], .agg #[.int .u64 (l0 x), .int .u64 (l1 x), .int .u64 (l2 x), .int .u64 (l3 x)], .agg #[.int .u64 (l0 x), .int .u64 (l1 x), .int .u64 (l2 x), .int .u64 (l3 x)], .bool false, .bool false, .bool false, .pointer (some { block := bb, off := 0 }), .agg #[.int .u64 (l0 x), .int .u64 (l1 x), .int .u64 (l2 x), .int .u64 (l3 x)], .agg #[.int .u64 (l0 1), .int .u64 (l1 1), .int .u64 (l2 1), .int .u64 (l3 1)], .agg #[.int .u64 (l0 x), .int .u64 (l1 x), .int .u64 (l2 x), .int .u64 (l3 x)], .agg #[.int .u64 (l0 x), .int .u64 (l1 x), .int .u64 (l2 x), .int .u64 (l3 x)], .bool false, .bool false, .bool false, .pointer (some { block := bb, off := 0 }), .agg #[.int .u64 (l0 x), .int .u64 (l1 x), .int .u64 (l2 x), .int .u64 (l3 x)], .agg #[.int .u64 0, .int .u64 0, .int .u64 0, .int .u64 0], .agg #[.int .u64 0, .int .u64 0, .int .u64 0, .int .u64 0], .agg #[.int .u64 0, .int .u64 0, .int .u64 0, .int .u64 0], .bool false, .bool false, .tuple #[.agg #[.int .u64 (l0 rd), .int .u64 (l1 rd), .int .u64 (l2 rd), .int .u64 (l3 rd)], .int .i64 0], .pointer (some { block := bb, off := 0 }), .pointer (some { block := bb, off := 0 }), .pointer (some { block := bb, off := 0 }), .int .i64 k, .agg #[.int .u64 (l0 x), .int .u64 (l1 x), .int .u64 (l2 x), .int .u64 (l3 x)], .agg #[.int .u64 (l0 y), .int .u64 (l1 y), .int .u64 (l2 y), .int .u64 (l3 y)], .tuple #[.agg #[.int .u64 (l0 rd), .int .u64 (l1 rd), .int .u64 (l2 rd), .int .u64 (l3 rd)], .int .i64 0], .agg #[.int .u64 (l0 rd), .int .u64 (l1 rd), .int .u64 (l2 rd), .int .u64 (l3 rd)], .int .i64 0, .tuple #[.agg #[.int .u64 (l0 rn), .int .u64 (l1 rn), .int .u64 (l2 rn), .int .u64 (l3 rn)], .int .i64 0], .pointer (some { block := bb, off := 0 }), .pointer (some { block := bb, off := 0 }), .pointer (some { block := bb, off := 0 }), .int .i64 k, .agg #[.int .u64 (l0 y), .int .u64 (l1 y), .int .u64 (l2 y), .int .u64 (l3 y)], .tuple #[.agg #[.int .u64 (l0 rn), .int .u64 (l1 rn), .int .u64 (l2 rn), .int .u64 (l3 rn)], .int .i64 0], .agg #[.int .u64 (l0 rn), .int .u64 (l1 rn), .int .u64 (l2 rn), .int .u64 (l3 rn)], .int .i64 0, .tuple #[.agg #[.int .u64 (l0 rs), .int .u64 (l1 rs), .int .u64 (l2 rs), .int .u64 (l3 rs)], .int .i64 0], .pointer (some { block := bb, off := 0 }), .pointer (some { block := bb, off := 0 }), .pointer (some { block := bb, off := 0 }), .int .i64 k, .agg #[.int .u64 (l0 x), .int .u64 (l1 x), .int .u64 (l2 x), .int .u64 (l3 x)], .tuple #[.agg #[.int .u64 (l0 rs), .int .u64 (l1 rs), .int .u64 (l2 rs), .int .u64 (l3 rs)], .int .i64 0], .agg #[.int .u64 (l0 rs), .int .u64 (l1 rs), .int .u64 (l2 rs), .int .u64 (l3 rs)], .int .i64 0, Go.undef, Go.undef, Go.undef, Go.undef, Go.undef, Go.undef, Go.undef, Go.undef, Go.undef, Go.undef, Go.undef, Go.undef, Go.undef, Go.undef, Go.undef, Go.undef, Go.undef, Go.undef, Go.undef, Go.undef, Go.undef, Go.undef, Go.undef, Go.undef, Go.undef, Go.undef, Go.undef, Go.undef, Go.undef, Go.undef, Go.undef, Go.undef, Go.undef, Go.undef, Go.undef, Go.undef, Go.undef, Go.undef, Go.undef, Go.undef, Go.undef, Go.undef, Go.undef, Go.undef, Go.undef, Go.undef, Go.undef, Go.undef, Go.undef, Go.undef, Go.undef, Go.undef, Go.undef, Go.undef, Go.undef, Go.undef, Go.undef, Go.undef, Go.undef, Go.undef, Go.undef, Go.undef, Go.undef, Go.undef, Go.undef], defers := [] }) ?_ ?_
  · have dz : W.drew.heap.size = W.heap.size := rfl
    have _ : bb < W.heap.size := by omega
    have _ : bb ≤ W.heap.size := by omega
    have _ : bb < W.heap.size + 1 := by omega
    have _ : bb < W.heap.size + 1 + 1 := by omega
    have _ : bb ≠ W.heap.size := by omega
    have _ : W.heap.size ≠ bb := by omega
    have _ : bb ≠ W.heap.size + 1 := by omega
    have _ : W.heap.size + 1 ≠ bb := by omega
    have _ : bm < W.heap.size := by omega
    have _ : bm ≤ W.heap.size := by omega
    have _ : bm < W.heap.size + 1 := by omega
    have _ : bm < W.heap.size + 1 + 1 := by omega
    have _ : bm ≠ W.heap.size := by omega
    have _ : W.heap.size ≠ bm := by omega
    have _ : bm ≠ W.heap.size + 1 := by omega
    have _ : W.heap.size + 1 ≠ bm := by omega
    have _ : bx1 < W.heap.size := by omega
    have _ : bx1 ≤ W.heap.size := by omega
    have _ : bx1 < W.heap.size + 1 := by omega
    have _ : bx1 < W.heap.size + 1 + 1 := by omega
    have _ : bx1 ≠ W.heap.size := by omega
    have _ : W.heap.size ≠ bx1 := by omega
    have _ : bx1 ≠ W.heap.size + 1 := by omega
    have _ : W.heap.size + 1 ≠ bx1 := by omega
    have _ : by1 < W.heap.size := by omega
    have _ : by1 ≤ W.heap.size := by omega
    have _ : by1 < W.heap.size + 1 := by omega
    have _ : by1 < W.heap.size + 1 + 1 := by omega
    have _ : by1 ≠ W.heap.size := by omega
    have _ : W.heap.size ≠ by1 := by omega
    have _ : by1 ≠ W.heap.size + 1 := by omega
    have _ : W.heap.size + 1 ≠ by1 := by omega
    have _ : bz1 < W.heap.size := by omega
    have _ : bz1 ≤ W.heap.size := by omega
    have _ : bz1 < W.heap.size + 1 := by omega
    have _ : bz1 < W.heap.size + 1 + 1 := by omega
    have _ : bz1 ≠ W.heap.size := by omega
    have _ : W.heap.size ≠ bz1 := by omega
    have _ : bz1 ≠ W.heap.size + 1 := by omega
    have _ : W.heap.size + 1 ≠ bz1 := by omega
    have _ : bo < W.heap.size := by omega
    have _ : bo ≤ W.heap.size := by omega
    have _ : bo < W.heap.size + 1 := by omega
    have _ : bo < W.heap.size + 1 + 1 := by omega
    have _ : bo ≠ W.heap.size := by omega
    have _ : W.heap.size ≠ bo := by omega
    have _ : bo ≠ W.heap.size + 1 := by omega
    have _ : W.heap.size + 1 ≠ bo := by omega
    have _ : be < W.heap.size := by omega
    have _ : be ≤ W.heap.size := by omega
    have _ : be < W.heap.size + 1 := by omega
    have _ : be < W.heap.size + 1 + 1 := by omega
    have _ : be ≠ W.heap.size := by omega
    have _ : W.heap.size ≠ be := by omega
    have _ : be ≠ W.heap.size + 1 := by omega
    have _ : W.heap.size + 1 ≠ be := by omega
    have _ : bn < W.heap.size := by omega
    have _ : bn ≤ W.heap.size := by omega
    have _ : bn < W.heap.size + 1 := by omega
    have _ : bn < W.heap.size + 1 + 1 := by omega
    have _ : bn ≠ W.heap.size := by omega
    have _ : W.heap.size ≠ bn := by omega
    have _ : bn ≠ W.heap.size + 1 := by omega
    have _ : W.heap.size + 1 ≠ bn := by omega
    have _ : 0 < W.heap.size := by omega
    have _ : 0 ≤ W.heap.size := by omega
    have _ : 0 < W.heap.size + 1 := by omega
    have _ : 0 < W.heap.size + 1 + 1 := by omega
    have _ : 0 ≠ W.heap.size := by omega
    have _ : W.heap.size ≠ 0 := by omega
    have _ : 0 ≠ W.heap.size + 1 := by omega
    have _ : W.heap.size + 1 ≠ 0 := by omega
    go_region_held3 (fun w' => w'.cell? ⟨bb, 0, none⟩ = some (.int .i64 k) ∧ w'.cell? ⟨bx1, 0, none⟩ = some (.int .u64 (l0 x)) ∧ w'.cell? ⟨bx1, 1, none⟩ = some (.int .u64 (l1 x)) ∧ w'.cell? ⟨bx1, 2, none⟩ = some (.int .u64 (l2 x)) ∧ w'.cell? ⟨bx1, 3, none⟩ = some (.int .u64 (l3 x))) (((try dsimp only); (repeat' (apply And.intro)); (all_goals repeat (first | with_reducible assumption | with_reducible apply cell_keep hb1 | with_reducible apply cell_alloc | (with_reducible refine cell_set ?_ (by with_reducible assumption)) | (simp [go_sem, *]; done)))))
      (first
        | (go_at_call 27; with_reducible refine (D3.out _ (by repeat (first | with_reducible exact QhD.out | with_reducible refine Mds.alloc ?_ _ | with_reducible refine Mds.drew ?_))).mono ?_; rintro e w1 ⟨rfl, hb1⟩; have hc1 := oldCells hb1; have hz1 := hb1.size; (try simp at hz1); (try (have := fun j => oldCells hb1 (W.heap.size) j (by first | omega | (simp; done) | (simp; omega)))); (try (have := fun j => oldCells hb1 (W.heap.size + 1) j (by first | omega | (simp; done) | (simp; omega)))); have _ : bb < w1.heap.size := (by omega); have _ : bb ≤ w1.heap.size := (by omega); have _ : bb < w1.heap.size + 1 := (by omega); have _ : bb < w1.heap.size + 1 + 1 := (by omega); have _ : bb ≠ w1.heap.size := (by omega); have _ : w1.heap.size ≠ bb := (by omega); have _ : bb ≠ w1.heap.size + 1 := (by omega); have _ : w1.heap.size + 1 ≠ bb := (by omega); have _ : bm < w1.heap.size := (by omega); have _ : bm ≤ w1.heap.size := (by omega); have _ : bm < w1.heap.size + 1 := (by omega); have _ : bm < w1.heap.size + 1 + 1 := (by omega); have _ : bm ≠ w1.heap.size := (by omega); have _ : w1.heap.size ≠ bm := (by omega); have _ : bm ≠ w1.heap.size + 1 := (by omega); have _ : w1.heap.size + 1 ≠ bm := (by omega); have _ : bx1 < w1.heap.size := (by omega); have _ : bx1 ≤ w1.heap.size := (by omega); have _ : bx1 < w1.heap.size + 1 := (by omega); have _ : bx1 < w1.heap.size + 1 + 1 := (by omega); have _ : bx1 ≠ w1.heap.size := (by omega); have _ : w1.heap.size ≠ bx1 := (by omega); have _ : bx1 ≠ w1.heap.size + 1 := (by omega); have _ : w1.heap.size + 1 ≠ bx1 := (by omega); have _ : by1 < w1.heap.size := (by omega); have _ : by1 ≤ w1.heap.size := (by omega); have _ : by1 < w1.heap.size + 1 := (by omega); have _ : by1 < w1.heap.size + 1 + 1 := (by omega); have _ : by1 ≠ w1.heap.size := (by omega); have _ : w1.heap.size ≠ by1 := (by omega); have _ : by1 ≠ w1.heap.size + 1 := (by omega); have _ : w1.heap.size + 1 ≠ by1 := (by omega); have _ : bz1 < w1.heap.size := (by omega); have _ : bz1 ≤ w1.heap.size := (by omega); have _ : bz1 < w1.heap.size + 1 := (by omega); have _ : bz1 < w1.heap.size + 1 + 1 := (by omega); have _ : bz1 ≠ w1.heap.size := (by omega); have _ : w1.heap.size ≠ bz1 := (by omega); have _ : bz1 ≠ w1.heap.size + 1 := (by omega); have _ : w1.heap.size + 1 ≠ bz1 := (by omega); have _ : bo < w1.heap.size := (by omega); have _ : bo ≤ w1.heap.size := (by omega); have _ : bo < w1.heap.size + 1 := (by omega); have _ : bo < w1.heap.size + 1 + 1 := (by omega); have _ : bo ≠ w1.heap.size := (by omega); have _ : w1.heap.size ≠ bo := (by omega); have _ : bo ≠ w1.heap.size + 1 := (by omega); have _ : w1.heap.size + 1 ≠ bo := (by omega); have _ : be < w1.heap.size := (by omega); have _ : be ≤ w1.heap.size := (by omega); have _ : be < w1.heap.size + 1 := (by omega); have _ : be < w1.heap.size + 1 + 1 := (by omega); have _ : be ≠ w1.heap.size := (by omega); have _ : w1.heap.size ≠ be := (by omega); have _ : be ≠ w1.heap.size + 1 := (by omega); have _ : w1.heap.size + 1 ≠ be := (by omega); have _ : bn < w1.heap.size := (by omega); have _ : bn ≤ w1.heap.size := (by omega); have _ : bn < w1.heap.size + 1 := (by omega); have _ : bn < w1.heap.size + 1 + 1 := (by omega); have _ : bn ≠ w1.heap.size := (by omega); have _ : w1.heap.size ≠ bn := (by omega); have _ : bn ≠ w1.heap.size + 1 := (by omega); have _ : w1.heap.size + 1 ≠ bn := (by omega); have _ : 0 < w1.heap.size := (by omega); have _ : 0 ≤ w1.heap.size := (by omega); have _ : 0 < w1.heap.size + 1 := (by omega); have _ : 0 < w1.heap.size + 1 + 1 := (by omega); have _ : 0 ≠ w1.heap.size := (by omega); have _ : w1.heap.size ≠ 0 := (by omega); have _ : 0 ≠ w1.heap.size + 1 := (by omega); have _ : w1.heap.size + 1 ≠ 0 := (by omega); (try (have _ : W.heap.size < w1.heap.size := (by omega))); (try (have _ : W.heap.size ≤ w1.heap.size := (by omega))); (try (have _ : W.heap.size ≠ w1.heap.size := (by omega))); (try (have _ : w1.heap.size ≠ W.heap.size := (by omega))); (try (have _ : W.heap.size < w1.heap.size + 1 := (by omega))); (try (have _ : W.heap.size + 1 < w1.heap.size := (by omega))); (try (have _ : W.heap.size + 1 ≤ w1.heap.size := (by omega))); (try (have _ : W.heap.size + 1 ≠ w1.heap.size := (by omega))); (try (have _ : w1.heap.size ≠ W.heap.size + 1 := (by omega))); (try (have _ : W.heap.size + 1 < w1.heap.size + 1 := (by omega)))))
    all_goals (refine OutQ.intro ⟨_, ?_, ?_, ?_, ?_, ?_, ?_, ?_, ?_, ?_, ?_, ?_, rfl⟩)
    all_goals repeat (first | with_reducible exact BB.out | with_reducible exact QhD.out | with_reducible exact QhS.out | with_reducible exact QhM.out | with_reducible exact QhX.out | with_reducible exact QhY.out | with_reducible exact QhZ.out | with_reducible exact QhO.out | with_reducible exact QhE.out | with_reducible exact QhN.out | with_reducible refine Hold.fresh (by first | rfl | (simp; done) | fail) | with_reducible refine Hold.sets4 ?_ | with_reducible refine Var.new (by first | rfl | (simp; done) | fail) | with_reducible refine Hold.alloc ?_ _ | with_reducible refine Hold.drew ?_ | with_reducible refine Hold.set4 ?_ (by with_reducible assumption) _ _ _ _ | with_reducible refine HoldM.alloc ?_ _ | with_reducible refine HoldM.drew ?_ | with_reducible refine HoldM.set4 ?_ (by with_reducible assumption) _ _ _ _ | with_reducible refine Blank.alloc ?_ _ | with_reducible refine Blank.drew ?_ | with_reducible refine Blank.set4 ?_ (by with_reducible assumption) _ _ _ _ | with_reducible refine Smm.alloc ?_ _ | with_reducible refine Smm.drew ?_ | with_reducible refine Smm.set4 ?_ (by with_reducible assumption) _ _ _ _ | with_reducible refine Mds.alloc ?_ _ | with_reducible refine Mds.drew ?_ | with_reducible refine Mds.set4 ?_ (by with_reducible assumption) _ _ _ _ | with_reducible refine Var.alloc ?_ _ | with_reducible refine Var.set4 ?_ (by with_reducible assumption) _ _ _ _ | with_reducible refine below_alloc hbx ?_ _ | with_reducible refine Below.drew ?_ | with_reducible refine Below.setCell ?_ (by with_reducible assumption) _ | with_reducible refine Has.fresh (by first | rfl | (simp; done) | fail) (by first | (simp; done) | fail) | with_reducible refine Has.alloc ?_ _ | with_reducible refine Has.drew ?_ | with_reducible refine Has.keep ?_ hb1 | with_reducible refine Hold.keep ?_ hb1 | with_reducible refine HoldM.keep ?_ hb1 | with_reducible refine Blank.keep ?_ hb1 | with_reducible refine Smm.keep ?_ hb1 | with_reducible refine Mds.keep ?_ hb1 | with_reducible refine Var.keep ?_ hb1 | with_reducible refine below_then hbx ?_ hb1)
  rintro _ W ⟨bq, B, hD, hS, hM, hX, hY, hZ, hO, hE, hN, hQ, rfl⟩
  subst hbx
  clear BB geB QhD QhS QhM QhX QhY QhZ QhO QhE QhN ghS ghX lthD lthS lthM lthX lthY lthZ lthO lthE lthN
  go_wp2_with fail
  have ghX := hX.grown
  have ghY := hY.grown
  have ghE := hE.grown
  have ghN := hN.grown
  have ghQ := hQ.grown
  have hDg : ∀ d os, Mds (grow (redrawn W d) os) := fun d os => hD.keep (below_regrown W d os)
  have hSg := fun d os => hS.keep (below_regrown W d os)
  refine wp_region_quiet_below (by kernel_rfl) (by kernel_rfl) ?_
  repeat
    first
      | go_big_quiet_skip
      | (go_big_quiet_want; go_big_quiet_op; go_big_quiet_on)
      | (go_big_quiet_want
         go_big_quiet_op
         apply Exists.intro
         refine ⟨fun p => ?_, ?_⟩
         · (first | (go_at_call 23; with_reducible exact Calls.regrown_of (A8.out _ _ (hDg p.d p.os) (hSg p.d p.os))) | (go_at_call 23; with_reducible exact Calls.regrown_of (A9.out _ _ (hDg p.d p.os) (hSg p.d p.os))) | (go_at_call 24; with_reducible exact Calls.regrown_of (M0.out _ _ (hDg p.d p.os) (hSg p.d p.os))))
         go_big_quiet_on)
  refine wpQuiet_nil ?_
  rintro w7 ⟨p, rfl⟩
  have hb := below_regrown W p.d p.os
  generalize grow (redrawn W p.d) p.os = w7 at *
  replace B := B.trans (hb.mono B.size)
  replace hD := hD.keep hb; replace hS := hS.keep hb; replace hM := hM.keep hb; replace hX := hX.keep hb; replace hY := hY.keep hb; replace hZ := hZ.keep hb; replace hO := hO.keep hb; replace hE := hE.keep hb; replace hN := hN.keep hb; replace hQ := hQ.keep hb
  clear hb W ghX ghY ghE ghN ghQ hDg hSg
  clear hQ
  go_wp2_with fail
  refine wp_world (fun W => Below w.heap.size w W ∧ Mds W ∧ Smm W bb k ∧ Hold W bm m ∧ Hold W bx1 x ∧ Hold W by1 y ∧ Hold W bz1 z ∧ Hold W bo 1 ∧ Hold W be rd ∧ Hold W bn rn) ⟨B, hD, hS, hM, hX, hY, hZ, hO, hE, hN⟩ ?_
  clear B hD hS hM hX hY hZ hO hE hN
  rintro W ⟨B, hD, hS, hM, hX, hY, hZ, hO, hE, hN⟩
  clear w7
  have ghY := hY.grown
  have ghZ := hZ.grown
  have ghM := hM.grown
  have ghE := hE.grown
  have ghN := hN.grown
  have ghO := hO.grown
  have ghS := hS.grown
  have hDg : ∀ d os, Mds (grow (redrawn W d) os) := fun d os => hD.keep (below_regrown W d os)
  have hSg := fun d os => hS.keep (below_regrown W d os)
  refine wp_region_quiet_below (by kernel_rfl) (by kernel_rfl) ?_
  repeat
    first
      | go_big_quiet_skip
      | (go_big_quiet_want; go_big_quiet_op; go_big_quiet_on)
      | (go_big_quiet_want
         go_big_quiet_op
         apply Exists.intro
         refine ⟨fun p => ?_, ?_⟩
         · (first | (go_at_call 22; with_reducible exact Calls.regrown_of (C2.out _)) | (go_at_call 22; with_reducible exact Calls.regrown_of (C3.out _)) | (go_at_call 22; with_reducible exact Calls.regrown_of (C4.out _)) | (go_at_call 24; with_reducible exact Calls.regrown_of (M4.out _ _ (hDg p.d p.os) (hSg p.d p.os))))
         go_big_quiet_on)
  refine wpQuiet_nil ?_
  rintro w8 ⟨p, rfl⟩
  have hb := below_regrown W p.d p.os
  generalize grow (redrawn W p.d) p.os = w8 at *
  replace B := B.trans (hb.mono B.size)
  replace hD := hD.keep hb; replace hS := hS.keep hb; replace hM := hM.keep hb; replace hX := hX.keep hb; replace hY := hY.keep hb; replace hZ := hZ.keep hb; replace hO := hO.keep hb; replace hE := hE.keep hb; replace hN := hN.keep hb
  clear hb W ghY ghZ ghM ghE ghN ghO ghS hDg hSg
  clear hD hS hM hX hY hZ hO hE hN
  go_wp2
  simp [bodyPost, results, Tryd.results5, go_sem]
  exact B
end Go.Proofs.YtfpiopjlcjckeaaDoor
