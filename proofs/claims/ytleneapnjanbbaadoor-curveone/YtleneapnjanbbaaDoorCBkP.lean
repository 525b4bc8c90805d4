import Derived.Test.YtleneapnjanbbaaDoorCSumK
import Derived.Test.YtleneapnjanbbaaDoorCBlend
import Derived.Test.YtleneapnjanbbaaDoorQAlloc
import Derived.Test.YtleneapnjanbbaaDoorGet
import Derived.Test.YtleneapnjanbbaaDoorCAdd
namespace Go.Proofs.YtleneapnjanbbaaDoor
open Go.RowKit Go.Sort

/-- 32 bytes from a cell on. -/
def Cb (W : World) (b ob : Nat) (A : List Int) : Prop := A.length = 32 ∧ ∀ i, i < 32 → W.cell? ⟨b, ob + i, none⟩ = some (.int .u8 (A.getD i 0))
theorem Cb.keep {W w1 : World} {b ob : Nat} {A : List Int} (h : Cb W b ob A) (hb : Below W.heap.size W w1) : Cb w1 b ob A := ⟨h.1, fun i hi => cell_keep hb (h.2 i hi)⟩
theorem Cb.alloc {W : World} {b ob : Nat} {A : List Int} (h : Cb W b ob A) (o : Obj) : Cb (W.alloc o) b ob A := h.keep ((Below.refl _ _).alloc (Nat.le_refl _) o)
/-- The first byte. -/
def Fb (W : World) (b : Nat) (f : Int) : Prop := W.cell? ⟨b, 0, none⟩ = some (.int .u8 f)
theorem Fb.keep {W w1 : World} {b : Nat} {f : Int} (h : Fb W b f) (hb : Below W.heap.size W w1) : Fb w1 b f := cell_keep hb h
theorem Fb.alloc {W : World} {b : Nat} {f : Int} (h : Fb W b f) (o : Obj) : Fb (W.alloc o) b f := h.keep ((Below.refl _ _).alloc (Nat.le_refl _) o)
theorem Nm.newb {W : World} {b : Nat} {t : TypeId} {n : Int} (e : b = W.heap.size) : Nm (W.alloc (.cells #[.int .u64 (l0 n), .int .u64 (l1 n), .int .u64 (l2 n), .int .u64 (l3 n)] t)) b n := Cl.new _ e rfl

set_option maxRecDepth 100000 in
set_option maxHeartbeats 4000000 in
theorem coord_walk {A : List Int} {g ob cap : Nat} {x : Int} (GT : Hid (∀ w, Cb w g ob A → Calls Tryd.prog 37 #[.slice (some ⟨g, ob, none⟩) 32 cap] w fun e w' => e = .returned (.tuple #[.agg #[.int .u64 (l0 x), .int .u64 (l1 x), .int .u64 (l2 x), .int .u64 (l3 x)], .int .i64 0]) ∧ Below w.heap.size w w')) (IB : Hid (∀ w, Mds w → Calls Tryd.prog 20 #[.agg #[.int .u64 (l0 x), .int .u64 (l1 x), .int .u64 (l2 x), .int .u64 (l3 x)]] w fun e w' => e = .returned (.bool true) ∧ Below w.heap.size w w')) (w : World) (hm : Mds w) (h : Cb w g ob A) :
    Calls Tryd.prog 26 #[.slice (some ⟨g, ob, none⟩) 32 cap] w fun e w' => e = .returned (.tuple #[.agg #[.int .u64 (l0 x), .int .u64 (l1 x), .int .u64 (l2 x), .int .u64 (l3 x)], .int .i64 0]) ∧ Below w.heap.size w w' := by
  go_enter Tryd.func26, Tryd.ntmps26
  go_wp2_with fail
  refine calls_world (fun W => Below w.heap.size w W ∧ Mds W ∧ Blank W w.heap.size ∧ Cb W g ob A) ⟨by repeat (first | with_reducible exact Below.refl _ _ | with_reducible refine Below.alloc ?_ (by first | omega | (simp; done) | (simp; omega)) _), hm.alloc _, Blank.new rfl, h.alloc _⟩ ?_
  rintro W ⟨B, hD, hR, hC⟩
  have o3 : w.heap.size ≤ w.heap.size := Nat.le_refl _
  with_reducible refine (GT.out _ hC).mono ?_
  rintro e w1 ⟨rfl, hb⟩
  replace B := B.trans (hb.mono B.size)
  replace hD := hD.keep hb; replace hR := hR.keep hb; replace hC := hC.keep hb
  clear hb W
  go_wp2_with fail
  refine calls_world (fun W => Below w.heap.size w W ∧ Mds W ∧ Blank W w.heap.size ∧ Cb W g ob A ∧ Nm W w1.heap.size x) ⟨B.alloc B.size _, hD.alloc _, hR.alloc _, hC.alloc _, Nm.newb rfl⟩ ?_
  clear B hD hR hC 
  rintro W ⟨B, hD, hR, hC, hX⟩
  generalize w1.heap.size = bx at *
  with_reducible refine (IB.out _ hD).mono ?_
  rintro e w9 ⟨rfl, hb⟩
  replace B := B.trans (hb.mono B.size)
  replace hD := hD.keep hb; replace hR := hR.keep hb; replace hC := hC.keep hb; replace hX := hX.keep hb
  clear hb W hD hC
  have gX := hX.cells; have gR := hR.1.all4; have fR := hR.2.all4
  have BB : Hid (Below w.heap.size w w9) := B
  clear B
  go_wp2
  simp [bodyPost, results, Tryd.results26, go_sem, *]
  repeat (first | with_reducible exact BB.out | with_reducible refine Below.setCell ?_ o3 _)

set_option maxRecDepth 100000 in
set_option maxHeartbeats 4000000 in
theorem plong_walk {A C : List Int} {g cap : Nat} {x y : Int} (hc : 65 ≤ cap) (CO : Hid (∀ w, Mds w → Cb w g 1 A → Calls Tryd.prog 26 #[.slice (some ⟨g, 1, none⟩) 32 (cap - 1)] w fun e w' => e = .returned (.tuple #[.agg #[.int .u64 (l0 x), .int .u64 (l1 x), .int .u64 (l2 x), .int .u64 (l3 x)], .int .i64 0]) ∧ Below w.heap.size w w')) (CP : Hid (∀ w, Mds w → Cb w g 33 C → Calls Tryd.prog 26 #[.slice (some ⟨g, 33, none⟩) 32 (cap - 33)] w fun e w' => e = .returned (.tuple #[.agg #[.int .u64 (l0 y), .int .u64 (l1 y), .int .u64 (l2 y), .int .u64 (l3 y)], .int .i64 0]) ∧ Below w.heap.size w w')) (ON : Hid (∀ w, Mds w → Calls Tryd.prog 10 #[.agg #[.int .u64 (l0 x), .int .u64 (l1 x), .int .u64 (l2 x), .int .u64 (l3 x), .int .u64 (l0 y), .int .u64 (l1 y), .int .u64 (l2 y), .int .u64 (l3 y), .bool false]] w fun e w' => e = .returned (.bool true) ∧ Below w.heap.size w w')) (w : World) (hm : Mds w) (h : Cb w g 1 A) (h2 : Cb w g 33 C) :
    Calls Tryd.prog 16 #[.slice (some ⟨g, 0, none⟩) 65 cap] w fun e w' => e = .returned (.tuple #[.agg #[.int .u64 (l0 x), .int .u64 (l1 x), .int .u64 (l2 x), .int .u64 (l3 x), .int .u64 (l0 y), .int .u64 (l1 y), .int .u64 (l2 y), .int .u64 (l3 y), .bool false], .int .i64 0]) ∧ Below w.heap.size w w' := by
  have nc : cap ≠ 1 := by omega
  have nc2 : cap ≠ 33 := by omega
  have nc1 : (65 : Int) ≤ (cap : Int) := by omega
  go_enter Tryd.func16, Tryd.ntmps16
  go_wp2_with fail
  refine calls_world (fun W => Below w.heap.size w W ∧ Mds W ∧ Bk9 W w.heap.size ∧ Cb W g 1 A ∧ Cb W g 33 C) ⟨by repeat (first | with_reducible exact Below.refl _ _ | with_reducible refine Below.alloc ?_ (by first | omega | (simp; done) | (simp; omega)) _), hm.alloc _, Bk9.new rfl, h.alloc _, h2.alloc _⟩ ?_
  rintro W ⟨B, hD, hR, hC, hE⟩
  have o3 : w.heap.size ≤ w.heap.size := Nat.le_refl _
  with_reducible refine (CO.out _ hD hC).mono ?_
  rintro e w1 ⟨rfl, hb⟩
  replace B := B.trans (hb.mono B.size)
  replace hD := hD.keep hb; replace hR := hR.keep hb; replace hC := hC.keep hb; replace hE := hE.keep hb
  clear hb W
  go_wp2_with fail
  refine calls_world (fun W => Below w.heap.size w W ∧ Mds W ∧ Bk9 W w.heap.size ∧ Cb W g 1 A ∧ Cb W g 33 C ∧ Nm W w1.heap.size x) ⟨B.alloc B.size _, hD.alloc _, hR.alloc _, hC.alloc _, hE.alloc _, Nm.newb rfl⟩ ?_
  clear B hD hR hC hE 
  rintro W ⟨B, hD, hR, hC, hE, hX⟩
  generalize w1.heap.size = bx at *
  with_reducible refine (CP.out _ hD hE).mono ?_
  rintro e w2 ⟨rfl, hb⟩
  replace B := B.trans (hb.mono B.size)
  replace hD := hD.keep hb; replace hR := hR.keep hb; replace hC := hC.keep hb; replace hE := hE.keep hb; replace hX := hX.keep hb
  clear hb W
  have ghX := fun o => (hX.alloc o).cells
  go_wp2_with fail
  refine calls_world (fun W => Below w.heap.size w W ∧ Mds W ∧ Bk9 W w.heap.size ∧ Cb W g 1 A ∧ Cb W g 33 C ∧ Nm W bx x ∧ Nm W w2.heap.size y ∧ Pnt W (w2.heap.size + 1) x y false) ⟨(B.alloc B.size _).alloc (by have := B.size; simp; omega) _, (hD.alloc _).alloc _, (hR.alloc _).alloc _, (hC.alloc _).alloc _, (hE.alloc _).alloc _, (hX.alloc _).alloc _, (Nm.newb rfl).alloc _, Pnt.new (by simp)⟩ ?_
  clear B hD hR hC hE hX 
  rintro W ⟨B, hD, hR, hC, hE, hX, hV, hP⟩
  generalize w2.heap.size + 1 = bp at *
  generalize w2.heap.size = bv at *
  clear ghX
  with_reducible refine (ON.out _ hD).mono ?_
  rintro e w9 ⟨rfl, hb⟩
  replace B := B.trans (hb.mono B.size)
  replace hD := hD.keep hb; replace hR := hR.keep hb; replace hC := hC.keep hb; replace hE := hE.keep hb; replace hX := hX.keep hb; replace hV := hV.keep hb; replace hP := hP.keep hb
  clear hb W hD hC hE hX hV
  have gP := hP.cells
  have gR := hR.cells; have fR := hR.free
  go_wp2
  simp [bodyPost, results, Tryd.results16, go_sem, gR]
  repeat (first | with_reducible exact B | with_reducible refine Below.setCell ?_ o3 _)

end Go.Proofs.YtleneapnjanbbaaDoor
