import Derived.Test.YtmcodflbngkdcaaDoorFBin
import Derived.Test.YtmcodflbngkdcaaDoorHold
import Derived.Test.YtmcodflbngkdcaaDoorFFermat
import Derived.Test.YtmcodflbngkdcaaDoorFAdd
import Derived.Test.YtmcodflbngkdcaaDoorFExp
import Derived.Deep.RegionHeld3
namespace Go.Proofs.YtmcodflbngkdcaaDoor
open Go.RowKit Go.Sort

/-- Block b holds these values, from its first cell on. -/
def Cl (W : World) (b : Nat) (vs : List Value) : Prop := ∀ i, i < vs.length → W.cell? ⟨b, i, none⟩ = some (vs.getD i (.bool false))
theorem Cl.lt {W : World} {b : Nat} {l : List Value} (h : Cl W b l) (hl : 0 < l.length) : b < W.heap.size := World.block_lt_of_cell? W ⟨b, 0, none⟩ (h 0 hl)
theorem Cl.keep {W w1 : World} {b : Nat} {l : List Value} (h : Cl W b l) (hb : Below W.heap.size W w1) : Cl w1 b l := fun i hi => cell_keep hb (h i hi)
theorem Cl.alloc {W : World} {b : Nat} {l : List Value} (h : Cl W b l) (o : Obj) : Cl (W.alloc o) b l := h.keep ((Below.refl _ _).alloc (Nat.le_refl _) o)
theorem Cl.drew {W : World} {b : Nat} {l : List Value} (h : Cl W b l) : Cl W.drew b l := h
theorem Cl.set {W : World} {b b' i : Nat} {l : List Value} (h : Cl W b l) (ne : b' ≠ b) (v : Value) : Cl (W.setCell ⟨b', i, none⟩ v) b l := fun j hj => by
  rw [World.cell?_setCell_far _ _ _ _ (by exact ne)]; exact h j hj
theorem Cl.new {W : World} {b : Nat} {a : Array Value} {t : TypeId} (l : List Value) (e : b = W.heap.size) (ha : a = l.toArray) : Cl (W.alloc (.cells a t)) b l := by
  subst e; subst ha
  intro i hi
  rw [World.cell?_alloc_mark]
  simp [List.getD, List.getElem?_eq_getElem hi]

theorem cell_far {w : World} {b i b' i' : Nat} {u v : Value} (h : w.cell? ⟨b, i, none⟩ = some v) (ne : b' ≠ b) : (w.setCell ⟨b', i', none⟩ u).cell? ⟨b, i, none⟩ = some v := by
  rw [World.cell?_setCell_far _ _ _ _ ne]; exact h

/-- A point in a block. -/
def Pnt (W : World) (b : Nat) (x y : Int) (i : Bool) : Prop := Cl W b [.int .u64 (l0 x), .int .u64 (l1 x), .int .u64 (l2 x), .int .u64 (l3 x), .int .u64 (l0 y), .int .u64 (l1 y), .int .u64 (l2 y), .int .u64 (l3 y), .bool i]
theorem Pnt.lt {W : World} {b : Nat} {x y : Int} {i : Bool} (h : Pnt W b x y i) : b < W.heap.size := Cl.lt h (by simp)
theorem Pnt.keep {W w1 : World} {b : Nat} {x y : Int} {i : Bool} (h : Pnt W b x y i) (hb : Below W.heap.size W w1) : Pnt w1 b x y i := Cl.keep h hb
theorem Pnt.alloc {W : World} {b : Nat} {x y : Int} {i : Bool} (h : Pnt W b x y i) (o : Obj) : Pnt (W.alloc o) b x y i := Cl.alloc h o
theorem Pnt.drew {W : World} {b : Nat} {x y : Int} {i : Bool} (h : Pnt W b x y i) : Pnt W.drew b x y i := h
theorem Pnt.cells {W : World} {b : Nat} {x y : Int} {i : Bool} (h : Pnt W b x y i) :
    W.cell? ⟨b, 0, none⟩ = some (.int .u64 (l0 x)) ∧ W.cell? ⟨b, 1, none⟩ = some (.int .u64 (l1 x)) ∧ W.cell? ⟨b, 2, none⟩ = some (.int .u64 (l2 x)) ∧ W.cell? ⟨b, 3, none⟩ = some (.int .u64 (l3 x)) ∧ W.cell? ⟨b, 4, none⟩ = some (.int .u64 (l0 y)) ∧ W.cell? ⟨b, 5, none⟩ = some (.int .u64 (l1 y)) ∧ W.cell? ⟨b, 6, none⟩ = some (.int .u64 (l2 y)) ∧ W.cell? ⟨b, 7, none⟩ = some (.int .u64 (l3 y)) ∧ W.cell? ⟨b, 8, none⟩ = some (.bool i) := ⟨h 0 (by simp), h 1 (by simp), h 2 (by simp), h 3 (by simp), h 4 (by simp), h 5 (by simp), h 6 (by simp), h 7 (by simp), h 8 (by simp)⟩
theorem Pnt.new {W : World} {b : Nat} {t : TypeId} {x y : Int} {i : Bool} (e : b = W.heap.size) : Pnt (W.alloc (.cells #[.int .u64 (l0 x), .int .u64 (l1 x), .int .u64 (l2 x), .int .u64 (l3 x), .int .u64 (l0 y), .int .u64 (l1 y), .int .u64 (l2 y), .int .u64 (l3 y), .bool i] t)) b x y i := Cl.new _ e rfl
theorem Pnt.grown {W : World} {b : Nat} {x y : Int} {i : Bool} (h : Pnt W b x y i) : ∀ d os,
    (grow (redrawn W d) os).cell? ⟨b, 0, none⟩ = some (.int .u64 (l0 x)) ∧ (grow (redrawn W d) os).cell? ⟨b, 1, none⟩ = some (.int .u64 (l1 x)) ∧ (grow (redrawn W d) os).cell? ⟨b, 2, none⟩ = some (.int .u64 (l2 x)) ∧ (grow (redrawn W d) os).cell? ⟨b, 3, none⟩ = some (.int .u64 (l3 x)) ∧ (grow (redrawn W d) os).cell? ⟨b, 4, none⟩ = some (.int .u64 (l0 y)) ∧ (grow (redrawn W d) os).cell? ⟨b, 5, none⟩ = some (.int .u64 (l1 y)) ∧ (grow (redrawn W d) os).cell? ⟨b, 6, none⟩ = some (.int .u64 (l2 y)) ∧ (grow (redrawn W d) os).cell? ⟨b, 7, none⟩ = some (.int .u64 (l3 y)) ∧ (grow (redrawn W d) os).cell? ⟨b, 8, none⟩ = some (.bool i) := fun d os => (h.keep (below_regrown W d os)).cells

/-- Three numbers in a block. -/
def Thr (W : World) (b : Nat) (x y z : Int) : Prop := Cl W b [.int .u64 (l0 x), .int .u64 (l1 x), .int .u64 (l2 x), .int .u64 (l3 x), .int .u64 (l0 y), .int .u64 (l1 y), .int .u64 (l2 y), .int .u64 (l3 y), .int .u64 (l0 z), .int .u64 (l1 z), .int .u64 (l2 z), .int .u64 (l3 z)]
theorem Thr.lt {W : World} {b : Nat} {x y z : Int} (h : Thr W b x y z) : b < W.heap.size := Cl.lt h (by simp)
theorem Thr.keep {W w1 : World} {b : Nat} {x y z : Int} (h : Thr W b x y z) (hb : Below W.heap.size W w1) : Thr w1 b x y z := Cl.keep h hb
theorem Thr.alloc {W : World} {b : Nat} {x y z : Int} (h : Thr W b x y z) (o : Obj) : Thr (W.alloc o) b x y z := Cl.alloc h o
theorem Thr.drew {W : World} {b : Nat} {x y z : Int} (h : Thr W b x y z) : Thr W.drew b x y z := h
theorem Thr.cells {W : World} {b : Nat} {x y z : Int} (h : Thr W b x y z) :
    W.cell? ⟨b, 0, none⟩ = some (.int .u64 (l0 x)) ∧ W.cell? ⟨b, 1, none⟩ = some (.int .u64 (l1 x)) ∧ W.cell? ⟨b, 2, none⟩ = some (.int .u64 (l2 x)) ∧ W.cell? ⟨b, 3, none⟩ = some (.int .u64 (l3 x)) ∧ W.cell? ⟨b, 4, none⟩ = some (.int .u64 (l0 y)) ∧ W.cell? ⟨b, 5, none⟩ = some (.int .u64 (l1 y)) ∧ W.cell? ⟨b, 6, none⟩ = some (.int .u64 (l2 y)) ∧ W.cell? ⟨b, 7, none⟩ = some (.int .u64 (l3 y)) ∧ W.cell? ⟨b, 8, none⟩ = some (.int .u64 (l0 z)) ∧ W.cell? ⟨b, 9, none⟩ = some (.int .u64 (l1 z)) ∧ W.cell? ⟨b, 10, none⟩ = some (.int .u64 (l2 z)) ∧ W.cell? ⟨b, 11, none⟩ = some (.int .u64 (l3 z)) := ⟨h 0 (by simp), h 1 (by simp), h 2 (by simp), h 3 (by simp), h 4 (by simp), h 5 (by simp), h 6 (by simp), h 7 (by simp), h 8 (by simp), h 9 (by simp), h 10 (by simp), h 11 (by simp)⟩
theorem Thr.new {W : World} {b : Nat} {t : TypeId} {x y z : Int} (e : b = W.heap.size) : Thr (W.alloc (.cells #[.int .u64 (l0 x), .int .u64 (l1 x), .int .u64 (l2 x), .int .u64 (l3 x), .int .u64 (l0 y), .int .u64 (l1 y), .int .u64 (l2 y), .int .u64 (l3 y), .int .u64 (l0 z), .int .u64 (l1 z), .int .u64 (l2 z), .int .u64 (l3 z)] t)) b x y z := Cl.new _ e rfl
theorem Thr.grown {W : World} {b : Nat} {x y z : Int} (h : Thr W b x y z) : ∀ d os,
    (grow (redrawn W d) os).cell? ⟨b, 0, none⟩ = some (.int .u64 (l0 x)) ∧ (grow (redrawn W d) os).cell? ⟨b, 1, none⟩ = some (.int .u64 (l1 x)) ∧ (grow (redrawn W d) os).cell? ⟨b, 2, none⟩ = some (.int .u64 (l2 x)) ∧ (grow (redrawn W d) os).cell? ⟨b, 3, none⟩ = some (.int .u64 (l3 x)) ∧ (grow (redrawn W d) os).cell? ⟨b, 4, none⟩ = some (.int .u64 (l0 y)) ∧ (grow (redrawn W d) os).cell? ⟨b, 5, none⟩ = some (.int .u64 (l1 y)) ∧ (grow (redrawn W d) os).cell? ⟨b, 6, none⟩ = some (.int .u64 (l2 y)) ∧ (grow (redrawn W d) os).cell? ⟨b, 7, none⟩ = some (.int .u64 (l3 y)) ∧ (grow (redrawn W d) os).cell? ⟨b, 8, none⟩ = some (.int .u64 (l0 z)) ∧ (grow (redrawn W d) os).cell? ⟨b, 9, none⟩ = some (.int .u64 (l1 z)) ∧ (grow (redrawn W d) os).cell? ⟨b, 10, none⟩ = some (.int .u64 (l2 z)) ∧ (grow (redrawn W d) os).cell? ⟨b, 11, none⟩ = some (.int .u64 (l3 z)) := fun d os => (h.keep (below_regrown W d os)).cells
theorem Pnt.set4 {W : World} {b b' : Nat} {x y : Int} {i : Bool} (h : Pnt W b x y i) (ne : b' ≠ b) (v0 v1 v2 v3 : Value) : Pnt ((((W.setCell ⟨b', 0, none⟩ v0).setCell ⟨b', 1, none⟩ v1).setCell ⟨b', 2, none⟩ v2).setCell ⟨b', 3, none⟩ v3) b x y i :=
  Cl.set (Cl.set (Cl.set (Cl.set h ne v0) ne v1) ne v2) ne v3
theorem Thr.set4 {W : World} {b b' : Nat} {x y z : Int} (h : Thr W b x y z) (ne : b' ≠ b) (v0 v1 v2 v3 : Value) : Thr ((((W.setCell ⟨b', 0, none⟩ v0).setCell ⟨b', 1, none⟩ v1).setCell ⟨b', 2, none⟩ v2).setCell ⟨b', 3, none⟩ v3) b x y z :=
  Cl.set (Cl.set (Cl.set (Cl.set h ne v0) ne v1) ne v2) ne v3

/-- A block of 9 cells as it is laid, that may be written. -/
def Bk9 (W : World) (b : Nat) : Prop := Cl W b [.int .u64 0, .int .u64 0, .int .u64 0, .int .u64 0, .int .u64 0, .int .u64 0, .int .u64 0, .int .u64 0, .bool false] ∧ Loose W b 9
theorem Bk9.lt {W : World} {b : Nat} (h : Bk9 W b) : b < W.heap.size := Cl.lt h.1 (by simp)
theorem Bk9.keep {W w1 : World} {b : Nat} (h : Bk9 W b) (hb : Below W.heap.size W w1) : Bk9 w1 b := ⟨h.1.keep hb, h.2.keep hb h.lt⟩
theorem Bk9.alloc {W : World} {b : Nat} (h : Bk9 W b) (o : Obj) : Bk9 (W.alloc o) b := h.keep ((Below.refl _ _).alloc (Nat.le_refl _) o)
theorem Bk9.drew {W : World} {b : Nat} (h : Bk9 W b) : Bk9 W.drew b := h
theorem Bk9.set4 {W : World} {b b' : Nat} (h : Bk9 W b) (ne : b' ≠ b) (v0 v1 v2 v3 : Value) : Bk9 ((((W.setCell ⟨b', 0, none⟩ v0).setCell ⟨b', 1, none⟩ v1).setCell ⟨b', 2, none⟩ v2).setCell ⟨b', 3, none⟩ v3) b :=
  ⟨Cl.set (Cl.set (Cl.set (Cl.set h.1 ne v0) ne v1) ne v2) ne v3, (((h.2.set _ _).set _ _).set _ _).set _ _⟩
theorem Bk9.cells {W : World} {b : Nat} (h : Bk9 W b) : W.cell? ⟨b, 0, none⟩ = some (.int .u64 0) ∧ W.cell? ⟨b, 1, none⟩ = some (.int .u64 0) ∧ W.cell? ⟨b, 2, none⟩ = some (.int .u64 0) ∧ W.cell? ⟨b, 3, none⟩ = some (.int .u64 0) ∧ W.cell? ⟨b, 4, none⟩ = some (.int .u64 0) ∧ W.cell? ⟨b, 5, none⟩ = some (.int .u64 0) ∧ W.cell? ⟨b, 6, none⟩ = some (.int .u64 0) ∧ W.cell? ⟨b, 7, none⟩ = some (.int .u64 0) ∧ W.cell? ⟨b, 8, none⟩ = some (.bool false) := ⟨h.1 0 (by simp), h.1 1 (by simp), h.1 2 (by simp), h.1 3 (by simp), h.1 4 (by simp), h.1 5 (by simp), h.1 6 (by simp), h.1 7 (by simp), h.1 8 (by simp)⟩
theorem Bk9.free {W : World} {b : Nat} (h : Bk9 W b) : W.frozen? ⟨b, 0, none⟩ = false ∧ W.frozen? ⟨b, 1, none⟩ = false ∧ W.frozen? ⟨b, 2, none⟩ = false ∧ W.frozen? ⟨b, 3, none⟩ = false ∧ W.frozen? ⟨b, 4, none⟩ = false ∧ W.frozen? ⟨b, 5, none⟩ = false ∧ W.frozen? ⟨b, 6, none⟩ = false ∧ W.frozen? ⟨b, 7, none⟩ = false ∧ W.frozen? ⟨b, 8, none⟩ = false := ⟨h.2 0 (by decide), h.2 1 (by decide), h.2 2 (by decide), h.2 3 (by decide), h.2 4 (by decide), h.2 5 (by decide), h.2 6 (by decide), h.2 7 (by decide), h.2 8 (by decide)⟩
theorem Bk9.new {W : World} {b : Nat} {t : TypeId} (e : b = W.heap.size) : Bk9 (W.alloc (.cells #[.int .u64 0, .int .u64 0, .int .u64 0, .int .u64 0, .int .u64 0, .int .u64 0, .int .u64 0, .int .u64 0, .bool false] t)) b := ⟨Cl.new _ e rfl, by subst e; exact Loose.new _ _ _ _⟩

/-- A block of 12 cells as it is laid, that may be written. -/
def Bk12 (W : World) (b : Nat) : Prop := Cl W b [.int .u64 0, .int .u64 0, .int .u64 0, .int .u64 0, .int .u64 0, .int .u64 0, .int .u64 0, .int .u64 0, .int .u64 0, .int .u64 0, .int .u64 0, .int .u64 0] ∧ Loose W b 12
theorem Bk12.lt {W : World} {b : Nat} (h : Bk12 W b) : b < W.heap.size := Cl.lt h.1 (by simp)
theorem Bk12.keep {W w1 : World} {b : Nat} (h : Bk12 W b) (hb : Below W.heap.size W w1) : Bk12 w1 b := ⟨h.1.keep hb, h.2.keep hb h.lt⟩
theorem Bk12.alloc {W : World} {b : Nat} (h : Bk12 W b) (o : Obj) : Bk12 (W.alloc o) b := h.keep ((Below.refl _ _).alloc (Nat.le_refl _) o)
theorem Bk12.drew {W : World} {b : Nat} (h : Bk12 W b) : Bk12 W.drew b := h
theorem Bk12.set4 {W : World} {b b' : Nat} (h : Bk12 W b) (ne : b' ≠ b) (v0 v1 v2 v3 : Value) : Bk12 ((((W.setCell ⟨b', 0, none⟩ v0).setCell ⟨b', 1, none⟩ v1).setCell ⟨b', 2, none⟩ v2).setCell ⟨b', 3, none⟩ v3) b :=
  ⟨Cl.set (Cl.set (Cl.set (Cl.set h.1 ne v0) ne v1) ne v2) ne v3, (((h.2.set _ _).set _ _).set _ _).set _ _⟩
theorem Bk12.cells {W : World} {b : Nat} (h : Bk12 W b) : W.cell? ⟨b, 0, none⟩ = some (.int .u64 0) ∧ W.cell? ⟨b, 1, none⟩ = some (.int .u64 0) ∧ W.cell? ⟨b, 2, none⟩ = some (.int .u64 0) ∧ W.cell? ⟨b, 3, none⟩ = some (.int .u64 0) ∧ W.cell? ⟨b, 4, none⟩ = some (.int .u64 0) ∧ W.cell? ⟨b, 5, none⟩ = some (.int .u64 0) ∧ W.cell? ⟨b, 6, none⟩ = some (.int .u64 0) ∧ W.cell? ⟨b, 7, none⟩ = some (.int .u64 0) ∧ W.cell? ⟨b, 8, none⟩ = some (.int .u64 0) ∧ W.cell? ⟨b, 9, none⟩ = some (.int .u64 0) ∧ W.cell? ⟨b, 10, none⟩ = some (.int .u64 0) ∧ W.cell? ⟨b, 11, none⟩ = some (.int .u64 0) := ⟨h.1 0 (by simp), h.1 1 (by simp), h.1 2 (by simp), h.1 3 (by simp), h.1 4 (by simp), h.1 5 (by simp), h.1 6 (by simp), h.1 7 (by simp), h.1 8 (by simp), h.1 9 (by simp), h.1 10 (by simp), h.1 11 (by simp)⟩
theorem Bk12.free {W : World} {b : Nat} (h : Bk12 W b) : W.frozen? ⟨b, 0, none⟩ = false ∧ W.frozen? ⟨b, 1, none⟩ = false ∧ W.frozen? ⟨b, 2, none⟩ = false ∧ W.frozen? ⟨b, 3, none⟩ = false ∧ W.frozen? ⟨b, 4, none⟩ = false ∧ W.frozen? ⟨b, 5, none⟩ = false ∧ W.frozen? ⟨b, 6, none⟩ = false ∧ W.frozen? ⟨b, 7, none⟩ = false ∧ W.frozen? ⟨b, 8, none⟩ = false ∧ W.frozen? ⟨b, 9, none⟩ = false ∧ W.frozen? ⟨b, 10, none⟩ = false ∧ W.frozen? ⟨b, 11, none⟩ = false := ⟨h.2 0 (by decide), h.2 1 (by decide), h.2 2 (by decide), h.2 3 (by decide), h.2 4 (by decide), h.2 5 (by decide), h.2 6 (by decide), h.2 7 (by decide), h.2 8 (by decide), h.2 9 (by decide), h.2 10 (by decide), h.2 11 (by decide)⟩
theorem Bk12.new {W : World} {b : Nat} {t : TypeId} (e : b = W.heap.size) : Bk12 (W.alloc (.cells #[.int .u64 0, .int .u64 0, .int .u64 0, .int .u64 0, .int .u64 0, .int .u64 0, .int .u64 0, .int .u64 0, .int .u64 0, .int .u64 0, .int .u64 0, .int .u64 0] t)) b := ⟨Cl.new _ e rfl, by subst e; exact Loose.new _ _ _ _⟩

end Go.Proofs.YtmcodflbngkdcaaDoor

namespace Go.Proofs.YtmcodflbngkdcaaDoor
open Go.RowKit Go.Sort

set_option maxHeartbeats 2000000 in
theorem csqat_walk {x a b r : Int} (C1 : Hid (∀ w, Mds w → Calls Tryd.prog 32 #[.agg #[.int .u64 (l0 x), .int .u64 (l1 x), .int .u64 (l2 x), .int .u64 (l3 x)]] w fun e w' => e = .returned (.agg #[.int .u64 (l0 a), .int .u64 (l1 a), .int .u64 (l2 a), .int .u64 (l3 a)]) ∧ Below w.heap.size w w')) (C2 : Hid (∀ w, Mds w → Calls Tryd.prog 46 #[.agg #[.int .u64 (l0 a), .int .u64 (l1 a), .int .u64 (l2 a), .int .u64 (l3 a)], .agg #[.int .u64 (l0 x), .int .u64 (l1 x), .int .u64 (l2 x), .int .u64 (l3 x)]] w fun e w' => e = .returned (.agg #[.int .u64 (l0 b), .int .u64 (l1 b), .int .u64 (l2 b), .int .u64 (l3 b)]) ∧ Below w.heap.size w w'))
    (C3 : Hid (∀ w, Calls Tryd.prog 48 #[.int .u64 7] w fun e w' => e = .returned (.agg #[.int .u64 (l0 7), .int .u64 (l1 7), .int .u64 (l2 7), .int .u64 (l3 7)]) ∧ Below w.heap.size w w')) (C4 : Hid (∀ w, Mds w → Calls Tryd.prog 47 #[.agg #[.int .u64 (l0 b), .int .u64 (l1 b), .int .u64 (l2 b), .int .u64 (l3 b)], .agg #[.int .u64 (l0 7), .int .u64 (l1 7), .int .u64 (l2 7), .int .u64 (l3 7)]] w fun e w' => e = .returned (.agg #[.int .u64 (l0 r), .int .u64 (l1 r), .int .u64 (l2 r), .int .u64 (l3 r)]) ∧ Below w.heap.size w w')) (w : World) (hm : Mds w) :
    Calls Tryd.prog 33 #[.agg #[.int .u64 (l0 x), .int .u64 (l1 x), .int .u64 (l2 x), .int .u64 (l3 x)]] w fun e w' => e = .returned (.agg #[.int .u64 (l0 r), .int .u64 (l1 r), .int .u64 (l2 r), .int .u64 (l3 r)]) ∧ Below w.heap.size w w' := by
  go_enter Tryd.func33, Tryd.ntmps33
  go_wp2_with fail
  refine wp_world (fun W => Below w.heap.size w W ∧ Mds W ∧ Hold W w.heap.size x ∧ Blank W (w.heap.size + 1)) ⟨by repeat (first | with_reducible exact Below.refl _ _ | with_reducible refine Below.alloc ?_ (by first | omega | (simp; done) | (simp; omega)) _), (hm.alloc _).alloc _, (Hold.fresh (by simp)).alloc _, Blank.new (by simp)⟩ ?_
  rintro W ⟨B, hD, hX, hR⟩
  have o3 : w.heap.size ≤ w.heap.size + 1 := by omega
  generalize w.heap.size + 1 = br at *
  have ghX := hX.grown
  have hDg : ∀ d os, Mds (grow (redrawn W d) os) := fun d os => hD.keep (below_regrown W d os)
  refine below_tail 6 (by kernel_rfl) (by kernel_rfl) ?_
  simp only [List.take_succ_cons, List.take_zero, List.drop_succ_cons, List.drop_zero]
  repeat
    first
      | go_big_quiet_skip
      | (go_big_quiet_want; go_big_quiet_op; go_big_quiet_on)
      | (go_big_quiet_want
         go_big_quiet_op
         apply Exists.intro
         refine ⟨fun p => ?_, ?_⟩
         · (first | (go_at_call 32; with_reducible exact Calls.regrown_of (C1.out _ (hDg p.d p.os))) | (go_at_call 46; with_reducible exact Calls.regrown_of (C2.out _ (hDg p.d p.os))) | (go_at_call 48; with_reducible exact Calls.regrown_of (C3.out _)) | (go_at_call 47; with_reducible exact Calls.regrown_of (C4.out _ (hDg p.d p.os))))
         go_big_quiet_on)
  refine wpQuiet_nil ?_
  rintro w1 ⟨p, rfl⟩
  have hb := below_regrown W p.d p.os
  generalize grow (redrawn W p.d) p.os = w1 at *
  replace B := B.trans (hb.mono B.size)
  replace hD := hD.keep hb; replace hX := hX.keep hb; replace hR := hR.keep hb
  clear hb W ghX hDg
  have gR := hR.1.all4; have fR := hR.2.all4
  go_wp2
  simp [bodyPost, results, Tryd.results33, go_sem, gR]
  exact below_set4 B o3 _ _ _ _

/-- x * x * x + 7 modulo p. -/
def cubN (x : Int) : Int := modN pN (modN pN (modN pN (x * x) * x) + 7)
theorem csqat_any {x : Int} (hx : Num x) (w : World) (hm : Mds w) :
    Calls Tryd.prog 33 #[.agg #[.int .u64 (l0 x), .int .u64 (l1 x), .int .u64 (l2 x), .int .u64 (l3 x)]] w fun e w' => e = .returned (.agg #[.int .u64 (l0 (cubN x)), .int .u64 (l1 (cubN x)), .int .u64 (l2 (cubN x)), .int .u64 (l3 (cubN x))]) ∧ Below w.heap.size w w' :=
  csqat_walk (fun w hm => csquare_any hx w hm) (fun w hm => ctimes_any (modN_Num fit_p _) hx w hm) (fun w => from_any ⟨by decide, by decide⟩ w)
    (fun w hm => cplus_any (modN_Num fit_p _) ⟨by decide, by decide⟩ w hm) w hm
end Go.Proofs.YtmcodflbngkdcaaDoor

/- The numbers below p as a field. -/
namespace Go.Proofs.YtmcodflbngkdcaaDoor.EC

abbrev F := Fin 115792089237316195423570985008687907853269984665640564039457584007908834671663

theorem pN_is : pN = 115792089237316195423570985008687907853269984665640564039457584007908834671663 := rfl
/-- A number modulo p. -/
def fp (n : Int) : F := ⟨(n % 115792089237316195423570985008687907853269984665640564039457584007908834671663).toNat, by omega⟩
theorem fp_val (n : Int) : (fp n).val = (n % 115792089237316195423570985008687907853269984665640564039457584007908834671663).toNat := rfl
theorem fp_int (n : Int) : ((fp n).val : Int) = n % 115792089237316195423570985008687907853269984665640564039457584007908834671663 := by
  rw [fp_val]; omega
theorem fp_mod (n : Int) : fp (modN pN n) = fp n := by
  apply Fin.ext; rw [fp_val, fp_val]; unfold modN; rw [pN_is]; omega
theorem fp_same {x y : Int} (h : fp x = fp y) : x % 115792089237316195423570985008687907853269984665640564039457584007908834671663 = y % 115792089237316195423570985008687907853269984665640564039457584007908834671663 := by
  rw [← fp_int, ← fp_int, h]
/-- A number of its own. -/
def Low (x : Int) : Prop := 0 ≤ x ∧ x < pN
theorem low_mod (x : Int) : Low (modN pN x) := modN_lt fit_p x
theorem Low.num {x : Int} (h : Low x) : Num x := by
  obtain ⟨a, b⟩ := h; rw [pN_is] at b; unfold Num; omega
theorem fp_inj {x y : Int} (hx : Low x) (hy : Low y) (h : fp x = fp y) : x = y := by
  have e := fp_same h
  obtain ⟨a, b⟩ := hx; obtain ⟨c, d⟩ := hy
  rw [pN_is] at b d
  omega
theorem fp_add (x y : Int) : fp (x + y) = fp x + fp y := by
  apply Fin.ext; rw [Fin.val_add, fp_val, fp_val, fp_val]; omega
theorem fp_mul (x y : Int) : fp (x * y) = fp x * fp y := by
  apply Fin.ext
  have e : ((fp x * fp y).val : Int) = ((fp (x * y)).val : Int) := by
    rw [Fin.val_mul, Int.natCast_emod, Int.natCast_mul, fp_int, fp_int, fp_int]
    exact (Int.mul_emod _ _ _).symm
  omega
theorem fp_back (a : F) : fp (a.val : Int) = a := by
  apply Fin.ext; rw [fp_val]; have := a.isLt; omega
theorem fp_one : fp 1 = 1 := by decide +kernel
/-- Over. -/
def iv (a : F) : F := fp (invN pN (a.val : Int))
theorem inv_mul {x : Int} (x0 : 0 ≤ x) (h : modN pN x ≠ 0) : modN pN (x * invN pN x) = 1 := by
  have e := powN_fermat prm_p x0 h
  unfold invN
  rw [Int.mul_comm, powN_next pN x (by decide), show pN - 2 + 1 = pN - 1 by decide]; exact e
theorem inv1 {a : F} (ha : a ≠ 0) : a * iv a = 1 := by
  have h : modN pN (a.val : Int) ≠ 0 := by
    intro e; apply ha; apply Fin.ext
    show a.val = 0
    unfold modN at e; rw [pN_is] at e; have := a.isLt; omega
  have e := inv_mul (by omega) h
  unfold iv
  conv => lhs; lhs; rw [← fp_back a]
  rw [← fp_mul, ← fp_mod, e, fp_one]
end Go.Proofs.YtmcodflbngkdcaaDoor.EC

namespace Go.Proofs.YtmcodflbngkdcaaDoor
open Go.RowKit Go.Sort

def rootE (x : Int) : Int := if modN pN (powN pN x qN * powN pN x qN) = modN pN x then 0 else 41
end Go.Proofs.YtmcodflbngkdcaaDoor

namespace Go.Proofs.YtmcodflbngkdcaaDoor
open Go.RowKit

end Go.Proofs.YtmcodflbngkdcaaDoor

namespace Go.Proofs.YtmcodflbngkdcaaDoor
open Go.RowKit Go.Sort

end Go.Proofs.YtmcodflbngkdcaaDoor

namespace Go.Proofs.YtmcodflbngkdcaaDoor
open Go.RowKit Go.Sort

def liftOk (x : Int) : Prop := x < pN ∧ rootE (cubN x) = 0
instance (x : Int) : Decidable (liftOk x) := inferInstanceAs (Decidable (_ ∧ _))
end Go.Proofs.YtmcodflbngkdcaaDoor

namespace Go.Proofs.YtmcodflbngkdcaaDoor
open Go.RowKit Go.Sort

set_option maxHeartbeats 2000000 in
theorem r5add_any {x y : Int} (hx : Num x) (hy : Num y) (w : World) :
    Calls Tryd.prog 27 #[.agg #[.int .u64 (l0 x), .int .u64 (l1 x), .int .u64 (l2 x), .int .u64 (l3 x)], .agg #[.int .u64 (l0 y), .int .u64 (l1 y), .int .u64 (l2 y), .int .u64 (l3 y)]] w fun e w' => e = .returned (.agg #[.int .u64 (l0 (modN pN (x + y))), .int .u64 (l1 (modN pN (x + y))), .int .u64 (l2 (modN pN (x + y))), .int .u64 (l3 (modN pN (x + y)))]) ∧ Below w.heap.size w w' := by
  have C : Hid (∀ w, Calls Tryd.prog 41 #[.int .i64 0, .agg #[.int .u64 (l0 x), .int .u64 (l1 x), .int .u64 (l2 x), .int .u64 (l3 x)], .agg #[.int .u64 (l0 y), .int .u64 (l1 y), .int .u64 (l2 y), .int .u64 (l3 y)]] w fun e w' => e = .returned (.tuple #[.agg #[.int .u64 (l0 (modN pN (x + y))), .int .u64 (l1 (modN pN (x + y))), .int .u64 (l2 (modN pN (x + y))), .int .u64 (l3 (modN pN (x + y)))], .int .i64 0]) ∧ Below w.heap.size w w') := fun w => rAdd_good (.inl rfl) hx hy w
  generalize modN pN (x + y) = r at *
  clear hx hy
  go_enter Tryd.func27, Tryd.ntmps27
  go_wp2_with fail
  refine calls_world (fun W => Below w.heap.size w W ∧ Blank W (w.heap.size + 1 + 1)) ⟨by repeat (first | with_reducible exact Below.refl _ _ | with_reducible refine Below.alloc ?_ (by first | omega | (simp; done) | (simp; omega)) _), Blank.new (by simp)⟩ ?_
  rintro W ⟨B, hR⟩
  have o3 : w.heap.size ≤ w.heap.size + 1 + 1 := by omega
  generalize w.heap.size + 1 + 1 = br at *
  with_reducible refine (C.out _).mono ?_
  rintro e w1 ⟨rfl, hb⟩
  replace B := B.trans (hb.mono B.size)
  replace hR := hR.keep hb
  have lr := hR.1.lt (by simp)
  have nr : w1.heap.size ≠ br := by omega
  have nr' := nr.symm
  clear hb W lr
  have gR := fun o => (hR.alloc o).1.all4
  have fR := fun o => (hR.alloc o).2.all4
  have BB : Hid (∀ o, Below w.heap.size w (w1.alloc o)) := fun o => B.alloc B.size o
  clear B hR
  go_wp2
  simp [bodyPost, results, Tryd.results27, go_sem, *]
  repeat (first | with_reducible exact BB.out _ | with_reducible refine Below.drew ?_ | with_reducible refine Below.setCell ?_ (by with_reducible assumption) _)

set_option maxHeartbeats 2000000 in
theorem r5mul_any {x y : Int} (hx : Num x) (hy : Num y) (w : World) :
    Calls Tryd.prog 18 #[.agg #[.int .u64 (l0 x), .int .u64 (l1 x), .int .u64 (l2 x), .int .u64 (l3 x)], .agg #[.int .u64 (l0 y), .int .u64 (l1 y), .int .u64 (l2 y), .int .u64 (l3 y)]] w fun e w' => e = .returned (.agg #[.int .u64 (l0 (modN pN (x * y))), .int .u64 (l1 (modN pN (x * y))), .int .u64 (l2 (modN pN (x * y))), .int .u64 (l3 (modN pN (x * y)))]) ∧ Below w.heap.size w w' := by
  have C : Hid (∀ w, Calls Tryd.prog 26 #[.int .i64 0, .agg #[.int .u64 (l0 x), .int .u64 (l1 x), .int .u64 (l2 x), .int .u64 (l3 x)], .agg #[.int .u64 (l0 y), .int .u64 (l1 y), .int .u64 (l2 y), .int .u64 (l3 y)]] w fun e w' => e = .returned (.tuple #[.agg #[.int .u64 (l0 (modN pN (x * y))), .int .u64 (l1 (modN pN (x * y))), .int .u64 (l2 (modN pN (x * y))), .int .u64 (l3 (modN pN (x * y)))], .int .i64 0]) ∧ Below w.heap.size w w') := fun w => rMul_good (.inl rfl) hx hy w
  generalize modN pN (x * y) = r at *
  clear hx hy
  go_enter Tryd.func18, Tryd.ntmps18
  go_wp2_with fail
  refine calls_world (fun W => Below w.heap.size w W ∧ Blank W (w.heap.size + 1 + 1)) ⟨by repeat (first | with_reducible exact Below.refl _ _ | with_reducible refine Below.alloc ?_ (by first | omega | (simp; done) | (simp; omega)) _), Blank.new (by simp)⟩ ?_
  rintro W ⟨B, hR⟩
  have o3 : w.heap.size ≤ w.heap.size + 1 + 1 := by omega
  generalize w.heap.size + 1 + 1 = br at *
  with_reducible refine (C.out _).mono ?_
  rintro e w1 ⟨rfl, hb⟩
  replace B := B.trans (hb.mono B.size)
  replace hR := hR.keep hb
  have lr := hR.1.lt (by simp)
  have nr : w1.heap.size ≠ br := by omega
  have nr' := nr.symm
  clear hb W lr
  have gR := fun o => (hR.alloc o).1.all4
  have fR := fun o => (hR.alloc o).2.all4
  have BB : Hid (∀ o, Below w.heap.size w (w1.alloc o)) := fun o => B.alloc B.size o
  clear B hR
  go_wp2
  simp [bodyPost, results, Tryd.results18, go_sem, *]
  repeat (first | with_reducible exact BB.out _ | with_reducible refine Below.drew ?_ | with_reducible refine Below.setCell ?_ (by with_reducible assumption) _)

set_option maxHeartbeats 2000000 in
theorem r5low_any {x : Int} (hx : Num x) (w : World) :
    Calls Tryd.prog 17 #[.agg #[.int .u64 (l0 x), .int .u64 (l1 x), .int .u64 (l2 x), .int .u64 (l3 x)]] w fun e w' => e = .returned (.bool (decide (x < pN))) ∧ Below w.heap.size w w' := by
  have C := fun w => rcmp_any hx fit_p.num w
  have hv : decide (cmpN x pN < 0) = decide (x < pN) := by
    unfold cmpN
    by_cases h' : x = pN
    · rw [h']; simp
    · by_cases h : x < pN <;> simp [h, h']
  have O : Hid (∀ w, Calls Tryd.prog 24 #[.int .i64 0] w fun e w' => e = .returned (.tuple #[.agg #[.int .u64 (l0 pN), .int .u64 (l1 pN), .int .u64 (l2 pN), .int .u64 (l3 pN)], .int .i64 0]) ∧ Below w.heap.size w w') := fun w => rModulus_good (.inl rfl) w
  generalize decide (x < pN) = r at *
  generalize cmpN x pN = q at *
  generalize pN = p at *
  clear hx
  go_enter Tryd.func17, Tryd.ntmps17
  go_wp2_with fail
  refine calls_world (fun W => Below w.heap.size w W ∧ Hold W w.heap.size x) ⟨by repeat (first | with_reducible exact Below.refl _ _ | with_reducible refine Below.alloc ?_ (by first | omega | (simp; done) | (simp; omega)) _), Hold.fresh (by simp)⟩ ?_
  rintro W ⟨B, hX⟩
  with_reducible refine (O.out _).mono ?_
  rintro e w1 ⟨rfl, hb⟩
  replace B := B.trans (hb.mono B.size)
  replace hX := hX.keep hb
  clear hb W
  have gX := hX.allocs
  go_wp2_with fail
  refine calls_world (fun W => Below w.heap.size w W) (B.alloc B.size _) ?_
  clear B hX gX
  rintro W B
  with_reducible refine (C _).mono ?_
  rintro e w2 ⟨rfl, hb⟩
  replace B := B.trans (hb.mono B.size)
  clear hb W
  go_wp2
  simp [bodyPost, results, Tryd.results17, go_sem]
  exact B

set_option maxRecDepth 100000 in
set_option maxHeartbeats 8000000 in
theorem r5cubic_walk {x a b r : Int} (C1 : Hid (∀ w, Calls Tryd.prog 18 #[.agg #[.int .u64 (l0 x), .int .u64 (l1 x), .int .u64 (l2 x), .int .u64 (l3 x)], .agg #[.int .u64 (l0 x), .int .u64 (l1 x), .int .u64 (l2 x), .int .u64 (l3 x)]] w fun e w' => e = .returned (.agg #[.int .u64 (l0 a), .int .u64 (l1 a), .int .u64 (l2 a), .int .u64 (l3 a)]) ∧ Below w.heap.size w w')) (C2 : Hid (∀ w, Calls Tryd.prog 18 #[.agg #[.int .u64 (l0 a), .int .u64 (l1 a), .int .u64 (l2 a), .int .u64 (l3 a)], .agg #[.int .u64 (l0 x), .int .u64 (l1 x), .int .u64 (l2 x), .int .u64 (l3 x)]] w fun e w' => e = .returned (.agg #[.int .u64 (l0 b), .int .u64 (l1 b), .int .u64 (l2 b), .int .u64 (l3 b)]) ∧ Below w.heap.size w w'))
    (C3 : Hid (∀ w, Calls Tryd.prog 28 #[.int .u64 7] w fun e w' => e = .returned (.agg #[.int .u64 (l0 7), .int .u64 (l1 7), .int .u64 (l2 7), .int .u64 (l3 7)]) ∧ Below w.heap.size w w')) (C4 : Hid (∀ w, Calls Tryd.prog 27 #[.agg #[.int .u64 (l0 b), .int .u64 (l1 b), .int .u64 (l2 b), .int .u64 (l3 b)], .agg #[.int .u64 (l0 7), .int .u64 (l1 7), .int .u64 (l2 7), .int .u64 (l3 7)]] w fun e w' => e = .returned (.agg #[.int .u64 (l0 r), .int .u64 (l1 r), .int .u64 (l2 r), .int .u64 (l3 r)]) ∧ Below w.heap.size w w')) (w : World) :
    Calls Tryd.prog 19 #[.agg #[.int .u64 (l0 x), .int .u64 (l1 x), .int .u64 (l2 x), .int .u64 (l3 x)]] w fun e w' => e = .returned (.agg #[.int .u64 (l0 r), .int .u64 (l1 r), .int .u64 (l2 r), .int .u64 (l3 r)]) ∧ Below w.heap.size w w' := by
  go_enter Tryd.func19, Tryd.ntmps19
  go_wp2_with fail
  refine wp_world (fun W => Below w.heap.size w W ∧ Hold W w.heap.size x ∧ Blank W (w.heap.size + 1)) ⟨by repeat (first | with_reducible exact Below.refl _ _ | with_reducible refine Below.alloc ?_ (by first | omega | (simp; done) | (simp; omega)) _), (Hold.fresh (by simp)).alloc _, Blank.new (by simp)⟩ ?_
  rintro W ⟨B, hX, hR⟩
  have o3 : w.heap.size ≤ w.heap.size + 1 := by omega
  generalize w.heap.size + 1 = br at *
  have ghX := hX.cells
  have lthX : w.heap.size < W.heap.size := World.block_lt_of_cell? W _ hX.1
  have lthR : br < W.heap.size := hR.1.lt (by simp)
  have BB : Hid (Below w.heap.size w W) := B
  have QhX : Hid (Hold W w.heap.size x) := hX
  have QhR : Hid (Blank W br) := hR
  have geB : w.heap.size ≤ W.heap.size := B.size
  clear B hX hR
  generalize hbx : w.heap.size = bx at *
  refine wp_out (fun a' W' => ∃ bc, Below bx w W' ∧ Hold W' bx x ∧ Blank W' br ∧ Hold W' bc b ∧ a' = { tmps := #[.agg #[.int .u64 (l0 x), .int .u64 (l1 x), .int .u64 (l2 x), .int .u64 (l3 x)], .pointer (some { block := bx, off := 0 }), .pointer (some { block := br, off := 0 }), .pointer (some { block := bc, off := 0 }), .agg #[.int .u64 (l0 x), .int .u64 (l1 x), .int .u64 (l2 x), .int .u64 (l3 x)], .agg #[.int .u64 (l0 x), .int .u64 (l1 x), .int .u64 (l2 x), .int .u64 (l3 x)], .agg #[.int .u64 (l0 a), .int .u64 (l1 a), .int .u64 (l2 a), .int .u64 (l3 a)], .agg #[.int .u64 (l0 x), .int .u64 (l1 x), .int .u64 (l2 x), .int .u64 (l3 x)], .agg #[.int .u64 (l0 b), .int .u64 (l1 b), .int .u64 (l2 b), .int .u64 (l3 b)], Go.undef, Go.undef, Go.undef], defers := [] }) ?_ ?_
  · have dz : W.drew.heap.size = W.heap.size := rfl
    clear C3 C4
    have lo0 : bx < W.heap.size := by omega
    have _ := Nat.ne_of_lt lo0
    have _ := Nat.ne_of_gt lo0
    have lo1 : br < W.heap.size := by omega
    have _ := Nat.ne_of_lt lo1
    have _ := Nat.ne_of_gt lo1
    go_region_held3 (fun w' => w'.cell? ⟨bx, 0, none⟩ = some (.int .u64 (l0 x)) ∧ w'.cell? ⟨bx, 1, none⟩ = some (.int .u64 (l1 x)) ∧ w'.cell? ⟨bx, 2, none⟩ = some (.int .u64 (l2 x)) ∧ w'.cell? ⟨bx, 3, none⟩ = some (.int .u64 (l3 x))) (((try dsimp only); (repeat' (apply And.intro)); (all_goals repeat (first | with_reducible assumption | with_reducible apply cell_keep hb2 | with_reducible apply cell_keep hb1 | with_reducible apply cell_alloc | (with_reducible refine cell_set ?_ (by with_reducible assumption)) | (with_reducible refine cell_far ?_ (by with_reducible assumption)) | (simp [go_sem, *]; done)))))
      (first
        | (go_at_call 18; with_reducible refine (C1.out _).mono ?_; rintro e w1 ⟨rfl, hb1⟩; have hc1 := oldCells hb1; have hz1 := hb1.size; (try simp at hz1); have hW1 : W.heap.size ≤ w1.heap.size := (by omega); have _ := Nat.le_trans geB hW1; (try (have := fun j => oldCells hb1 (W.heap.size) j (by first | omega | (simp; done) | (simp; omega)))); have lo0_1 := Nat.lt_of_lt_of_le lo0 hW1; have _ := Nat.ne_of_lt lo0_1; have _ := Nat.ne_of_gt lo0_1; have lo1_1 := Nat.lt_of_lt_of_le lo1 hW1; have _ := Nat.ne_of_lt lo1_1; have _ := Nat.ne_of_gt lo1_1; (try (have hv : W.heap.size < w1.heap.size := (by omega); have _ := Nat.ne_of_lt hv; have _ := Nat.ne_of_gt hv)))
        | (go_at_call 18; with_reducible refine (C2.out _).mono ?_; rintro e w2 ⟨rfl, hb2⟩; have hc2 := oldCells hb2; have hz2 := hb2.size; (try simp at hz2); have hW2 : W.heap.size ≤ w2.heap.size := (by omega); have _ := Nat.le_trans geB hW2; (try (have := fun j => oldCells hb2 (W.heap.size) j (by first | omega | (simp; done) | (simp; omega)))); (try (have := fun j => oldCells hb2 (w1.heap.size) j (by first | omega | (simp; done) | (simp; omega)))); have lo0_2 := Nat.lt_of_lt_of_le lo0 hW2; have _ := Nat.ne_of_lt lo0_2; have _ := Nat.ne_of_gt lo0_2; have lo1_2 := Nat.lt_of_lt_of_le lo1 hW2; have _ := Nat.ne_of_lt lo1_2; have _ := Nat.ne_of_gt lo1_2; (try (have hv : W.heap.size < w2.heap.size := (by omega); have _ := Nat.ne_of_lt hv; have _ := Nat.ne_of_gt hv)); (try (have hv : w1.heap.size < w2.heap.size := (by omega); have _ := Nat.ne_of_lt hv; have _ := Nat.ne_of_gt hv))))
    all_goals (refine OutQ.intro ⟨_, ?_, ?_, ?_, ?_, rfl⟩)
    all_goals repeat (first | with_reducible exact BB.out | with_reducible exact QhX.out | with_reducible exact QhR.out | with_reducible refine Hold.fresh (by first | rfl | (simp; done) | fail) | with_reducible refine Hold.sets4 ?_ | with_reducible refine Var.new (by first | rfl | (simp; done) | fail) | with_reducible refine Hold.alloc ?_ _ | with_reducible refine Hold.drew ?_ | with_reducible refine Hold.set4 ?_ (by with_reducible assumption) _ _ _ _ | with_reducible refine HoldM.alloc ?_ _ | with_reducible refine HoldM.drew ?_ | with_reducible refine HoldM.set4 ?_ (by with_reducible assumption) _ _ _ _ | with_reducible refine Blank.alloc ?_ _ | with_reducible refine Blank.drew ?_ | with_reducible refine Blank.set4 ?_ (by with_reducible assumption) _ _ _ _ | with_reducible refine Mds.alloc ?_ _ | with_reducible refine Mds.drew ?_ | with_reducible refine Mds.set4 ?_ (by with_reducible assumption) _ _ _ _ | with_reducible refine Var.alloc ?_ _ | with_reducible refine Var.set4 ?_ (by with_reducible assumption) _ _ _ _ | with_reducible refine below_alloc hbx ?_ _ | with_reducible refine Below.drew ?_ | with_reducible refine Below.setCell ?_ (by with_reducible assumption) _ | with_reducible refine Has.fresh (by first | rfl | (simp; done) | fail) (by first | (simp; done) | fail) | with_reducible refine Has.alloc ?_ _ | with_reducible refine Has.drew ?_ | with_reducible refine Has.keep ?_ hb2 | with_reducible refine Hold.keep ?_ hb2 | with_reducible refine HoldM.keep ?_ hb2 | with_reducible refine Blank.keep ?_ hb2 | with_reducible refine Mds.keep ?_ hb2 | with_reducible refine Var.keep ?_ hb2 | with_reducible refine below_then hbx ?_ hb2 | with_reducible refine Has.keep ?_ hb1 | with_reducible refine Hold.keep ?_ hb1 | with_reducible refine HoldM.keep ?_ hb1 | with_reducible refine Blank.keep ?_ hb1 | with_reducible refine Mds.keep ?_ hb1 | with_reducible refine Var.keep ?_ hb1 | with_reducible refine below_then hbx ?_ hb1)
  rintro _ W ⟨bc, B, hX, hR, hC, rfl⟩
  subst hbx
  clear BB geB QhX QhR ghX lthX lthR
  go_wp2_with fail
  have ghC := hC.grown
  refine below_tail 3 (by kernel_rfl) (by kernel_rfl) ?_
  simp only [List.take_succ_cons, List.take_zero, List.drop_succ_cons, List.drop_zero]
  repeat
    first
      | go_big_quiet_skip
      | (go_big_quiet_want; go_big_quiet_op; go_big_quiet_on)
      | (go_big_quiet_want
         go_big_quiet_op
         apply Exists.intro
         refine ⟨fun p => ?_, ?_⟩
         · (first | (go_at_call 28; with_reducible exact Calls.regrown_of (C3.out _)) | (go_at_call 27; with_reducible exact Calls.regrown_of (C4.out _)))
         go_big_quiet_on)
  refine wpQuiet_nil ?_
  rintro w1 ⟨p, rfl⟩
  have hb := below_regrown W p.d p.os
  generalize grow (redrawn W p.d) p.os = w1 at *
  replace B := B.trans (hb.mono B.size)
  replace hX := hX.keep hb; replace hR := hR.keep hb; replace hC := hC.keep hb
  clear hb W ghC 
  have gR := hR.1.all4; have fR := hR.2.all4
  go_wp2
  simp [bodyPost, results, Tryd.results19, go_sem, gR]
  exact below_set4 B o3 _ _ _ _

theorem r5cubic_any {x : Int} (hx : Num x) (w : World) :
    Calls Tryd.prog 19 #[.agg #[.int .u64 (l0 x), .int .u64 (l1 x), .int .u64 (l2 x), .int .u64 (l3 x)]] w fun e w' => e = .returned (.agg #[.int .u64 (l0 (cubN x)), .int .u64 (l1 (cubN x)), .int .u64 (l2 (cubN x)), .int .u64 (l3 (cubN x))]) ∧ Below w.heap.size w w' :=
  r5cubic_walk (fun w => r5mul_any hx hx w) (fun w => r5mul_any (modN_Num fit_p _) hx w) (fun w => rfrom_any ⟨by decide, by decide⟩ w)
    (fun w => r5add_any (modN_Num fit_p _) ⟨by decide, by decide⟩ w) w

end Go.Proofs.YtmcodflbngkdcaaDoor
