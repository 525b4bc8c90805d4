import Derived.Test.YtncpjgpioajbeaaGreatDoorCMod
import Derived.Test.YtncpjgpioajbeaaGreatDoorRowHold
import Derived.Test.YtncpjgpioajbeaaGreatDoorOut
namespace Go.Proofs.YtncpjgpioajbeaaGreatDoor
open Go.RowKit Go.Sort

/-- Block b holds these values, from its first cell on. -/
def Cl (W : World) (b : Nat) (vs : List Value) : Prop := ∀ i, i < vs.length → W.cell? ⟨b, i, none⟩ = some (vs.getD i (.bool false))
theorem Cl.lt {W : World} {b : Nat} {l : List Value} (h : Cl W b l) (hl : 0 < l.length) : b < W.heap.size := World.block_lt_of_cell? W ⟨b, 0, none⟩ (h 0 hl)
theorem Cl.keep {W w1 : World} {b : Nat} {l : List Value} (h : Cl W b l) (hb : Below W.heap.size W w1) : Cl w1 b l := fun i hi => cell_keep hb (h i hi)
theorem Cl.alloc {W : World} {b : Nat} {l : List Value} (h : Cl W b l) (o : Obj) : Cl (W.alloc o) b l := h.keep ((Below.refl _ _).alloc (Nat.le_refl _) o)
theorem Cl.set {W : World} {b b' i : Nat} {l : List Value} (h : Cl W b l) (ne : b' ≠ b) (v : Value) : Cl (W.setCell ⟨b', i, none⟩ v) b l := fun j hj => by
  rw [World.cell?_setCell_far _ _ _ _ (by exact ne)]; exact h j hj
theorem Cl.new {W : World} {b : Nat} {a : Array Value} {t : TypeId} (l : List Value) (e : b = W.heap.size) (ha : a = l.toArray) : Cl (W.alloc (.cells a t)) b l := by
  subst e; subst ha
  intro i hi
  rw [World.cell?_alloc_mark]
  simp [List.getD, List.getElem?_eq_getElem hi]

theorem cell_far {w : World} {b i b' i' : Nat} {u v : Value} (h : w.cell? ⟨b, i, none⟩ = some v) (ne : b' ≠ b) : (w.setCell ⟨b', i', none⟩ u).cell? ⟨b, i, none⟩ = some v := by
  rw [World.cell?_setCell_far _ _ _ _ ne]; exact h

/-- A point in a block. -/
def Pnt (W : World) (b : Nat) (x y : Int) (i : Bool) : Prop := Cl W b [.int .u64 (l0 x), .int .u64 (l1 x), .int .u64 (l2 x), .int .u64 (l3 x), .int .u64 (l0 y), .int .u64 (l1 y), .int .u64 (l2 y), .int .u64 (l3 y), .bool i]
theorem Pnt.lt {W : World} {b : Nat} {x y : Int} {i : Bool} (h : Pnt W b x y i) : b < W.heap.size := Cl.lt h (by simp)
theorem Pnt.keep {W w1 : World} {b : Nat} {x y : Int} {i : Bool} (h : Pnt W b x y i) (hb : Below W.heap.size W w1) : Pnt w1 b x y i := Cl.keep h hb
theorem Pnt.alloc {W : World} {b : Nat} {x y : Int} {i : Bool} (h : Pnt W b x y i) (o : Obj) : Pnt (W.alloc o) b x y i := Cl.alloc h o
theorem Pnt.cells {W : World} {b : Nat} {x y : Int} {i : Bool} (h : Pnt W b x y i) :
    W.cell? ⟨b, 0, none⟩ = some (.int .u64 (l0 x)) ∧ W.cell? ⟨b, 1, none⟩ = some (.int .u64 (l1 x)) ∧ W.cell? ⟨b, 2, none⟩ = some (.int .u64 (l2 x)) ∧ W.cell? ⟨b, 3, none⟩ = some (.int .u64 (l3 x)) ∧ W.cell? ⟨b, 4, none⟩ = some (.int .u64 (l0 y)) ∧ W.cell? ⟨b, 5, none⟩ = some (.int .u64 (l1 y)) ∧ W.cell? ⟨b, 6, none⟩ = some (.int .u64 (l2 y)) ∧ W.cell? ⟨b, 7, none⟩ = some (.int .u64 (l3 y)) ∧ W.cell? ⟨b, 8, none⟩ = some (.bool i) := ⟨h 0 (by simp), h 1 (by simp), h 2 (by simp), h 3 (by simp), h 4 (by simp), h 5 (by simp), h 6 (by simp), h 7 (by simp), h 8 (by simp)⟩
theorem Pnt.new {W : World} {b : Nat} {t : TypeId} {x y : Int} {i : Bool} (e : b = W.heap.size) : Pnt (W.alloc (.cells #[.int .u64 (l0 x), .int .u64 (l1 x), .int .u64 (l2 x), .int .u64 (l3 x), .int .u64 (l0 y), .int .u64 (l1 y), .int .u64 (l2 y), .int .u64 (l3 y), .bool i] t)) b x y i := Cl.new _ e rfl
theorem Pnt.grown {W : World} {b : Nat} {x y : Int} {i : Bool} (h : Pnt W b x y i) : ∀ d os,
    (grow (redrawn W d) os).cell? ⟨b, 0, none⟩ = some (.int .u64 (l0 x)) ∧ (grow (redrawn W d) os).cell? ⟨b, 1, none⟩ = some (.int .u64 (l1 x)) ∧ (grow (redrawn W d) os).cell? ⟨b, 2, none⟩ = some (.int .u64 (l2 x)) ∧ (grow (redrawn W d) os).cell? ⟨b, 3, none⟩ = some (.int .u64 (l3 x)) ∧ (grow (redrawn W d) os).cell? ⟨b, 4, none⟩ = some (.int .u64 (l0 y)) ∧ (grow (redrawn W d) os).cell? ⟨b, 5, none⟩ = some (.int .u64 (l1 y)) ∧ (grow (redrawn W d) os).cell? ⟨b, 6, none⟩ = some (.int .u64 (l2 y)) ∧ (grow (redrawn W d) os).cell? ⟨b, 7, none⟩ = some (.int .u64 (l3 y)) ∧ (grow (redrawn W d) os).cell? ⟨b, 8, none⟩ = some (.bool i) := fun d os => (h.keep (below_regrown W d os)).cells

/-- Three numbers in a block. -/
def Thr (W : World) (b : Nat) (x y z : Int) : Prop := Cl W b [.int .u64 (l0 x), .int .u64 (l1 x), .int .u64 (l2 x), .int .u64 (l3 x), .int .u64 (l0 y), .int .u64 (l1 y), .int .u64 (l2 y), .int .u64 (l3 y), .int .u64 (l0 z), .int .u64 (l1 z), .int .u64 (l2 z), .int .u64 (l3 z)]
theorem Thr.lt {W : World} {b : Nat} {x y z : Int} (h : Thr W b x y z) : b < W.heap.size := Cl.lt h (by simp)
theorem Thr.keep {W w1 : World} {b : Nat} {x y z : Int} (h : Thr W b x y z) (hb : Below W.heap.size W w1) : Thr w1 b x y z := Cl.keep h hb
theorem Thr.alloc {W : World} {b : Nat} {x y z : Int} (h : Thr W b x y z) (o : Obj) : Thr (W.alloc o) b x y z := Cl.alloc h o
theorem Thr.cells {W : World} {b : Nat} {x y z : Int} (h : Thr W b x y z) :
    W.cell? ⟨b, 0, none⟩ = some (.int .u64 (l0 x)) ∧ W.cell? ⟨b, 1, none⟩ = some (.int .u64 (l1 x)) ∧ W.cell? ⟨b, 2, none⟩ = some (.int .u64 (l2 x)) ∧ W.cell? ⟨b, 3, none⟩ = some (.int .u64 (l3 x)) ∧ W.cell? ⟨b, 4, none⟩ = some (.int .u64 (l0 y)) ∧ W.cell? ⟨b, 5, none⟩ = some (.int .u64 (l1 y)) ∧ W.cell? ⟨b, 6, none⟩ = some (.int .u64 (l2 y)) ∧ W.cell? ⟨b, 7, none⟩ = some (.int .u64 (l3 y)) ∧ W.cell? ⟨b, 8, none⟩ = some (.int .u64 (l0 z)) ∧ W.cell? ⟨b, 9, none⟩ = some (.int .u64 (l1 z)) ∧ W.cell? ⟨b, 10, none⟩ = some (.int .u64 (l2 z)) ∧ W.cell? ⟨b, 11, none⟩ = some (.int .u64 (l3 z)) := ⟨h 0 (by simp), h 1 (by simp), h 2 (by simp), h 3 (by simp), h 4 (by simp), h 5 (by simp), h 6 (by simp), h 7 (by simp), h 8 (by simp), h 9 (by simp), h 10 (by simp), h 11 (by simp)⟩
theorem Thr.new {W : World} {b : Nat} {t : TypeId} {x y z : Int} (e : b = W.heap.size) : Thr (W.alloc (.cells #[.int .u64 (l0 x), .int .u64 (l1 x), .int .u64 (l2 x), .int .u64 (l3 x), .int .u64 (l0 y), .int .u64 (l1 y), .int .u64 (l2 y), .int .u64 (l3 y), .int .u64 (l0 z), .int .u64 (l1 z), .int .u64 (l2 z), .int .u64 (l3 z)] t)) b x y z := Cl.new _ e rfl
theorem Thr.grown {W : World} {b : Nat} {x y z : Int} (h : Thr W b x y z) : ∀ d os,
    (grow (redrawn W d) os).cell? ⟨b, 0, none⟩ = some (.int .u64 (l0 x)) ∧ (grow (redrawn W d) os).cell? ⟨b, 1, none⟩ = some (.int .u64 (l1 x)) ∧ (grow (redrawn W d) os).cell? ⟨b, 2, none⟩ = some (.int .u64 (l2 x)) ∧ (grow (redrawn W d) os).cell? ⟨b, 3, none⟩ = some (.int .u64 (l3 x)) ∧ (grow (redrawn W d) os).cell? ⟨b, 4, none⟩ = some (.int .u64 (l0 y)) ∧ (grow (redrawn W d) os).cell? ⟨b, 5, none⟩ = some (.int .u64 (l1 y)) ∧ (grow (redrawn W d) os).cell? ⟨b, 6, none⟩ = some (.int .u64 (l2 y)) ∧ (grow (redrawn W d) os).cell? ⟨b, 7, none⟩ = some (.int .u64 (l3 y)) ∧ (grow (redrawn W d) os).cell? ⟨b, 8, none⟩ = some (.int .u64 (l0 z)) ∧ (grow (redrawn W d) os).cell? ⟨b, 9, none⟩ = some (.int .u64 (l1 z)) ∧ (grow (redrawn W d) os).cell? ⟨b, 10, none⟩ = some (.int .u64 (l2 z)) ∧ (grow (redrawn W d) os).cell? ⟨b, 11, none⟩ = some (.int .u64 (l3 z)) := fun d os => (h.keep (below_regrown W d os)).cells
theorem Pnt.set4 {W : World} {b b' : Nat} {x y : Int} {i : Bool} (h : Pnt W b x y i) (ne : b' ≠ b) (v0 v1 v2 v3 : Value) : Pnt ((((W.setCell ⟨b', 0, none⟩ v0).setCell ⟨b', 1, none⟩ v1).setCell ⟨b', 2, none⟩ v2).setCell ⟨b', 3, none⟩ v3) b x y i :=
  Cl.set (Cl.set (Cl.set (Cl.set h ne v0) ne v1) ne v2) ne v3
theorem Thr.set4 {W : World} {b b' : Nat} {x y z : Int} (h : Thr W b x y z) (ne : b' ≠ b) (v0 v1 v2 v3 : Value) : Thr ((((W.setCell ⟨b', 0, none⟩ v0).setCell ⟨b', 1, none⟩ v1).setCell ⟨b', 2, none⟩ v2).setCell ⟨b', 3, none⟩ v3) b x y z :=
  Cl.set (Cl.set (Cl.set (Cl.set h ne v0) ne v1) ne v2) ne v3

/-- A block of 9 cells as it is laid, that may be written. -/
def Bk9 (W : World) (b : Nat) : Prop := Cl W b [.int .u64 0, .int .u64 0, .int .u64 0, .int .u64 0, .int .u64 0, .int .u64 0, .int .u64 0, .int .u64 0, .bool false] ∧ Loose W b 9
theorem Bk9.lt {W : World} {b : Nat} (h : Bk9 W b) : b < W.heap.size := Cl.lt h.1 (by simp)
theorem Bk9.keep {W w1 : World} {b : Nat} (h : Bk9 W b) (hb : Below W.heap.size W w1) : Bk9 w1 b := ⟨h.1.keep hb, h.2.keep hb h.lt⟩
theorem Bk9.alloc {W : World} {b : Nat} (h : Bk9 W b) (o : Obj) : Bk9 (W.alloc o) b := h.keep ((Below.refl _ _).alloc (Nat.le_refl _) o)
theorem Bk9.set4 {W : World} {b b' : Nat} (h : Bk9 W b) (ne : b' ≠ b) (v0 v1 v2 v3 : Value) : Bk9 ((((W.setCell ⟨b', 0, none⟩ v0).setCell ⟨b', 1, none⟩ v1).setCell ⟨b', 2, none⟩ v2).setCell ⟨b', 3, none⟩ v3) b :=
  ⟨Cl.set (Cl.set (Cl.set (Cl.set h.1 ne v0) ne v1) ne v2) ne v3, (((h.2.set _ _).set _ _).set _ _).set _ _⟩
theorem Bk9.cells {W : World} {b : Nat} (h : Bk9 W b) : W.cell? ⟨b, 0, none⟩ = some (.int .u64 0) ∧ W.cell? ⟨b, 1, none⟩ = some (.int .u64 0) ∧ W.cell? ⟨b, 2, none⟩ = some (.int .u64 0) ∧ W.cell? ⟨b, 3, none⟩ = some (.int .u64 0) ∧ W.cell? ⟨b, 4, none⟩ = some (.int .u64 0) ∧ W.cell? ⟨b, 5, none⟩ = some (.int .u64 0) ∧ W.cell? ⟨b, 6, none⟩ = some (.int .u64 0) ∧ W.cell? ⟨b, 7, none⟩ = some (.int .u64 0) ∧ W.cell? ⟨b, 8, none⟩ = some (.bool false) := ⟨h.1 0 (by simp), h.1 1 (by simp), h.1 2 (by simp), h.1 3 (by simp), h.1 4 (by simp), h.1 5 (by simp), h.1 6 (by simp), h.1 7 (by simp), h.1 8 (by simp)⟩
theorem Bk9.free {W : World} {b : Nat} (h : Bk9 W b) : W.frozen? ⟨b, 0, none⟩ = false ∧ W.frozen? ⟨b, 1, none⟩ = false ∧ W.frozen? ⟨b, 2, none⟩ = false ∧ W.frozen? ⟨b, 3, none⟩ = false ∧ W.frozen? ⟨b, 4, none⟩ = false ∧ W.frozen? ⟨b, 5, none⟩ = false ∧ W.frozen? ⟨b, 6, none⟩ = false ∧ W.frozen? ⟨b, 7, none⟩ = false ∧ W.frozen? ⟨b, 8, none⟩ = false := ⟨h.2 0 (by decide), h.2 1 (by decide), h.2 2 (by decide), h.2 3 (by decide), h.2 4 (by decide), h.2 5 (by decide), h.2 6 (by decide), h.2 7 (by decide), h.2 8 (by decide)⟩
theorem Bk9.new {W : World} {b : Nat} {t : TypeId} (e : b = W.heap.size) : Bk9 (W.alloc (.cells #[.int .u64 0, .int .u64 0, .int .u64 0, .int .u64 0, .int .u64 0, .int .u64 0, .int .u64 0, .int .u64 0, .bool false] t)) b := ⟨Cl.new _ e rfl, by subst e; exact Loose.new _ _ _ _⟩

/-- A block of 12 cells as it is laid, that may be written. -/
def Bk12 (W : World) (b : Nat) : Prop := Cl W b [.int .u64 0, .int .u64 0, .int .u64 0, .int .u64 0, .int .u64 0, .int .u64 0, .int .u64 0, .int .u64 0, .int .u64 0, .int .u64 0, .int .u64 0, .int .u64 0] ∧ Loose W b 12
theorem Bk12.lt {W : World} {b : Nat} (h : Bk12 W b) : b < W.heap.size := Cl.lt h.1 (by simp)
theorem Bk12.keep {W w1 : World} {b : Nat} (h : Bk12 W b) (hb : Below W.heap.size W w1) : Bk12 w1 b := ⟨h.1.keep hb, h.2.keep hb h.lt⟩
theorem Bk12.alloc {W : World} {b : Nat} (h : Bk12 W b) (o : Obj) : Bk12 (W.alloc o) b := h.keep ((Below.refl _ _).alloc (Nat.le_refl _) o)
theorem Bk12.set4 {W : World} {b b' : Nat} (h : Bk12 W b) (ne : b' ≠ b) (v0 v1 v2 v3 : Value) : Bk12 ((((W.setCell ⟨b', 0, none⟩ v0).setCell ⟨b', 1, none⟩ v1).setCell ⟨b', 2, none⟩ v2).setCell ⟨b', 3, none⟩ v3) b :=
  ⟨Cl.set (Cl.set (Cl.set (Cl.set h.1 ne v0) ne v1) ne v2) ne v3, (((h.2.set _ _).set _ _).set _ _).set _ _⟩
theorem Bk12.cells {W : World} {b : Nat} (h : Bk12 W b) : W.cell? ⟨b, 0, none⟩ = some (.int .u64 0) ∧ W.cell? ⟨b, 1, none⟩ = some (.int .u64 0) ∧ W.cell? ⟨b, 2, none⟩ = some (.int .u64 0) ∧ W.cell? ⟨b, 3, none⟩ = some (.int .u64 0) ∧ W.cell? ⟨b, 4, none⟩ = some (.int .u64 0) ∧ W.cell? ⟨b, 5, none⟩ = some (.int .u64 0) ∧ W.cell? ⟨b, 6, none⟩ = some (.int .u64 0) ∧ W.cell? ⟨b, 7, none⟩ = some (.int .u64 0) ∧ W.cell? ⟨b, 8, none⟩ = some (.int .u64 0) ∧ W.cell? ⟨b, 9, none⟩ = some (.int .u64 0) ∧ W.cell? ⟨b, 10, none⟩ = some (.int .u64 0) ∧ W.cell? ⟨b, 11, none⟩ = some (.int .u64 0) := ⟨h.1 0 (by simp), h.1 1 (by simp), h.1 2 (by simp), h.1 3 (by simp), h.1 4 (by simp), h.1 5 (by simp), h.1 6 (by simp), h.1 7 (by simp), h.1 8 (by simp), h.1 9 (by simp), h.1 10 (by simp), h.1 11 (by simp)⟩
theorem Bk12.free {W : World} {b : Nat} (h : Bk12 W b) : W.frozen? ⟨b, 0, none⟩ = false ∧ W.frozen? ⟨b, 1, none⟩ = false ∧ W.frozen? ⟨b, 2, none⟩ = false ∧ W.frozen? ⟨b, 3, none⟩ = false ∧ W.frozen? ⟨b, 4, none⟩ = false ∧ W.frozen? ⟨b, 5, none⟩ = false ∧ W.frozen? ⟨b, 6, none⟩ = false ∧ W.frozen? ⟨b, 7, none⟩ = false ∧ W.frozen? ⟨b, 8, none⟩ = false ∧ W.frozen? ⟨b, 9, none⟩ = false ∧ W.frozen? ⟨b, 10, none⟩ = false ∧ W.frozen? ⟨b, 11, none⟩ = false := ⟨h.2 0 (by decide), h.2 1 (by decide), h.2 2 (by decide), h.2 3 (by decide), h.2 4 (by decide), h.2 5 (by decide), h.2 6 (by decide), h.2 7 (by decide), h.2 8 (by decide), h.2 9 (by decide), h.2 10 (by decide), h.2 11 (by decide)⟩
theorem Bk12.new {W : World} {b : Nat} {t : TypeId} (e : b = W.heap.size) : Bk12 (W.alloc (.cells #[.int .u64 0, .int .u64 0, .int .u64 0, .int .u64 0, .int .u64 0, .int .u64 0, .int .u64 0, .int .u64 0, .int .u64 0, .int .u64 0, .int .u64 0, .int .u64 0] t)) b := ⟨Cl.new _ e rfl, by subst e; exact Loose.new _ _ _ _⟩

end Go.Proofs.YtncpjgpioajbeaaGreatDoor
