import Derived.Test.YtlpmphldmfefkaaDoorMul2
import Derived.Test.YtlpmphldmfefkaaDoorAdd
import Derived.Lib.QuietBelow
import Derived.Deep.RegionHeld
import Derived.Test.YtlpmphldmfefkaaDoorMulNum
import Derived.Test.YtlpmphldmfefkaaDoorTail
import Derived.LoopN
namespace Go.Proofs.YtlpmphldmfefkaaDoor
open Go.RowKit Go.Sort

/-- Block b holds the number n: four limbs. -/
def Hold (W : World) (b : Nat) (n : Int) : Prop :=
  W.cell? ⟨b, 0, none⟩ = some (.int .u64 (l0 n)) ∧ W.cell? ⟨b, 1, none⟩ = some (.int .u64 (l1 n)) ∧ W.cell? ⟨b, 2, none⟩ = some (.int .u64 (l2 n)) ∧ W.cell? ⟨b, 3, none⟩ = some (.int .u64 (l3 n))

theorem cell_keep {W w1 : World} {p : Addr} {v : Value} (hb : Below W.heap.size W w1) (h : W.cell? p = some v) : w1.cell? p = some v := by
  rw [hb.cell (World.block_lt_of_cell? W p h)]; exact h
theorem Hold.keep {W w1 : World} {b : Nat} {n : Int} (h : Hold W b n) (hb : Below W.heap.size W w1) : Hold w1 b n :=
  ⟨cell_keep hb h.1, cell_keep hb h.2.1, cell_keep hb h.2.2.1, cell_keep hb h.2.2.2⟩
theorem Hold.alloc {W : World} {b : Nat} {n : Int} (h : Hold W b n) (o : Obj) : Hold (W.alloc o) b n :=
  h.keep ((Below.refl _ _).alloc (Nat.le_refl _) o)
theorem Hold.new (W : World) (n : Int) (t : TypeId) : Hold (W.alloc (.cells #[.int .u64 (l0 n), .int .u64 (l1 n), .int .u64 (l2 n), .int .u64 (l3 n)] t)) W.heap.size n := by
  refine ⟨?_, ?_, ?_, ?_⟩ <;> simp [go_sem]
theorem Hold.grown {W : World} {b : Nat} {n : Int} (h : Hold W b n) : ∀ d os, (grow (redrawn W d) os).cell? ⟨b, 0, none⟩ = some (.int .u64 (l0 n)) ∧ (grow (redrawn W d) os).cell? ⟨b, 1, none⟩ = some (.int .u64 (l1 n)) ∧ (grow (redrawn W d) os).cell? ⟨b, 2, none⟩ = some (.int .u64 (l2 n)) ∧ (grow (redrawn W d) os).cell? ⟨b, 3, none⟩ = some (.int .u64 (l3 n)) :=
  fun d os => ⟨cell_regrown h.1 d os, cell_regrown h.2.1 d os, cell_regrown h.2.2.1 d os, cell_regrown h.2.2.2 d os⟩

theorem Hold.allocs {W : World} {b : Nat} {n : Int} (h : Hold W b n) : ∀ o, (W.alloc o).cell? ⟨b, 0, none⟩ = some (.int .u64 (l0 n)) ∧ (W.alloc o).cell? ⟨b, 1, none⟩ = some (.int .u64 (l1 n)) ∧ (W.alloc o).cell? ⟨b, 2, none⟩ = some (.int .u64 (l2 n)) ∧ (W.alloc o).cell? ⟨b, 3, none⟩ = some (.int .u64 (l3 n)) :=
  fun o => h.alloc o
theorem Hold.cells {W : World} {b : Nat} {n : Int} (h : Hold W b n) : W.cell? ⟨b, 0, none⟩ = some (.int .u64 (l0 n)) ∧ W.cell? ⟨b, 1, none⟩ = some (.int .u64 (l1 n)) ∧ W.cell? ⟨b, 2, none⟩ = some (.int .u64 (l2 n)) ∧ W.cell? ⟨b, 3, none⟩ = some (.int .u64 (l3 n)) := h

/-- The world under one name, with what is known of it. -/
theorem calls_world {P : Program} {f : FuncId} {args : Array Value} {w : World} {R : Ending → World → Prop} (S : World → Prop) (h : S w) (k : ∀ W, S W → Calls P f args W R) : Calls P f args w R := k w h
theorem wp_world {P : Program} {c : Code} {Q : Exit → Act → World → Prop} {a : Act} {w : World} (S : World → Prop) (h : S w) (k : ∀ W, S W → c.wp P Q a W) : c.wp P Q a w := k w h

end Go.Proofs.YtlpmphldmfefkaaDoor

namespace Go.Proofs.YtlpmphldmfefkaaDoor
open Go.RowKit

/-- Block b holds these limbs, from its first cell on. -/
def Row (W : World) (b : Nat) (l : List Int) : Prop := ∀ i, i < l.length → W.cell? ⟨b, i, none⟩ = some (.int .u64 (l.getD i 0))
/-- The first n cells of block b may be written. -/
def Loose (W : World) (b n : Nat) : Prop := ∀ i, i < n → W.frozen? ⟨b, i, none⟩ = false

theorem Row.lt {W : World} {b : Nat} {l : List Int} (h : Row W b l) (hl : 0 < l.length) : b < W.heap.size := World.block_lt_of_cell? W ⟨b, 0, none⟩ (h 0 hl)
theorem Row.keep {W w1 : World} {b : Nat} {l : List Int} (h : Row W b l) (hb : Below W.heap.size W w1) : Row w1 b l := fun i hi => cell_keep hb (h i hi)
theorem Loose.keep {W w1 : World} {b n : Nat} (h : Loose W b n) (hb : Below W.heap.size W w1) (hlt : b < W.heap.size) : Loose w1 b n := fun i hi => by rw [hb.frozen (p := ⟨b, i, none⟩) hlt]; exact h i hi
end Go.Proofs.YtlpmphldmfefkaaDoor

namespace Go.Proofs.YtlpmphldmfefkaaDoor
open Go.RowKit

theorem Row.new (W : World) (l : List Int) (t : TypeId) : Row (W.alloc (.cells (l.map (Value.int .u64)).toArray t)) W.heap.size l := by
  intro i hi
  rw [World.cell?_alloc_mark]
  simp [List.getElem?_map, List.getD, List.getElem?_eq_getElem hi]
theorem Loose.new (W : World) (cs : Array Value) (t : TypeId) (n : Nat) : Loose (W.alloc (.cells cs t)) W.heap.size n := fun i _ => by simp [go_sem]
theorem Row.set {W : World} {b : Nat} {l : List Int} (h : Row W b l) (i : Nat) (hi : i < l.length) (v : Int) : Row (W.setCell ⟨b, i, none⟩ (.int .u64 v)) b (l.set i v) := by
  intro j hj
  simp at hj
  by_cases e : i = j
  · subst e
    rw [World.cell?_setCell_same _ _ _ (h i hi)]
    simp [List.getD, hi]
  · have ne : (⟨b, i, none⟩ : Addr) ≠ ⟨b, j, none⟩ := by first | (simp; done) | (simp; omega)
    rw [World.cell?_setCell_other _ _ _ _ ne, h j hj]
    simp [List.getD, List.getElem?_set_ne e]
theorem Row.setOther {W : World} {b : Nat} {l : List Int} (h : Row W b l) {p : Addr} (hp : p.block ≠ b) (v : Value) : Row (W.setCell p v) b l := fun j hj => by
  rw [World.cell?_setCell_far _ _ _ _ hp]; exact h j hj
theorem Loose.set {W : World} {b n : Nat} (h : Loose W b n) (p : Addr) (v : Value) : Loose (W.setCell p v) b n := fun j hj => by rw [World.frozen?_setCell]; exact h j hj
end Go.Proofs.YtlpmphldmfefkaaDoor

namespace Go.Proofs.YtlpmphldmfefkaaDoor
open Go.RowKit

theorem Hold.row {W : World} {b : Nat} {n : Int} (h : Hold W b n) : Row W b [l0 n, l1 n, l2 n, l3 n] := by
  intro i hi
  simp at hi
  match i, hi with
  | 0, _ => exact h.1
  | 1, _ => exact h.2.1
  | 2, _ => exact h.2.2.1
  | 3, _ => exact h.2.2.2
theorem Row.hold {W : World} {b : Nat} {n : Int} (h : Row W b [l0 n, l1 n, l2 n, l3 n]) : Hold W b n := ⟨h 0 (by simp), h 1 (by simp), h 2 (by simp), h 3 (by simp)⟩
end Go.Proofs.YtlpmphldmfefkaaDoor

namespace Go.Proofs.YtlpmphldmfefkaaDoor
open Go.RowKit Go.Sort

theorem Hold.set {W : World} {b b' i : Nat} {n : Int} (h : Hold W b n) (ne : b' ≠ b) (v : Value) : Hold (W.setCell ⟨b', i, none⟩ v) b n := by
  refine ⟨?_, ?_, ?_, ?_⟩ <;> rw [World.cell?_setCell_far _ _ _ _ ne]
  · exact h.1
  · exact h.2.1
  · exact h.2.2.1
  · exact h.2.2.2
theorem Row.all4 {W : World} {b : Nat} {x0 x1 x2 x3 : Int} (h : Row W b [x0, x1, x2, x3]) : W.cell? ⟨b, 0, none⟩ = some (.int .u64 x0) ∧ W.cell? ⟨b, 1, none⟩ = some (.int .u64 x1) ∧ W.cell? ⟨b, 2, none⟩ = some (.int .u64 x2) ∧ W.cell? ⟨b, 3, none⟩ = some (.int .u64 x3) :=
  ⟨h 0 (by simp), h 1 (by simp), h 2 (by simp), h 3 (by simp)⟩
theorem Row.all8 {W : World} {b : Nat} {x0 x1 x2 x3 x4 x5 x6 x7 : Int} (h : Row W b [x0, x1, x2, x3, x4, x5, x6, x7]) : W.cell? ⟨b, 0, none⟩ = some (.int .u64 x0) ∧ W.cell? ⟨b, 1, none⟩ = some (.int .u64 x1) ∧ W.cell? ⟨b, 2, none⟩ = some (.int .u64 x2) ∧ W.cell? ⟨b, 3, none⟩ = some (.int .u64 x3) ∧ W.cell? ⟨b, 4, none⟩ = some (.int .u64 x4) ∧ W.cell? ⟨b, 5, none⟩ = some (.int .u64 x5) ∧ W.cell? ⟨b, 6, none⟩ = some (.int .u64 x6) ∧ W.cell? ⟨b, 7, none⟩ = some (.int .u64 x7) :=
  ⟨h 0 (by simp), h 1 (by simp), h 2 (by simp), h 3 (by simp), h 4 (by simp), h 5 (by simp), h 6 (by simp), h 7 (by simp)⟩
theorem Loose.all4 {W : World} {b : Nat} (h : Loose W b 4) : W.frozen? ⟨b, 0, none⟩ = false ∧ W.frozen? ⟨b, 1, none⟩ = false ∧ W.frozen? ⟨b, 2, none⟩ = false ∧ W.frozen? ⟨b, 3, none⟩ = false := ⟨h 0 (by simp), h 1 (by simp), h 2 (by simp), h 3 (by simp)⟩

/-- Block b has n cells. -/
def Has (W : World) (b n : Nat) : Prop := ∀ i, i < n → (W.cell? ⟨b, i, none⟩).isSome = true
theorem Has.set {W : World} {b n : Nat} (h : Has W b n) (p : Addr) (v : Value) : Has (W.setCell p v) b n := fun i hi => by
  obtain ⟨u, hu⟩ := Option.isSome_iff_exists.1 (h i hi)
  by_cases e : p = ⟨b, i, none⟩
  · subst e; rw [World.cell?_setCell_same _ _ _ hu]; rfl
  · rw [World.cell?_setCell_other _ _ _ _ e, hu]; rfl
theorem Has.same {W : World} {b n i : Nat} (h : Has W b n) (hi : i < n) (v : Value) : (W.setCell ⟨b, i, none⟩ v).cell? ⟨b, i, none⟩ = some v := by
  obtain ⟨u, hu⟩ := Option.isSome_iff_exists.1 (h i hi)
  exact World.cell?_setCell_same _ _ _ hu
theorem cell_off {W : World} {b i j : Nat} {u v : Value} (h : W.cell? ⟨b, i, none⟩ = some v) (ne : j ≠ i) : (W.setCell ⟨b, j, none⟩ u).cell? ⟨b, i, none⟩ = some v := by
  rw [World.cell?_setCell_other _ _ _ _ (by intro e; injection e with _ e2; exact ne e2)]; exact h
theorem Hold.fresh {W : World} {b : Nat} {n : Int} {t : TypeId} (hb : b = W.heap.size) : Hold (W.alloc (.cells #[.int .u64 (l0 n), .int .u64 (l1 n), .int .u64 (l2 n), .int .u64 (l3 n)] t)) b n := by
  subst hb
  exact Hold.new W n t
theorem Hold.sets4 {W : World} {b : Nat} {n : Int} (h : Has W b 4) : Hold ((((W.setCell ⟨b, 0, none⟩ (.int .u64 (l0 n))).setCell ⟨b, 1, none⟩ (.int .u64 (l1 n))).setCell ⟨b, 2, none⟩ (.int .u64 (l2 n))).setCell ⟨b, 3, none⟩ (.int .u64 (l3 n))) b n := by
  refine ⟨?_, ?_, ?_, ?_⟩ <;> repeat (first | (with_reducible refine cell_off ?_ (by decide)) | (with_reducible refine Has.same (n := 4) ?_ (by decide) _) | with_reducible exact h | with_reducible refine Has.set ?_ _ _)
theorem Hold.has {W : World} {b : Nat} {n : Int} (h : Hold W b n) : Has W b 4 := by
  obtain ⟨h0, h1, h2, h3⟩ := h
  intro i hi
  match i, hi with
  | 0, _ => rw [h0]; rfl
  | 1, _ => rw [h1]; rfl
  | 2, _ => rw [h2]; rfl
  | 3, _ => rw [h3]; rfl
/-- Four limbs written into a block: another block keeps its number. -/
theorem Hold.set4 {W : World} {b b' : Nat} {n : Int} (h : Hold W b n) (ne : b' ≠ b) (v0 v1 v2 v3 : Value) : Hold ((((W.setCell ⟨b', 0, none⟩ v0).setCell ⟨b', 1, none⟩ v1).setCell ⟨b', 2, none⟩ v2).setCell ⟨b', 3, none⟩ v3) b n :=
  (((h.set ne v0).set ne v1).set ne v2).set ne v3
theorem below_set4 {w W : World} {b' : Nat} (h : Below w.heap.size w W) (le : w.heap.size ≤ b') (v0 v1 v2 v3 : Value) : Below w.heap.size w ((((W.setCell ⟨b', 0, none⟩ v0).setCell ⟨b', 1, none⟩ v1).setCell ⟨b', 2, none⟩ v2).setCell ⟨b', 3, none⟩ v3) :=
  (((h.setCell le v0).setCell le v1).setCell le v2).setCell le v3
/-- Block b holds 0 and may be written. -/
def Blank (W : World) (b : Nat) : Prop := Row W b [0, 0, 0, 0] ∧ Loose W b 4
theorem Blank.keep {W w1 : World} {b : Nat} (h : Blank W b) (hb : Below W.heap.size W w1) : Blank w1 b := ⟨h.1.keep hb, h.2.keep hb (h.1.lt (by simp))⟩
theorem Blank.alloc {W : World} {b : Nat} (h : Blank W b) (o : Obj) : Blank (W.alloc o) b := h.keep ((Below.refl _ _).alloc (Nat.le_refl _) o)
theorem Blank.drew {W : World} {b : Nat} (h : Blank W b) : Blank W.drew b := h
theorem Blank.set {W : World} {b b' i : Nat} (h : Blank W b) (ne : b' ≠ b) (v : Value) : Blank (W.setCell ⟨b', i, none⟩ v) b := ⟨h.1.setOther ne v, h.2.set _ v⟩
end Go.Proofs.YtlpmphldmfefkaaDoor

namespace Go.Proofs.YtlpmphldmfefkaaDoor
open Go.RowKit

theorem Blank.new {W : World} {b : Nat} {t : TypeId} (e : b = W.heap.size) : Blank (W.alloc (.cells #[.int .u64 0, .int .u64 0, .int .u64 0, .int .u64 0] t)) b := by
  subst e; exact ⟨Row.new W [0, 0, 0, 0] t, Loose.new _ _ _ _⟩
theorem Blank.set4 {W : World} {b b' : Nat} (h : Blank W b) (ne : b' ≠ b) (v0 v1 v2 v3 : Value) : Blank ((((W.setCell ⟨b', 0, none⟩ v0).setCell ⟨b', 1, none⟩ v1).setCell ⟨b', 2, none⟩ v2).setCell ⟨b', 3, none⟩ v3) b :=
  (((h.set ne v0).set ne v1).set ne v2).set ne v3
/-- Block b holds the number n and may be written. -/
def Var (W : World) (b : Nat) (n : Int) : Prop := Hold W b n ∧ Loose W b 4
theorem Var.keep {W w1 : World} {b : Nat} {n : Int} (h : Var W b n) (hb : Below W.heap.size W w1) : Var w1 b n := ⟨h.1.keep hb, h.2.keep hb (h.1.row.lt (by simp))⟩
theorem Var.new {W : World} {b : Nat} {n : Int} {t : TypeId} (e : b = W.heap.size) : Var (W.alloc (.cells #[.int .u64 (l0 n), .int .u64 (l1 n), .int .u64 (l2 n), .int .u64 (l3 n)] t)) b n := by
  subst e; exact ⟨Hold.new W n t, Loose.new _ _ _ _⟩
theorem Var.sets {W : World} {b : Nat} {n : Int} (h : Var W b n) (k : Int) : Var ((((W.setCell ⟨b, 0, none⟩ (.int .u64 (l0 k))).setCell ⟨b, 1, none⟩ (.int .u64 (l1 k))).setCell ⟨b, 2, none⟩ (.int .u64 (l2 k))).setCell ⟨b, 3, none⟩ (.int .u64 (l3 k))) b k :=
  ⟨Hold.sets4 h.1.has, (((h.2.set _ _).set _ _).set _ _).set _ _⟩
theorem Var.set4 {W : World} {b b' : Nat} {n : Int} (h : Var W b n) (ne : b' ≠ b) (v0 v1 v2 v3 : Value) : Var ((((W.setCell ⟨b', 0, none⟩ v0).setCell ⟨b', 1, none⟩ v1).setCell ⟨b', 2, none⟩ v2).setCell ⟨b', 3, none⟩ v3) b n :=
  ⟨h.1.set4 ne v0 v1 v2 v3, (((h.2.set _ _).set _ _).set _ _).set _ _⟩
end Go.Proofs.YtlpmphldmfefkaaDoor
