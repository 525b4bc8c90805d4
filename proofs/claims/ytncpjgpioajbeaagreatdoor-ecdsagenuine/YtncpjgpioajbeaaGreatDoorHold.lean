import Derived.Test.YtncpjgpioajbeaaGreatDoorMul2
import Derived.Test.YtncpjgpioajbeaaGreatDoorAdd
import Derived.Lib.QuietBelow
import Derived.Deep.RegionHeld
import Derived.Test.YtncpjgpioajbeaaGreatDoorFNum
import Derived.Test.YtncpjgpioajbeaaGreatDoorTail
import Derived.LoopN
import Derived.Deep.RegionWith
namespace Go.Proofs.YtncpjgpioajbeaaGreatDoor
open Go.RowKit Go.Sort

/-- Block b holds the number n: four limbs. -/
def Hold (W : World) (b : Nat) (n : Int) : Prop :=
  W.cell? ⟨b, 0, none⟩ = some (.int .u64 (l0 n)) ∧ W.cell? ⟨b, 1, none⟩ = some (.int .u64 (l1 n)) ∧ W.cell? ⟨b, 2, none⟩ = some (.int .u64 (l2 n)) ∧ W.cell? ⟨b, 3, none⟩ = some (.int .u64 (l3 n))

theorem cell_keep {W w1 : World} {p : Addr} {v : Value} (hb : Below W.heap.size W w1) (h : W.cell? p = some v) : w1.cell? p = some v := by
  rw [hb.cell (World.block_lt_of_cell? W p h)]; exact h
theorem Hold.keep {W w1 : World} {b : Nat} {n : Int} (h : Hold W b n) (hb : Below W.heap.size W w1) : Hold w1 b n :=
  ⟨cell_keep hb h.1, cell_keep hb h.2.1, cell_keep hb h.2.2.1, cell_keep hb h.2.2.2⟩
theorem Hold.alloc {W : World} {b : Nat} {n : Int} (h : Hold W b n) (o : Obj) : Hold (W.alloc o) b n :=
  h.keep ((Below.refl _ _).alloc (Nat.le_refl _) o)
theorem Hold.drew {W : World} {b : Nat} {n : Int} (h : Hold W b n) : Hold W.drew b n := h
theorem Hold.new (W : World) (n : Int) (t : TypeId) : Hold (W.alloc (.cells #[.int .u64 (l0 n), .int .u64 (l1 n), .int .u64 (l2 n), .int .u64 (l3 n)] t)) W.heap.size n := by
  refine ⟨?_, ?_, ?_, ?_⟩ <;> simp [go_sem]
theorem Hold.grown {W : World} {b : Nat} {n : Int} (h : Hold W b n) : ∀ d os, (grow (redrawn W d) os).cell? ⟨b, 0, none⟩ = some (.int .u64 (l0 n)) ∧ (grow (redrawn W d) os).cell? ⟨b, 1, none⟩ = some (.int .u64 (l1 n)) ∧ (grow (redrawn W d) os).cell? ⟨b, 2, none⟩ = some (.int .u64 (l2 n)) ∧ (grow (redrawn W d) os).cell? ⟨b, 3, none⟩ = some (.int .u64 (l3 n)) :=
  fun d os => ⟨cell_regrown h.1 d os, cell_regrown h.2.1 d os, cell_regrown h.2.2.1 d os, cell_regrown h.2.2.2 d os⟩

theorem Hold.allocs {W : World} {b : Nat} {n : Int} (h : Hold W b n) : ∀ o, (W.alloc o).cell? ⟨b, 0, none⟩ = some (.int .u64 (l0 n)) ∧ (W.alloc o).cell? ⟨b, 1, none⟩ = some (.int .u64 (l1 n)) ∧ (W.alloc o).cell? ⟨b, 2, none⟩ = some (.int .u64 (l2 n)) ∧ (W.alloc o).cell? ⟨b, 3, none⟩ = some (.int .u64 (l3 n)) :=
  fun o => h.alloc o
theorem Hold.allocs2 {W : World} {b : Nat} {n : Int} (h : Hold W b n) : ∀ o o', ((W.alloc o).alloc o').cell? ⟨b, 0, none⟩ = some (.int .u64 (l0 n)) ∧ ((W.alloc o).alloc o').cell? ⟨b, 1, none⟩ = some (.int .u64 (l1 n)) ∧ ((W.alloc o).alloc o').cell? ⟨b, 2, none⟩ = some (.int .u64 (l2 n)) ∧ ((W.alloc o).alloc o').cell? ⟨b, 3, none⟩ = some (.int .u64 (l3 n)) :=
  fun o o' => (h.alloc o).alloc o'
theorem Hold.cells {W : World} {b : Nat} {n : Int} (h : Hold W b n) : W.cell? ⟨b, 0, none⟩ = some (.int .u64 (l0 n)) ∧ W.cell? ⟨b, 1, none⟩ = some (.int .u64 (l1 n)) ∧ W.cell? ⟨b, 2, none⟩ = some (.int .u64 (l2 n)) ∧ W.cell? ⟨b, 3, none⟩ = some (.int .u64 (l3 n)) := h

/-- The world under one name, with what is known of it. -/
theorem calls_world {P : Program} {f : FuncId} {args : Array Value} {w : World} {R : Ending → World → Prop} (S : World → Prop) (h : S w) (k : ∀ W, S W → Calls P f args W R) : Calls P f args w R := k w h
theorem wp_world {P : Program} {c : Code} {Q : Exit → Act → World → Prop} {a : Act} {w : World} (S : World → Prop) (h : S w) (k : ∀ W, S W → c.wp P Q a W) : c.wp P Q a w := k w h

end Go.Proofs.YtncpjgpioajbeaaGreatDoor

namespace Go.Proofs.YtncpjgpioajbeaaGreatDoor
open Go.RowKit

/-- Block b holds these limbs, from its first cell on. -/
def Row (W : World) (b : Nat) (l : List Int) : Prop := ∀ i, i < l.length → W.cell? ⟨b, i, none⟩ = some (.int .u64 (l.getD i 0))
/-- The first n cells of block b may be written. -/
def Loose (W : World) (b n : Nat) : Prop := ∀ i, i < n → W.frozen? ⟨b, i, none⟩ = false

theorem Row.lt {W : World} {b : Nat} {l : List Int} (h : Row W b l) (hl : 0 < l.length) : b < W.heap.size := World.block_lt_of_cell? W ⟨b, 0, none⟩ (h 0 hl)
theorem Row.keep {W w1 : World} {b : Nat} {l : List Int} (h : Row W b l) (hb : Below W.heap.size W w1) : Row w1 b l := fun i hi => cell_keep hb (h i hi)
theorem Loose.keep {W w1 : World} {b n : Nat} (h : Loose W b n) (hb : Below W.heap.size W w1) (hlt : b < W.heap.size) : Loose w1 b n := fun i hi => by rw [hb.frozen (p := ⟨b, i, none⟩) hlt]; exact h i hi
theorem Row.alloc {W : World} {b : Nat} {l : List Int} (h : Row W b l) (o : Obj) : Row (W.alloc o) b l := h.keep ((Below.refl _ _).alloc (Nat.le_refl _) o)
theorem Loose.alloc {W : World} {b n : Nat} (h : Loose W b n) (hlt : b < W.heap.size) (o : Obj) : Loose (W.alloc o) b n := h.keep ((Below.refl _ _).alloc (Nat.le_refl _) o) hlt
end Go.Proofs.YtncpjgpioajbeaaGreatDoor

namespace Go.Proofs.YtncpjgpioajbeaaGreatDoor
open Go.RowKit

theorem Row.new (W : World) (l : List Int) (t : TypeId) : Row (W.alloc (.cells (l.map (Value.int .u64)).toArray t)) W.heap.size l := by
  intro i hi
  rw [World.cell?_alloc_mark]
  simp [List.getElem?_map, List.getD, List.getElem?_eq_getElem hi]
theorem Loose.new (W : World) (cs : Array Value) (t : TypeId) (n : Nat) : Loose (W.alloc (.cells cs t)) W.heap.size n := fun i _ => by simp [go_sem]
theorem Row.set {W : World} {b : Nat} {l : List Int} (h : Row W b l) (i : Nat) (hi : i < l.length) (v : Int) : Row (W.setCell ⟨b, i, none⟩ (.int .u64 v)) b (l.set i v) := by
  intro j hj
  simp at hj
  by_cases e : i = j
  · subst e
    rw [World.cell?_setCell_same _ _ _ (h i hi)]
    simp [List.getD, hi]
  · have ne : (⟨b, i, none⟩ : Addr) ≠ ⟨b, j, none⟩ := by first | (simp; done) | (simp; omega)
    rw [World.cell?_setCell_other _ _ _ _ ne, h j hj]
    simp [List.getD, List.getElem?_set_ne e]
theorem Row.setOther {W : World} {b : Nat} {l : List Int} (h : Row W b l) {p : Addr} (hp : p.block ≠ b) (v : Value) : Row (W.setCell p v) b l := fun j hj => by
  rw [World.cell?_setCell_far _ _ _ _ hp]; exact h j hj
theorem Loose.set {W : World} {b n : Nat} (h : Loose W b n) (p : Addr) (v : Value) : Loose (W.setCell p v) b n := fun j hj => by rw [World.frozen?_setCell]; exact h j hj
theorem Row.drew {W : World} {b : Nat} {l : List Int} (h : Row W b l) : Row W.drew b l := h
theorem Loose.drew {W : World} {b n : Nat} (h : Loose W b n) : Loose W.drew b n := h

end Go.Proofs.YtncpjgpioajbeaaGreatDoor

namespace Go.Proofs.YtncpjgpioajbeaaGreatDoor
open Go.RowKit

theorem Hold.row {W : World} {b : Nat} {n : Int} (h : Hold W b n) : Row W b [l0 n, l1 n, l2 n, l3 n] := by
  intro i hi
  simp at hi
  match i, hi with
  | 0, _ => exact h.1
  | 1, _ => exact h.2.1
  | 2, _ => exact h.2.2.1
  | 3, _ => exact h.2.2.2
end Go.Proofs.YtncpjgpioajbeaaGreatDoor

namespace Go.Proofs.YtncpjgpioajbeaaGreatDoor
open Go.RowKit Go.Sort

/-- Ends normally, and so. -/
def OutQ (F : Act → World → Prop) : Exit → Act → World → Prop
  | .normal, a, w => F a w
  | _, _, _ => False

theorem OutQ.intro {F : Act → World → Prop} {a : Act} {w : World} (h : F a w) : OutQ F .normal a w := h

/-- A piece of code walked by itself: what holds behind it, then the rest. -/
theorem wp_out {P : Program} {c : Code} {Q : Exit → Act → World → Prop} {a : Act} {w : World} (F : Act → World → Prop) (h1 : c.wp P (OutQ F) a w) (h2 : ∀ a' w', F a' w' → Q .normal a' w') : c.wp P Q a w :=
  Code.wp_mono (fun e a' w' h => by cases e <;> first | exact h2 _ _ h | exact (h : False).elim) h1

theorem Hold.set {W : World} {b b' i : Nat} {n : Int} (h : Hold W b n) (ne : b' ≠ b) (v : Value) : Hold (W.setCell ⟨b', i, none⟩ v) b n := by
  refine ⟨?_, ?_, ?_, ?_⟩ <;> rw [World.cell?_setCell_far _ _ _ _ ne]
  · exact h.1
  · exact h.2.1
  · exact h.2.2.1
  · exact h.2.2.2
theorem Row.all4 {W : World} {b : Nat} {x0 x1 x2 x3 : Int} (h : Row W b [x0, x1, x2, x3]) : W.cell? ⟨b, 0, none⟩ = some (.int .u64 x0) ∧ W.cell? ⟨b, 1, none⟩ = some (.int .u64 x1) ∧ W.cell? ⟨b, 2, none⟩ = some (.int .u64 x2) ∧ W.cell? ⟨b, 3, none⟩ = some (.int .u64 x3) :=
  ⟨h 0 (by simp), h 1 (by simp), h 2 (by simp), h 3 (by simp)⟩
theorem Row.all8 {W : World} {b : Nat} {x0 x1 x2 x3 x4 x5 x6 x7 : Int} (h : Row W b [x0, x1, x2, x3, x4, x5, x6, x7]) : W.cell? ⟨b, 0, none⟩ = some (.int .u64 x0) ∧ W.cell? ⟨b, 1, none⟩ = some (.int .u64 x1) ∧ W.cell? ⟨b, 2, none⟩ = some (.int .u64 x2) ∧ W.cell? ⟨b, 3, none⟩ = some (.int .u64 x3) ∧ W.cell? ⟨b, 4, none⟩ = some (.int .u64 x4) ∧ W.cell? ⟨b, 5, none⟩ = some (.int .u64 x5) ∧ W.cell? ⟨b, 6, none⟩ = some (.int .u64 x6) ∧ W.cell? ⟨b, 7, none⟩ = some (.int .u64 x7) :=
  ⟨h 0 (by simp), h 1 (by simp), h 2 (by simp), h 3 (by simp), h 4 (by simp), h 5 (by simp), h 6 (by simp), h 7 (by simp)⟩
theorem Loose.all4 {W : World} {b : Nat} (h : Loose W b 4) : W.frozen? ⟨b, 0, none⟩ = false ∧ W.frozen? ⟨b, 1, none⟩ = false ∧ W.frozen? ⟨b, 2, none⟩ = false ∧ W.frozen? ⟨b, 3, none⟩ = false := ⟨h 0 (by simp), h 1 (by simp), h 2 (by simp), h 3 (by simp)⟩

/-- Block b has n cells. -/
def Has (W : World) (b n : Nat) : Prop := ∀ i, i < n → (W.cell? ⟨b, i, none⟩).isSome = true
theorem Has.keep {W w1 : World} {b n : Nat} (h : Has W b n) (hb : Below W.heap.size W w1) : Has w1 b n := fun i hi => by
  obtain ⟨v, hv⟩ := Option.isSome_iff_exists.1 (h i hi)
  rw [cell_keep hb hv]; rfl
theorem Has.alloc {W : World} {b n : Nat} (h : Has W b n) (o : Obj) : Has (W.alloc o) b n := h.keep ((Below.refl _ _).alloc (Nat.le_refl _) o)
theorem Has.drew {W : World} {b n : Nat} (h : Has W b n) : Has W.drew b n := h
theorem Has.fresh {W : World} {b n : Nat} {cs : Array Value} {t : TypeId} (hb : b = W.heap.size) (hn : n ≤ cs.size) : Has (W.alloc (.cells cs t)) b n := fun i hi => by
  subst hb
  rw [World.cell?_alloc_mark]
  simp
  omega
theorem Has.set {W : World} {b n : Nat} (h : Has W b n) (p : Addr) (v : Value) : Has (W.setCell p v) b n := fun i hi => by
  obtain ⟨u, hu⟩ := Option.isSome_iff_exists.1 (h i hi)
  by_cases e : p = ⟨b, i, none⟩
  · subst e; rw [World.cell?_setCell_same _ _ _ hu]; rfl
  · rw [World.cell?_setCell_other _ _ _ _ e, hu]; rfl
theorem Has.same {W : World} {b n i : Nat} (h : Has W b n) (hi : i < n) (v : Value) : (W.setCell ⟨b, i, none⟩ v).cell? ⟨b, i, none⟩ = some v := by
  obtain ⟨u, hu⟩ := Option.isSome_iff_exists.1 (h i hi)
  exact World.cell?_setCell_same _ _ _ hu
theorem cell_off {W : World} {b i j : Nat} {u v : Value} (h : W.cell? ⟨b, i, none⟩ = some v) (ne : j ≠ i) : (W.setCell ⟨b, j, none⟩ u).cell? ⟨b, i, none⟩ = some v := by
  rw [World.cell?_setCell_other _ _ _ _ (by intro e; injection e with _ e2; exact ne e2)]; exact h
theorem Row.fresh8 {W : World} {b : Nat} {x0 x1 x2 x3 x4 x5 x6 x7 : Int} {t : TypeId} (hb : b = W.heap.size) : Row (W.alloc (.cells #[.int .u64 x0, .int .u64 x1, .int .u64 x2, .int .u64 x3, .int .u64 x4, .int .u64 x5, .int .u64 x6, .int .u64 x7] t)) b [x0, x1, x2, x3, x4, x5, x6, x7] := by
  subst hb
  exact Row.new W [x0, x1, x2, x3, x4, x5, x6, x7] t
theorem Hold.fresh {W : World} {b : Nat} {n : Int} {t : TypeId} (hb : b = W.heap.size) : Hold (W.alloc (.cells #[.int .u64 (l0 n), .int .u64 (l1 n), .int .u64 (l2 n), .int .u64 (l3 n)] t)) b n := by
  subst hb
  exact Hold.new W n t
theorem Hold.sets4 {W : World} {b : Nat} {n : Int} (h : Has W b 4) : Hold ((((W.setCell ⟨b, 0, none⟩ (.int .u64 (l0 n))).setCell ⟨b, 1, none⟩ (.int .u64 (l1 n))).setCell ⟨b, 2, none⟩ (.int .u64 (l2 n))).setCell ⟨b, 3, none⟩ (.int .u64 (l3 n))) b n := by
  refine ⟨?_, ?_, ?_, ?_⟩ <;> repeat (first | (with_reducible refine cell_off ?_ (by decide)) | (with_reducible refine Has.same (n := 4) ?_ (by decide) _) | with_reducible exact h | with_reducible refine Has.set ?_ _ _)
theorem Hold.has {W : World} {b : Nat} {n : Int} (h : Hold W b n) : Has W b 4 := by
  obtain ⟨h0, h1, h2, h3⟩ := h
  intro i hi
  match i, hi with
  | 0, _ => rw [h0]; rfl
  | 1, _ => rw [h1]; rfl
  | 2, _ => rw [h2]; rfl
  | 3, _ => rw [h3]; rfl
/-- Four limbs written into a block: another block keeps its number. -/
theorem Hold.set4 {W : World} {b b' : Nat} {n : Int} (h : Hold W b n) (ne : b' ≠ b) (v0 v1 v2 v3 : Value) : Hold ((((W.setCell ⟨b', 0, none⟩ v0).setCell ⟨b', 1, none⟩ v1).setCell ⟨b', 2, none⟩ v2).setCell ⟨b', 3, none⟩ v3) b n :=
  (((h.set ne v0).set ne v1).set ne v2).set ne v3
theorem below_set4 {w W : World} {b' : Nat} (h : Below w.heap.size w W) (le : w.heap.size ≤ b') (v0 v1 v2 v3 : Value) : Below w.heap.size w ((((W.setCell ⟨b', 0, none⟩ v0).setCell ⟨b', 1, none⟩ v1).setCell ⟨b', 2, none⟩ v2).setCell ⟨b', 3, none⟩ v3) :=
  (((h.setCell le v0).setCell le v1).setCell le v2).setCell le v3
/-- Block b holds 0 and may be written. -/
def Blank (W : World) (b : Nat) : Prop := Row W b [0, 0, 0, 0] ∧ Loose W b 4
theorem Blank.keep {W w1 : World} {b : Nat} (h : Blank W b) (hb : Below W.heap.size W w1) : Blank w1 b := ⟨h.1.keep hb, h.2.keep hb (h.1.lt (by simp))⟩
theorem Blank.alloc {W : World} {b : Nat} (h : Blank W b) (o : Obj) : Blank (W.alloc o) b := h.keep ((Below.refl _ _).alloc (Nat.le_refl _) o)
theorem Blank.drew {W : World} {b : Nat} (h : Blank W b) : Blank W.drew b := h
theorem Blank.set {W : World} {b b' i : Nat} (h : Blank W b) (ne : b' ≠ b) (v : Value) : Blank (W.setCell ⟨b', i, none⟩ v) b := ⟨h.1.setOther ne v, h.2.set _ v⟩
theorem below_alloc {k : Nat} {w W : World} (e : w.heap.size = k) (h : Below k w W) (o : Obj) : Below k w (W.alloc o) := by subst e; exact h.alloc h.size o
theorem below_then {k : Nat} {w X w1 : World} (e : w.heap.size = k) (h : Below k w X) (hb : Below X.heap.size X w1) : Below k w w1 := by subst e; exact h.trans (hb.mono h.size)

end Go.Proofs.YtncpjgpioajbeaaGreatDoor

namespace Go.Proofs.YtncpjgpioajbeaaGreatDoor
open Go.RowKit

theorem Blank.new {W : World} {b : Nat} {t : TypeId} (e : b = W.heap.size) : Blank (W.alloc (.cells #[.int .u64 0, .int .u64 0, .int .u64 0, .int .u64 0] t)) b := by
  subst e; exact ⟨Row.new W [0, 0, 0, 0] t, Loose.new _ _ _ _⟩
theorem Blank.set4 {W : World} {b b' : Nat} (h : Blank W b) (ne : b' ≠ b) (v0 v1 v2 v3 : Value) : Blank ((((W.setCell ⟨b', 0, none⟩ v0).setCell ⟨b', 1, none⟩ v1).setCell ⟨b', 2, none⟩ v2).setCell ⟨b', 3, none⟩ v3) b :=
  (((h.set ne v0).set ne v1).set ne v2).set ne v3
/-- Block b holds the number n and may be written. -/
def Var (W : World) (b : Nat) (n : Int) : Prop := Hold W b n ∧ Loose W b 4
theorem Var.keep {W w1 : World} {b : Nat} {n : Int} (h : Var W b n) (hb : Below W.heap.size W w1) : Var w1 b n := ⟨h.1.keep hb, h.2.keep hb (h.1.row.lt (by simp))⟩
theorem Var.alloc {W : World} {b : Nat} {n : Int} (h : Var W b n) (o : Obj) : Var (W.alloc o) b n := h.keep ((Below.refl _ _).alloc (Nat.le_refl _) o)
theorem Var.new {W : World} {b : Nat} {n : Int} {t : TypeId} (e : b = W.heap.size) : Var (W.alloc (.cells #[.int .u64 (l0 n), .int .u64 (l1 n), .int .u64 (l2 n), .int .u64 (l3 n)] t)) b n := by
  subst e; exact ⟨Hold.new W n t, Loose.new _ _ _ _⟩
theorem Var.sets {W : World} {b : Nat} {n : Int} (h : Var W b n) (k : Int) : Var ((((W.setCell ⟨b, 0, none⟩ (.int .u64 (l0 k))).setCell ⟨b, 1, none⟩ (.int .u64 (l1 k))).setCell ⟨b, 2, none⟩ (.int .u64 (l2 k))).setCell ⟨b, 3, none⟩ (.int .u64 (l3 k))) b k :=
  ⟨Hold.sets4 h.1.has, (((h.2.set _ _).set _ _).set _ _).set _ _⟩
theorem Var.set4 {W : World} {b b' : Nat} {n : Int} (h : Var W b n) (ne : b' ≠ b) (v0 v1 v2 v3 : Value) : Var ((((W.setCell ⟨b', 0, none⟩ v0).setCell ⟨b', 1, none⟩ v1).setCell ⟨b', 2, none⟩ v2).setCell ⟨b', 3, none⟩ v3) b n :=
  ⟨h.1.set4 ne v0 v1 v2 v3, (((h.2.set _ _).set _ _).set _ _).set _ _⟩
end Go.Proofs.YtncpjgpioajbeaaGreatDoor

namespace Go.Proofs.YtncpjgpioajbeaaGreatDoor
open Go.RowKit

set_option maxHeartbeats 1000000 in
theorem once_any {m c n : Int} (hf : Fit m c) (hn : Num n) (w : World) :
    Calls Tryz.prog 87 #[.agg #[.int .u64 (l0 m), .int .u64 (l1 m), .int .u64 (l2 m), .int .u64 (l3 m), .int .u64 (l0 c), .int .u64 (l1 c), .int .u64 (l2 c), .int .u64 (l3 c)], .agg #[.int .u64 (l0 n), .int .u64 (l1 n), .int .u64 (l2 n), .int .u64 (l3 n)]] w fun e w' => e = .returned (.agg #[.int .u64 (l0 (modN m n)), .int .u64 (l1 (modN m n)), .int .u64 (l2 (modN m n)), .int .u64 (l3 (modN m n))]) ∧ Below w.heap.size w w' := by
  have hm := hf.num
  obtain ⟨q1, q2⟩ := once_num hf hn
  have key : (borN n m = 1 ∧ modN m n = n) ∨ (borN n m = 0 ∧ modN m n = difN n m) := by
    by_cases h : n < m
    · exact .inl ⟨by unfold borN; rw [if_pos h], q1 h⟩
    · exact .inr ⟨(q2 (by omega)).2, (q2 (by omega)).1⟩
  clear q1 q2
  rcases key with ⟨k1, k2⟩ | ⟨k1, k2⟩
  all_goals rw [k2]
  all_goals clear k2
  all_goals go_enter Tryz.func87, Tryz.ntmps87
  all_goals go_wp2_with fail
  all_goals refine calls_world (fun W => Below w.heap.size w W ∧ Hold W (w.heap.size + 1) n ∧ Blank W (w.heap.size + 1 + 1)) ⟨by repeat (first | with_reducible exact Below.refl _ _ | with_reducible refine Below.alloc ?_ (by first | omega | (simp; done) | (simp; omega)) _), (Hold.fresh (by simp)).alloc _, Blank.new (by simp)⟩ ?_
  all_goals rintro W ⟨B, hX, hR⟩
  all_goals have o1 : w.heap.size ≤ w.heap.size + 1 + 1 := by omega
  all_goals generalize w.heap.size + 1 + 1 = br at *
  all_goals generalize w.heap.size + 1 = bx at *
  all_goals with_reducible refine (sub_any hn hm _).mono ?_
  all_goals rintro e w1 ⟨rfl, hb⟩
  all_goals replace B := B.trans (hb.mono B.size)
  all_goals replace hR := hR.keep hb
  all_goals replace hX := hX.keep hb
  all_goals clear hb W
  all_goals have gX := hX.allocs
  all_goals have gR := fun o => (hR.alloc o).1.all4
  all_goals have fR := fun o => (hR.alloc o).2.all4
  all_goals have BB : Hid (∀ o, Below w.heap.size w (w1.alloc o)) := fun o => B.alloc B.size o
  all_goals clear B hX hR
  all_goals go_wp2
  all_goals simp [bodyPost, results, Tryz.results87, go_sem, *]
  all_goals repeat (first | with_reducible exact BB.out _ | with_reducible refine Below.drew ?_ | with_reducible refine Below.setCell ?_ (by with_reducible assumption) _)
end Go.Proofs.YtncpjgpioajbeaaGreatDoor

namespace Go.Proofs.YtncpjgpioajbeaaGreatDoor
open Go.RowKit Go.Sort

theorem post_world {Q : Exit → Act → World → Prop} {e : Exit} {a : Act} {w : World} (S : World → Prop) (h : S w) (k : ∀ W, S W → Q e a W) : Q e a w := k w h

set_option maxHeartbeats 1000000 in
theorem ffold_any {m c h l : Int} (hf : Fit m c) (hh : Num h) (hl : Num l) (w : World) :
    Calls Tryz.prog 131 #[.agg #[.int .u64 (l0 h), .int .u64 (l1 h), .int .u64 (l2 h), .int .u64 (l3 h)], .agg #[.int .u64 (l0 l), .int .u64 (l1 l), .int .u64 (l2 l), .int .u64 (l3 l)], .agg #[.int .u64 (l0 c), .int .u64 (l1 c), .int .u64 (l2 c), .int .u64 (l3 c)]] w fun e w' => e = .returned (.tuple #[.agg #[.int .u64 (l0 (foldH h l c)), .int .u64 (l1 (foldH h l c)), .int .u64 (l2 (foldH h l c)), .int .u64 (l3 (foldH h l c))], .agg #[.int .u64 (l0 (foldL h l c)), .int .u64 (l1 (foldL h l c)), .int .u64 (l2 (foldL h l c)), .int .u64 (l3 (foldL h l c))]]) ∧ Below w.heap.size w w' := by
  have hc := hf.numc
  obtain ⟨q1, q2, q3, q4⟩ := fold_num hf hh hl
  have M1 : Hid (∀ w, Calls Tryz.prog 115 #[.agg #[.int .u64 (l0 h), .int .u64 (l1 h), .int .u64 (l2 h), .int .u64 (l3 h)], .agg #[.int .u64 (l0 c), .int .u64 (l1 c), .int .u64 (l2 c), .int .u64 (l3 c)]] w fun e w' => e = .returned (.tuple #[.agg #[.int .u64 (l0 (hiN h c)), .int .u64 (l1 (hiN h c)), .int .u64 (l2 (hiN h c)), .int .u64 (l3 (hiN h c))], .agg #[.int .u64 (l0 (loN h c)), .int .u64 (l1 (loN h c)), .int .u64 (l2 (loN h c)), .int .u64 (l3 (loN h c))]]) ∧ Below w.heap.size w w') := mul_any hh hc
  have A1 : Hid (∀ w, Calls Tryz.prog 83 #[.agg #[.int .u64 (l0 (loN h c)), .int .u64 (l1 (loN h c)), .int .u64 (l2 (loN h c)), .int .u64 (l3 (loN h c))], .agg #[.int .u64 (l0 l), .int .u64 (l1 l), .int .u64 (l2 l), .int .u64 (l3 l)]] w fun e w' => e = .returned (.tuple #[.agg #[.int .u64 (l0 (foldL h l c)), .int .u64 (l1 (foldL h l c)), .int .u64 (l2 (foldL h l c)), .int .u64 (l3 (foldL h l c))], .int .u64 (carN (loN h c) l)]) ∧ Below w.heap.size w w') := fun w => by
    have := add_any (loN_Num h c) hl w; rw [q2] at this; exact this
  have F1 := from_any q4
  have nc : Num (carN (loN h c) l) := by obtain ⟨a, b⟩ := q4; exact ⟨a, by omega⟩
  have A2 : Hid (∀ w, Calls Tryz.prog 83 #[.agg #[.int .u64 (l0 (hiN h c)), .int .u64 (l1 (hiN h c)), .int .u64 (l2 (hiN h c)), .int .u64 (l3 (hiN h c))], .agg #[.int .u64 (l0 (carN (loN h c) l)), .int .u64 (l1 (carN (loN h c) l)), .int .u64 (l2 (carN (loN h c) l)), .int .u64 (l3 (carN (loN h c) l))]] w fun e w' => e = .returned (.tuple #[.agg #[.int .u64 (l0 (foldH h l c)), .int .u64 (l1 (foldH h l c)), .int .u64 (l2 (foldH h l c)), .int .u64 (l3 (foldH h l c))], .int .u64 (carN (hiN h c) (carN (loN h c) l))]) ∧ Below w.heap.size w w') := fun w => by
    have := add_any (hiN_Num hh hc) nc w; rw [q3] at this; exact this
  have F2 : Hid (∀ w, Calls Tryz.prog 84 #[.int .u64 (carN (loN h c) l)] w fun e w' => e = .returned (.agg #[.int .u64 (l0 (carN (loN h c) l)), .int .u64 (l1 (carN (loN h c) l)), .int .u64 (l2 (carN (loN h c) l)), .int .u64 (l3 (carN (loN h c) l))]) ∧ Below w.heap.size w w') := F1
  clear q1 q2 q3 q4 nc F1
  generalize hiN h c = H at *
  generalize loN h c = L at *
  generalize carN L l = C at *
  generalize carN H C = D at *
  generalize foldH h l c = R at *
  generalize foldL h l c = S at *
  go_enter Tryz.func131, Tryz.ntmps131
  go_wp2_with fail
  refine calls_world (fun W => Below w.heap.size w W ∧ Hold W (w.heap.size + 1) l ∧ Blank W (w.heap.size + 1 + 1 + 1) ∧ Blank W (w.heap.size + 1 + 1 + 1 + 1)) ⟨by repeat (first | with_reducible exact Below.refl _ _ | with_reducible refine Below.alloc ?_ (by first | omega | (simp; done) | (simp; omega)) _), (((Hold.fresh (by simp)).alloc _).alloc _).alloc _, (Blank.new (by simp)).alloc _, Blank.new (by simp)⟩ ?_
  rintro W ⟨B, hX, hR, hT⟩
  have o1 : w.heap.size ≤ w.heap.size + 1 + 1 + 1 := by omega
  have o2 : w.heap.size ≤ w.heap.size + 1 + 1 + 1 + 1 := by omega
  have rt : w.heap.size + 1 + 1 + 1 + 1 ≠ w.heap.size + 1 + 1 + 1 := by omega
  generalize w.heap.size + 1 + 1 + 1 + 1 = bt at *
  generalize w.heap.size + 1 + 1 + 1 = br at *
  generalize w.heap.size + 1 = bx at *
  with_reducible refine (M1.out _).mono ?_
  rintro e w1 ⟨rfl, hb⟩
  replace B := B.trans (hb.mono B.size)
  replace hR := hR.keep hb; replace hT := hT.keep hb; replace hX := hX.keep hb
  clear hb W
  have gX := hX.allocs2
  go_wp2_with fail
  have nr : w1.heap.size ≠ br := by have := hR.1.lt (by simp); omega
  have nt : w1.heap.size ≠ bt := by have := hT.1.lt (by simp); omega
  have os : w.heap.size ≤ w1.heap.size := B.size
  refine calls_world (fun W => Below w.heap.size w W ∧ Blank W br ∧ Blank W bt ∧ Var W w1.heap.size H) ⟨(B.alloc B.size _).alloc (by have := B.size; simp; omega) _, (hR.alloc _).alloc _, (hT.alloc _).alloc _, (Var.new rfl).alloc _⟩ ?_
  clear B hX hR hT gX
  rintro W ⟨B, hR, hT, hO⟩
  generalize w1.heap.size + 1 = bu at *
  generalize w1.heap.size = bo at *
  with_reducible refine (A1.out _).mono ?_
  rintro e w2 ⟨rfl, hb⟩
  replace B := B.trans (hb.mono B.size)
  replace hR := hR.keep hb; replace hT := hT.keep hb; replace hO := hO.keep hb
  clear hb W
  go_wp2_with fail
  have nrs : br ≠ w2.heap.size := by have := hR.1.lt (by simp); omega
  have nts : bt ≠ w2.heap.size := by have := hT.1.lt (by simp); omega
  have ns : bo ≠ w2.heap.size := by have := hO.1.row.lt (by simp); omega
  refine wp_world (fun W => Below w.heap.size w W ∧ Blank W br ∧ Blank W bt ∧ Var W bo H ∧ Hold W w2.heap.size S) ⟨B.alloc B.size _, hR.alloc _, hT.alloc _, hO.alloc _, Hold.new _ _ _⟩ ?_
  clear B hR hT hO
  rintro W ⟨B, hR, hT, hO, hS⟩
  generalize w2.heap.size = bs at *
  have gO := hO.1.cells; have fO := hO.2.all4; have gS := hS.cells; have gR := hR.1.all4; have fR := hR.2.all4; have gT := hT.1.all4; have fT := hT.2.all4
  have lo := World.block_lt_of_cell? W _ hO.1.1; have ls := World.block_lt_of_cell? W _ hS.1; have lr := hR.1.lt (by simp); have lt := hT.1.lt (by simp)
  have BB : Hid (Below w.heap.size w W) := B
  have geB := B.size
  have HO : Hid (Var W bo H) := hO
  have HS : Hid (Hold W bs S) := hS
  have HR : Hid (Blank W br) := hR
  have HT : Hid (Blank W bt) := hT
  clear B hO hS hR hT
  have nr' := nr.symm; have nt' := nt.symm; have ns' := ns.symm; have nrs' := nrs.symm; have nts' := nts.symm; have rt' := rt.symm
  have _ : bo < W.heap.size := by omega
  have _ : bo ≤ W.heap.size := by omega
  have _ : bo < W.heap.size + 1 := by omega
  have _ : bo < W.heap.size + 1 + 1 := by omega
  have _ : bo ≠ W.heap.size := by omega
  have _ : W.heap.size ≠ bo := by omega
  have _ : bo ≠ W.heap.size + 1 := by omega
  have _ : W.heap.size + 1 ≠ bo := by omega
  have _ : br < W.heap.size := by omega
  have _ : br ≤ W.heap.size := by omega
  have _ : br < W.heap.size + 1 := by omega
  have _ : br < W.heap.size + 1 + 1 := by omega
  have _ : br ≠ W.heap.size := by omega
  have _ : W.heap.size ≠ br := by omega
  have _ : br ≠ W.heap.size + 1 := by omega
  have _ : W.heap.size + 1 ≠ br := by omega
  have _ : bt < W.heap.size := by omega
  have _ : bt ≤ W.heap.size := by omega
  have _ : bt < W.heap.size + 1 := by omega
  have _ : bt < W.heap.size + 1 + 1 := by omega
  have _ : bt ≠ W.heap.size := by omega
  have _ : W.heap.size ≠ bt := by omega
  have _ : bt ≠ W.heap.size + 1 := by omega
  have _ : W.heap.size + 1 ≠ bt := by omega
  have _ : bs < W.heap.size := by omega
  have _ : bs ≤ W.heap.size := by omega
  have _ : bs < W.heap.size + 1 := by omega
  have _ : bs < W.heap.size + 1 + 1 := by omega
  have _ : bs ≠ W.heap.size := by omega
  have _ : W.heap.size ≠ bs := by omega
  have _ : bs ≠ W.heap.size + 1 := by omega
  have _ : W.heap.size + 1 ≠ bs := by omega
  have dz : W.drew.heap.size = W.heap.size := rfl
  clear gR fR gT fT gS
  go_region_with (first
      | (go_at_call 84; with_reducible refine (F2.out _).mono ?_; rintro e w1 ⟨rfl, hb1⟩; have hc1 := oldCells hb1; have hz1 := hb1.size; (try simp at hz1); (try (have := fun j => oldCells hb1 (W.heap.size) j (by first | omega | (simp; done) | (simp; omega)))); (try (have := fun j => oldCells hb1 (W.heap.size + 1) j (by first | omega | (simp; done) | (simp; omega)))); have _ : bo < w1.heap.size := (by omega); have _ : bo ≤ w1.heap.size := (by omega); have _ : bo < w1.heap.size + 1 := (by omega); have _ : bo < w1.heap.size + 1 + 1 := (by omega); have _ : bo ≠ w1.heap.size := (by omega); have _ : w1.heap.size ≠ bo := (by omega); have _ : bo ≠ w1.heap.size + 1 := (by omega); have _ : w1.heap.size + 1 ≠ bo := (by omega); have _ : br < w1.heap.size := (by omega); have _ : br ≤ w1.heap.size := (by omega); have _ : br < w1.heap.size + 1 := (by omega); have _ : br < w1.heap.size + 1 + 1 := (by omega); have _ : br ≠ w1.heap.size := (by omega); have _ : w1.heap.size ≠ br := (by omega); have _ : br ≠ w1.heap.size + 1 := (by omega); have _ : w1.heap.size + 1 ≠ br := (by omega); have _ : bt < w1.heap.size := (by omega); have _ : bt ≤ w1.heap.size := (by omega); have _ : bt < w1.heap.size + 1 := (by omega); have _ : bt < w1.heap.size + 1 + 1 := (by omega); have _ : bt ≠ w1.heap.size := (by omega); have _ : w1.heap.size ≠ bt := (by omega); have _ : bt ≠ w1.heap.size + 1 := (by omega); have _ : w1.heap.size + 1 ≠ bt := (by omega); have _ : bs < w1.heap.size := (by omega); have _ : bs ≤ w1.heap.size := (by omega); have _ : bs < w1.heap.size + 1 := (by omega); have _ : bs < w1.heap.size + 1 + 1 := (by omega); have _ : bs ≠ w1.heap.size := (by omega); have _ : w1.heap.size ≠ bs := (by omega); have _ : bs ≠ w1.heap.size + 1 := (by omega); have _ : w1.heap.size + 1 ≠ bs := (by omega); (try (have _ : W.heap.size < w1.heap.size := (by omega))); (try (have _ : W.heap.size ≤ w1.heap.size := (by omega))); (try (have _ : W.heap.size ≠ w1.heap.size := (by omega))); (try (have _ : w1.heap.size ≠ W.heap.size := (by omega))); (try (have _ : W.heap.size < w1.heap.size + 1 := (by omega))); (try (have _ : W.heap.size + 1 < w1.heap.size := (by omega))); (try (have _ : W.heap.size + 1 ≤ w1.heap.size := (by omega))); (try (have _ : W.heap.size + 1 ≠ w1.heap.size := (by omega))); (try (have _ : w1.heap.size ≠ W.heap.size + 1 := (by omega))); (try (have _ : W.heap.size + 1 < w1.heap.size + 1 := (by omega))))
      | (go_at_call 83; with_reducible refine (A2.out _).mono ?_; rintro e w2 ⟨rfl, hb2⟩; have hc2 := oldCells hb2; have hz2 := hb2.size; (try simp at hz2); (try (have := fun j => oldCells hb2 (W.heap.size) j (by first | omega | (simp; done) | (simp; omega)))); (try (have := fun j => oldCells hb2 (W.heap.size + 1) j (by first | omega | (simp; done) | (simp; omega)))); (try (have := fun j => oldCells hb2 (w1.heap.size) j (by first | omega | (simp; done) | (simp; omega)))); (try (have := fun j => oldCells hb2 (w1.heap.size + 1) j (by first | omega | (simp; done) | (simp; omega)))); have _ : bo < w2.heap.size := (by omega); have _ : bo ≤ w2.heap.size := (by omega); have _ : bo < w2.heap.size + 1 := (by omega); have _ : bo < w2.heap.size + 1 + 1 := (by omega); have _ : bo ≠ w2.heap.size := (by omega); have _ : w2.heap.size ≠ bo := (by omega); have _ : bo ≠ w2.heap.size + 1 := (by omega); have _ : w2.heap.size + 1 ≠ bo := (by omega); have _ : br < w2.heap.size := (by omega); have _ : br ≤ w2.heap.size := (by omega); have _ : br < w2.heap.size + 1 := (by omega); have _ : br < w2.heap.size + 1 + 1 := (by omega); have _ : br ≠ w2.heap.size := (by omega); have _ : w2.heap.size ≠ br := (by omega); have _ : br ≠ w2.heap.size + 1 := (by omega); have _ : w2.heap.size + 1 ≠ br := (by omega); have _ : bt < w2.heap.size := (by omega); have _ : bt ≤ w2.heap.size := (by omega); have _ : bt < w2.heap.size + 1 := (by omega); have _ : bt < w2.heap.size + 1 + 1 := (by omega); have _ : bt ≠ w2.heap.size := (by omega); have _ : w2.heap.size ≠ bt := (by omega); have _ : bt ≠ w2.heap.size + 1 := (by omega); have _ : w2.heap.size + 1 ≠ bt := (by omega); have _ : bs < w2.heap.size := (by omega); have _ : bs ≤ w2.heap.size := (by omega); have _ : bs < w2.heap.size + 1 := (by omega); have _ : bs < w2.heap.size + 1 + 1 := (by omega); have _ : bs ≠ w2.heap.size := (by omega); have _ : w2.heap.size ≠ bs := (by omega); have _ : bs ≠ w2.heap.size + 1 := (by omega); have _ : w2.heap.size + 1 ≠ bs := (by omega); (try (have _ : W.heap.size < w2.heap.size := (by omega))); (try (have _ : W.heap.size ≤ w2.heap.size := (by omega))); (try (have _ : W.heap.size ≠ w2.heap.size := (by omega))); (try (have _ : w2.heap.size ≠ W.heap.size := (by omega))); (try (have _ : W.heap.size < w2.heap.size + 1 := (by omega))); (try (have _ : W.heap.size + 1 < w2.heap.size := (by omega))); (try (have _ : W.heap.size + 1 ≤ w2.heap.size := (by omega))); (try (have _ : W.heap.size + 1 ≠ w2.heap.size := (by omega))); (try (have _ : w2.heap.size ≠ W.heap.size + 1 := (by omega))); (try (have _ : W.heap.size + 1 < w2.heap.size + 1 := (by omega))); (try (have _ : w1.heap.size < w2.heap.size := (by omega))); (try (have _ : w1.heap.size ≤ w2.heap.size := (by omega))); (try (have _ : w1.heap.size ≠ w2.heap.size := (by omega))); (try (have _ : w2.heap.size ≠ w1.heap.size := (by omega))); (try (have _ : w1.heap.size < w2.heap.size + 1 := (by omega))); (try (have _ : w1.heap.size + 1 < w2.heap.size := (by omega))); (try (have _ : w1.heap.size + 1 ≤ w2.heap.size := (by omega))); (try (have _ : w1.heap.size + 1 ≠ w2.heap.size := (by omega))); (try (have _ : w2.heap.size ≠ w1.heap.size + 1 := (by omega))); (try (have _ : w1.heap.size + 1 < w2.heap.size + 1 := (by omega)))))
  all_goals refine post_world (fun W => RowKit.Below w.heap.size w W ∧ Hold W bo R ∧ Hold W bs S ∧ Blank W br ∧ Blank W bt) ⟨?_, ?_, ?_, ?_, ?_⟩ ?_
  all_goals first | (rintro W ⟨B, hO, hS, hR, hT⟩) | skip
  all_goals try ((repeat (first | with_reducible exact BB.out | with_reducible exact HS.out | with_reducible exact HR.out | with_reducible exact HT.out | with_reducible refine Hold.sets4 ?_ | exact Has.keep (Has.keep (Has.drew HO.out.1.has) hb1) hb2 | with_reducible refine Has.keep ?_ hb2 | with_reducible refine Has.keep ?_ hb1 | with_reducible exact HO.out.1.has | with_reducible refine Has.drew ?_ | with_reducible refine Hold.set ?_ (by with_reducible assumption) _ | with_reducible refine Blank.set ?_ (by with_reducible assumption) _ | with_reducible refine Hold.drew ?_ | with_reducible refine Blank.drew ?_ | with_reducible refine Hold.keep ?_ hb2 | with_reducible refine Hold.keep ?_ hb1 | with_reducible refine Blank.keep ?_ hb2 | with_reducible refine Blank.keep ?_ hb1 | with_reducible refine Below.drew ?_ | with_reducible refine Below.setCell ?_ (by with_reducible assumption) _ | with_reducible refine Below.trans ?_ (Below.mono hb2 (by omega)) | with_reducible refine Below.trans ?_ (Below.mono hb1 (by omega)))); done)
  all_goals clear BB HO HS HR HT gO fO
  all_goals have gO := hO.cells
  all_goals have gS := hS.cells
  all_goals have gR := hR.1.all4
  all_goals have fR := hR.2.all4
  all_goals have gT := hT.1.all4
  all_goals have fT := hT.2.all4
  all_goals have BB : Hid (Below w.heap.size w W) := B
  all_goals clear B hO hS hR hT
  all_goals go_wp2
  all_goals (repeat (go_region; go_wp2))
  all_goals simp [bodyPost, results, Tryz.results131, go_sem, *]
  all_goals repeat (first | with_reducible exact BB.out | with_reducible refine Below.drew ?_ | with_reducible refine Below.setCell ?_ (by with_reducible assumption) _)
end Go.Proofs.YtncpjgpioajbeaaGreatDoor
