import Derived.Test.YtllfmlgnemkklaaDoorHold
import Derived.Test.YtllfmlgnemkklaaDoorCmp
import Derived.StillTail
import Derived.BigQuiet
import Derived.Below
import Derived.Test.YtllfmlgnemkklaaDoorMulNum
namespace Go.Proofs.YtllfmlgnemkklaaDoor
open Go.RowKit Go.Sort

theorem Hold.set {W : World} {b b' i : Nat} {n : Int} (h : Hold W b n) (ne : b' ≠ b) (v : Value) : Hold (W.setCell ⟨b', i, none⟩ v) b n := by
  refine ⟨?_, ?_, ?_, ?_⟩ <;> rw [World.cell?_setCell_far _ _ _ _ ne]
  · exact h.1
  · exact h.2.1
  · exact h.2.2.1
  · exact h.2.2.2
theorem Row.all4 {W : World} {b : Nat} {x0 x1 x2 x3 : Int} (h : Row W b [x0, x1, x2, x3]) : W.cell? ⟨b, 0, none⟩ = some (.int .u64 x0) ∧ W.cell? ⟨b, 1, none⟩ = some (.int .u64 x1) ∧ W.cell? ⟨b, 2, none⟩ = some (.int .u64 x2) ∧ W.cell? ⟨b, 3, none⟩ = some (.int .u64 x3) :=
  ⟨h 0 (by simp), h 1 (by simp), h 2 (by simp), h 3 (by simp)⟩
theorem Loose.all4 {W : World} {b : Nat} (h : Loose W b 4) : W.frozen? ⟨b, 0, none⟩ = false ∧ W.frozen? ⟨b, 1, none⟩ = false ∧ W.frozen? ⟨b, 2, none⟩ = false ∧ W.frozen? ⟨b, 3, none⟩ = false := ⟨h 0 (by simp), h 1 (by simp), h 2 (by simp), h 3 (by simp)⟩

/-- Block b has n cells. -/
def Has (W : World) (b n : Nat) : Prop := ∀ i, i < n → (W.cell? ⟨b, i, none⟩).isSome = true
theorem Has.set {W : World} {b n : Nat} (h : Has W b n) (p : Addr) (v : Value) : Has (W.setCell p v) b n := fun i hi => by
  obtain ⟨u, hu⟩ := Option.isSome_iff_exists.1 (h i hi)
  by_cases e : p = ⟨b, i, none⟩
  · subst e; rw [World.cell?_setCell_same _ _ _ hu]; rfl
  · rw [World.cell?_setCell_other _ _ _ _ e, hu]; rfl
theorem Has.same {W : World} {b n i : Nat} (h : Has W b n) (hi : i < n) (v : Value) : (W.setCell ⟨b, i, none⟩ v).cell? ⟨b, i, none⟩ = some v := by
  obtain ⟨u, hu⟩ := Option.isSome_iff_exists.1 (h i hi)
  exact World.cell?_setCell_same _ _ _ hu
theorem cell_off {W : World} {b i j : Nat} {u v : Value} (h : W.cell? ⟨b, i, none⟩ = some v) (ne : j ≠ i) : (W.setCell ⟨b, j, none⟩ u).cell? ⟨b, i, none⟩ = some v := by
  rw [World.cell?_setCell_other _ _ _ _ (by intro e; injection e with _ e2; exact ne e2)]; exact h
theorem Hold.fresh {W : World} {b : Nat} {n : Int} {t : TypeId} (hb : b = W.heap.size) : Hold (W.alloc (.cells #[.int .u64 (l0 n), .int .u64 (l1 n), .int .u64 (l2 n), .int .u64 (l3 n)] t)) b n := by
  subst hb
  exact Hold.new W n t
theorem Hold.sets4 {W : World} {b : Nat} {n : Int} (h : Has W b 4) : Hold ((((W.setCell ⟨b, 0, none⟩ (.int .u64 (l0 n))).setCell ⟨b, 1, none⟩ (.int .u64 (l1 n))).setCell ⟨b, 2, none⟩ (.int .u64 (l2 n))).setCell ⟨b, 3, none⟩ (.int .u64 (l3 n))) b n := by
  refine ⟨?_, ?_, ?_, ?_⟩ <;> repeat (first | (with_reducible refine cell_off ?_ (by decide)) | (with_reducible refine Has.same (n := 4) ?_ (by decide) _) | with_reducible exact h | with_reducible refine Has.set ?_ _ _)
theorem Hold.has {W : World} {b : Nat} {n : Int} (h : Hold W b n) : Has W b 4 := by
  obtain ⟨h0, h1, h2, h3⟩ := h
  intro i hi
  match i, hi with
  | 0, _ => rw [h0]; rfl
  | 1, _ => rw [h1]; rfl
  | 2, _ => rw [h2]; rfl
  | 3, _ => rw [h3]; rfl
/-- Four limbs written into a block: another block keeps its number. -/
theorem Hold.set4 {W : World} {b b' : Nat} {n : Int} (h : Hold W b n) (ne : b' ≠ b) (v0 v1 v2 v3 : Value) : Hold ((((W.setCell ⟨b', 0, none⟩ v0).setCell ⟨b', 1, none⟩ v1).setCell ⟨b', 2, none⟩ v2).setCell ⟨b', 3, none⟩ v3) b n :=
  (((h.set ne v0).set ne v1).set ne v2).set ne v3
theorem below_set4 {w W : World} {b' : Nat} (h : Below w.heap.size w W) (le : w.heap.size ≤ b') (v0 v1 v2 v3 : Value) : Below w.heap.size w ((((W.setCell ⟨b', 0, none⟩ v0).setCell ⟨b', 1, none⟩ v1).setCell ⟨b', 2, none⟩ v2).setCell ⟨b', 3, none⟩ v3) :=
  (((h.setCell le v0).setCell le v1).setCell le v2).setCell le v3
/-- Block b holds 0 and may be written. -/
def Blank (W : World) (b : Nat) : Prop := Row W b [0, 0, 0, 0] ∧ Loose W b 4
theorem Blank.keep {W w1 : World} {b : Nat} (h : Blank W b) (hb : Below W.heap.size W w1) : Blank w1 b := ⟨h.1.keep hb, h.2.keep hb (h.1.lt (by simp))⟩
theorem Blank.alloc {W : World} {b : Nat} (h : Blank W b) (o : Obj) : Blank (W.alloc o) b := h.keep ((Below.refl _ _).alloc (Nat.le_refl _) o)
theorem Blank.set {W : World} {b b' i : Nat} (h : Blank W b) (ne : b' ≠ b) (v : Value) : Blank (W.setCell ⟨b', i, none⟩ v) b := ⟨h.1.setOther ne v, h.2.set _ v⟩
end Go.Proofs.YtllfmlgnemkklaaDoor

namespace Go.Proofs.YtllfmlgnemkklaaDoor
open Go.RowKit

theorem Blank.new {W : World} {b : Nat} {t : TypeId} (e : b = W.heap.size) : Blank (W.alloc (.cells #[.int .u64 0, .int .u64 0, .int .u64 0, .int .u64 0] t)) b := by
  subst e; exact ⟨Row.new W [0, 0, 0, 0] t, Loose.new _ _ _ _⟩
theorem Blank.set4 {W : World} {b b' : Nat} (h : Blank W b) (ne : b' ≠ b) (v0 v1 v2 v3 : Value) : Blank ((((W.setCell ⟨b', 0, none⟩ v0).setCell ⟨b', 1, none⟩ v1).setCell ⟨b', 2, none⟩ v2).setCell ⟨b', 3, none⟩ v3) b :=
  (((h.set ne v0).set ne v1).set ne v2).set ne v3
/-- Block b holds the number n and may be written. -/
def Var (W : World) (b : Nat) (n : Int) : Prop := Hold W b n ∧ Loose W b 4
theorem Var.keep {W w1 : World} {b : Nat} {n : Int} (h : Var W b n) (hb : Below W.heap.size W w1) : Var w1 b n := ⟨h.1.keep hb, h.2.keep hb (h.1.row.lt (by simp))⟩
theorem Var.sets {W : World} {b : Nat} {n : Int} (h : Var W b n) (k : Int) : Var ((((W.setCell ⟨b, 0, none⟩ (.int .u64 (l0 k))).setCell ⟨b, 1, none⟩ (.int .u64 (l1 k))).setCell ⟨b, 2, none⟩ (.int .u64 (l2 k))).setCell ⟨b, 3, none⟩ (.int .u64 (l3 k))) b k :=
  ⟨Hold.sets4 h.1.has, (((h.2.set _ _).set _ _).set _ _).set _ _⟩
theorem Var.set4 {W : World} {b b' : Nat} {n : Int} (h : Var W b n) (ne : b' ≠ b) (v0 v1 v2 v3 : Value) : Var ((((W.setCell ⟨b', 0, none⟩ v0).setCell ⟨b', 1, none⟩ v1).setCell ⟨b', 2, none⟩ v2).setCell ⟨b', 3, none⟩ v3) b n :=
  ⟨h.1.set4 ne v0 v1 v2 v3, (((h.2.set _ _).set _ _).set _ _).set _ _⟩
end Go.Proofs.YtllfmlgnemkklaaDoor
