import Derived.Test.YtncpjgpioajbeaaGreatDoorRowHold
import Derived.Test.YtncpjgpioajbeaaGreatDoorCmp
import Derived.Test.YtncpjgpioajbeaaGreatDoorMul2
import Derived.Test.YtncpjgpioajbeaaGreatDoorOut
namespace Go.Proofs.YtncpjgpioajbeaaGreatDoor
open Go.RowKit

theorem Blank.new {W : World} {b : Nat} {t : TypeId} (e : b = W.heap.size) : Blank (W.alloc (.cells #[.int .u64 0, .int .u64 0, .int .u64 0, .int .u64 0] t)) b := by
  subst e; exact ⟨Row.new W [0, 0, 0, 0] t, Loose.new _ _ _ _⟩
theorem Blank.set4 {W : World} {b b' : Nat} (h : Blank W b) (ne : b' ≠ b) (v0 v1 v2 v3 : Value) : Blank ((((W.setCell ⟨b', 0, none⟩ v0).setCell ⟨b', 1, none⟩ v1).setCell ⟨b', 2, none⟩ v2).setCell ⟨b', 3, none⟩ v3) b :=
  (((h.set ne v0).set ne v1).set ne v2).set ne v3
/-- Block b holds the number n and may be written. -/
def Var (W : World) (b : Nat) (n : Int) : Prop := Hold W b n ∧ Loose W b 4
theorem Var.keep {W w1 : World} {b : Nat} {n : Int} (h : Var W b n) (hb : Below W.heap.size W w1) : Var w1 b n := ⟨h.1.keep hb, h.2.keep hb (h.1.row.lt (by simp))⟩
theorem Var.alloc {W : World} {b : Nat} {n : Int} (h : Var W b n) (o : Obj) : Var (W.alloc o) b n := h.keep ((Below.refl _ _).alloc (Nat.le_refl _) o)
theorem Var.new {W : World} {b : Nat} {n : Int} {t : TypeId} (e : b = W.heap.size) : Var (W.alloc (.cells #[.int .u64 (l0 n), .int .u64 (l1 n), .int .u64 (l2 n), .int .u64 (l3 n)] t)) b n := by
  subst e; exact ⟨Hold.new W n t, Loose.new _ _ _ _⟩
theorem Var.sets {W : World} {b : Nat} {n : Int} (h : Var W b n) (k : Int) : Var ((((W.setCell ⟨b, 0, none⟩ (.int .u64 (l0 k))).setCell ⟨b, 1, none⟩ (.int .u64 (l1 k))).setCell ⟨b, 2, none⟩ (.int .u64 (l2 k))).setCell ⟨b, 3, none⟩ (.int .u64 (l3 k))) b k :=
  ⟨Hold.sets4 h.1.has, (((h.2.set _ _).set _ _).set _ _).set _ _⟩
theorem Var.set4 {W : World} {b b' : Nat} {n : Int} (h : Var W b n) (ne : b' ≠ b) (v0 v1 v2 v3 : Value) : Var ((((W.setCell ⟨b', 0, none⟩ v0).setCell ⟨b', 1, none⟩ v1).setCell ⟨b', 2, none⟩ v2).setCell ⟨b', 3, none⟩ v3) b n :=
  ⟨h.1.set4 ne v0 v1 v2 v3, (((h.2.set _ _).set _ _).set _ _).set _ _⟩
end Go.Proofs.YtncpjgpioajbeaaGreatDoor
