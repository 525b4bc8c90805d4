import Derived.Test.YtncpjgpioajbeaaGreatDoorMul2
import Derived.Test.YtncpjgpioajbeaaGreatDoorCmp
import Derived.Lib.QuietBelow
import Derived.Deep.RegionHeld
namespace Go.Proofs.YtncpjgpioajbeaaGreatDoor
open Go.RowKit Go.Sort

/-- Block b holds the number n: four limbs. -/
def Hold (W : World) (b : Nat) (n : Int) : Prop :=
  W.cell? ⟨b, 0, none⟩ = some (.int .u64 (l0 n)) ∧ W.cell? ⟨b, 1, none⟩ = some (.int .u64 (l1 n)) ∧ W.cell? ⟨b, 2, none⟩ = some (.int .u64 (l2 n)) ∧ W.cell? ⟨b, 3, none⟩ = some (.int .u64 (l3 n))

theorem cell_keep {W w1 : World} {p : Addr} {v : Value} (hb : Below W.heap.size W w1) (h : W.cell? p = some v) : w1.cell? p = some v := by
  rw [hb.cell (World.block_lt_of_cell? W p h)]; exact h
theorem Hold.keep {W w1 : World} {b : Nat} {n : Int} (h : Hold W b n) (hb : Below W.heap.size W w1) : Hold w1 b n :=
  ⟨cell_keep hb h.1, cell_keep hb h.2.1, cell_keep hb h.2.2.1, cell_keep hb h.2.2.2⟩
theorem Hold.alloc {W : World} {b : Nat} {n : Int} (h : Hold W b n) (o : Obj) : Hold (W.alloc o) b n :=
  h.keep ((Below.refl _ _).alloc (Nat.le_refl _) o)
theorem Hold.drew {W : World} {b : Nat} {n : Int} (h : Hold W b n) : Hold W.drew b n := h
theorem Hold.new (W : World) (n : Int) (t : TypeId) : Hold (W.alloc (.cells #[.int .u64 (l0 n), .int .u64 (l1 n), .int .u64 (l2 n), .int .u64 (l3 n)] t)) W.heap.size n := by
  refine ⟨?_, ?_, ?_, ?_⟩ <;> simp [go_sem]
theorem Hold.grown {W : World} {b : Nat} {n : Int} (h : Hold W b n) : ∀ d os, (grow (redrawn W d) os).cell? ⟨b, 0, none⟩ = some (.int .u64 (l0 n)) ∧ (grow (redrawn W d) os).cell? ⟨b, 1, none⟩ = some (.int .u64 (l1 n)) ∧ (grow (redrawn W d) os).cell? ⟨b, 2, none⟩ = some (.int .u64 (l2 n)) ∧ (grow (redrawn W d) os).cell? ⟨b, 3, none⟩ = some (.int .u64 (l3 n)) :=
  fun d os => ⟨cell_regrown h.1 d os, cell_regrown h.2.1 d os, cell_regrown h.2.2.1 d os, cell_regrown h.2.2.2 d os⟩

theorem Hold.allocs {W : World} {b : Nat} {n : Int} (h : Hold W b n) : ∀ o, (W.alloc o).cell? ⟨b, 0, none⟩ = some (.int .u64 (l0 n)) ∧ (W.alloc o).cell? ⟨b, 1, none⟩ = some (.int .u64 (l1 n)) ∧ (W.alloc o).cell? ⟨b, 2, none⟩ = some (.int .u64 (l2 n)) ∧ (W.alloc o).cell? ⟨b, 3, none⟩ = some (.int .u64 (l3 n)) :=
  fun o => h.alloc o
theorem Hold.allocs2 {W : World} {b : Nat} {n : Int} (h : Hold W b n) : ∀ o o', ((W.alloc o).alloc o').cell? ⟨b, 0, none⟩ = some (.int .u64 (l0 n)) ∧ ((W.alloc o).alloc o').cell? ⟨b, 1, none⟩ = some (.int .u64 (l1 n)) ∧ ((W.alloc o).alloc o').cell? ⟨b, 2, none⟩ = some (.int .u64 (l2 n)) ∧ ((W.alloc o).alloc o').cell? ⟨b, 3, none⟩ = some (.int .u64 (l3 n)) :=
  fun o o' => (h.alloc o).alloc o'
theorem Hold.cells {W : World} {b : Nat} {n : Int} (h : Hold W b n) : W.cell? ⟨b, 0, none⟩ = some (.int .u64 (l0 n)) ∧ W.cell? ⟨b, 1, none⟩ = some (.int .u64 (l1 n)) ∧ W.cell? ⟨b, 2, none⟩ = some (.int .u64 (l2 n)) ∧ W.cell? ⟨b, 3, none⟩ = some (.int .u64 (l3 n)) := h

/-- The world under one name, with what is known of it. -/
theorem calls_world {P : Program} {f : FuncId} {args : Array Value} {w : World} {R : Ending → World → Prop} (S : World → Prop) (h : S w) (k : ∀ W, S W → Calls P f args W R) : Calls P f args w R := k w h
theorem wp_world {P : Program} {c : Code} {Q : Exit → Act → World → Prop} {a : Act} {w : World} (S : World → Prop) (h : S w) (k : ∀ W, S W → c.wp P Q a W) : c.wp P Q a w := k w h

end Go.Proofs.YtncpjgpioajbeaaGreatDoor
