import Derived.Test.YtleneapnjanbbaaDoorCTrs
import Derived.Test.YtleneapnjanbbaaDoorCLaid
import Derived.Test.YtleneapnjanbbaaDoorCBits
import Derived.Test.YtleneapnjanbbaaDoorCSumK
import Derived.Test.YtleneapnjanbbaaDoorQAlloc
namespace Go.Proofs.YtleneapnjanbbaaDoor
open Go.RowKit Go.Sort

/-- A number in a block. -/
def Nm (W : World) (b : Nat) (n : Int) : Prop := Cl W b [.int .u64 (l0 n), .int .u64 (l1 n), .int .u64 (l2 n), .int .u64 (l3 n)]
theorem Nm.keep {W w1 : World} {b : Nat} {n : Int} (h : Nm W b n) (hb : Below W.heap.size W w1) : Nm w1 b n := Cl.keep h hb
theorem Nm.cells {W : World} {b : Nat} {n : Int} (h : Nm W b n) : W.cell? ⟨b, 0, none⟩ = some (.int .u64 (l0 n)) ∧ W.cell? ⟨b, 1, none⟩ = some (.int .u64 (l1 n)) ∧ W.cell? ⟨b, 2, none⟩ = some (.int .u64 (l2 n)) ∧ W.cell? ⟨b, 3, none⟩ = some (.int .u64 (l3 n)) := ⟨h 0 (by simp), h 1 (by simp), h 2 (by simp), h 3 (by simp)⟩
theorem Nm.grown {W : World} {b : Nat} {n : Int} (h : Nm W b n) : ∀ d os, (grow (redrawn W d) os).cell? ⟨b, 0, none⟩ = some (.int .u64 (l0 n)) ∧ (grow (redrawn W d) os).cell? ⟨b, 1, none⟩ = some (.int .u64 (l1 n)) ∧ (grow (redrawn W d) os).cell? ⟨b, 2, none⟩ = some (.int .u64 (l2 n)) ∧ (grow (redrawn W d) os).cell? ⟨b, 3, none⟩ = some (.int .u64 (l3 n)) := fun d os => (h.keep (below_regrown W d os)).cells
theorem Nm.alloc {W : World} {b : Nat} {n : Int} (h : Nm W b n) (ob : Obj) : Nm (W.alloc ob) b n := h.keep ((Below.refl _ _).alloc (Nat.le_refl _) ob)
theorem Bk12.put {W : World} {b b' : Nat} (h : Bk12 W b) (ne : b' ≠ b) (x' y' z' : Int) : Bk12 (put12 W b' x' y' z') b := ⟨h.1.put ne x' y' z', by unfold put12; exact ((((((((((((h.2.set _ _).set _ _).set _ _).set _ _).set _ _).set _ _).set _ _).set _ _).set _ _).set _ _).set _ _).set _ _)⟩
theorem Cols.lt {W : World} (h : Cols W) : 0 < W.heap.size := World.block_lt_of_cell? W ⟨0, 0 + 0 * 9, none⟩ (h 0 (by decide)).1

theorem Pts.cells_put {W : World} {b o b' : Nat} {L : List PP} (h : Pts W b o L) (ne : b' ≠ b) (vs : List Value) (k : Nat) : Pts (W.setCells b' k vs) b o L := by
  induction vs generalizing W k with
  | nil => exact h
  | cons v r ih => exact ih (h.set ne v) (k + 1)

end Go.Proofs.YtleneapnjanbbaaDoor

namespace Go.Proofs.YtleneapnjanbbaaDoor
open Go.RowKit Go.Sort

theorem Cols.keep {W w1 : World} (h : Cols W) (hb : Below W.heap.size W w1) : Cols w1 := Pts.keep h hb
theorem Cols.alloc {W : World} (h : Cols W) (ob : Obj) : Cols (W.alloc ob) := Pts.alloc h ob
theorem Cols.put9 {W : World} {b' : Nat} {x' y' : Int} {j : Bool} (h : Cols W) (ne : b' ≠ 0) : Cols (Go.Proofs.YtleneapnjanbbaaDoor.put9 W b' x' y' j) := by
  unfold Go.Proofs.YtleneapnjanbbaaDoor.put9
  exact Pts.set (Pts.set (Pts.set (Pts.set (Pts.set (Pts.set (Pts.set (Pts.set (Pts.set h ne _) ne _) ne _) ne _) ne _) ne _) ne _) ne _) ne _
theorem Nm.lt {W : World} {b : Nat} {n : Int} (h : Nm W b n) : b < W.heap.size := Cl.lt h (by simp)
theorem Nm.put9 {W : World} {b b' : Nat} {n x' y' : Int} {j : Bool} (h : Nm W b n) (ne : b' ≠ b) : Nm (Go.Proofs.YtleneapnjanbbaaDoor.put9 W b' x' y' j) b n := by
  unfold Go.Proofs.YtleneapnjanbbaaDoor.put9
  exact Cl.set (Cl.set (Cl.set (Cl.set (Cl.set (Cl.set (Cl.set (Cl.set (Cl.set h ne _) ne _) ne _) ne _) ne _) ne _) ne _) ne _) ne _
def put4 (W : World) (b : Nat) (n : Int) : World := (((W.setCell ⟨b, 0, none⟩ (.int .u64 (l0 n))).setCell ⟨b, 1, none⟩ (.int .u64 (l1 n))).setCell ⟨b, 2, none⟩ (.int .u64 (l2 n))).setCell ⟨b, 3, none⟩ (.int .u64 (l3 n))
theorem Blank.put4 {W : World} {b : Nat} (h : Blank W b) (n : Int) : Nm (Go.Proofs.YtleneapnjanbbaaDoor.put4 W b n) b n := by
  obtain ⟨a0, a1, a2, a3⟩ := h.1.all4
  intro k hk
  have hk' : k < 4 := by simpa using hk
  have hc : k = 0 ∨ k = 1 ∨ k = 2 ∨ k = 3 := by omega
  unfold Go.Proofs.YtleneapnjanbbaaDoor.put4
  rcases hc with rfl | rfl | rfl | rfl <;> simp [go_sem, a0, a1, a2, a3]
theorem Pnt.put4 {W : World} {b b' : Nat} {x y n : Int} {i : Bool} (h : Pnt W b x y i) (ne : b' ≠ b) : Pnt (Go.Proofs.YtleneapnjanbbaaDoor.put4 W b' n) b x y i := by
  unfold Go.Proofs.YtleneapnjanbbaaDoor.put4
  exact Cl.set (Cl.set (Cl.set (Cl.set h ne _) ne _) ne _) ne _
theorem Nm.put4 {W : World} {b b' : Nat} {m n : Int} (h : Nm W b m) (ne : b' ≠ b) : Nm (Go.Proofs.YtleneapnjanbbaaDoor.put4 W b' n) b m := by
  unfold Go.Proofs.YtleneapnjanbbaaDoor.put4
  exact Cl.set (Cl.set (Cl.set (Cl.set h ne _) ne _) ne _) ne _
theorem Mds.put4 {W : World} {b' : Nat} {n : Int} (h : Mds W) (ne : b' ≠ 1) : Mds (Go.Proofs.YtleneapnjanbbaaDoor.put4 W b' n) := by
  unfold Go.Proofs.YtleneapnjanbbaaDoor.put4
  exact (((h.set ne _).set ne _).set ne _).set ne _
theorem Cols.put4 {W : World} {b' : Nat} {n : Int} (h : Cols W) (ne : b' ≠ 0) : Cols (Go.Proofs.YtleneapnjanbbaaDoor.put4 W b' n) := by
  unfold Go.Proofs.YtleneapnjanbbaaDoor.put4
  exact Pts.set (Pts.set (Pts.set (Pts.set h ne _) ne _) ne _) ne _
end Go.Proofs.YtleneapnjanbbaaDoor
