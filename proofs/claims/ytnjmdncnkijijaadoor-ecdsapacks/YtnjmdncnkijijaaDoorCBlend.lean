import Derived.Test.YtnjmdncnkijijaaDoorCTrs
import Derived.Test.YtnjmdncnkijijaaDoorCLaid
import Derived.Test.YtnjmdncnkijijaaDoorDivAny
import Derived.Test.YtnjmdncnkijijaaDoorCSumK
import Derived.Test.YtnjmdncnkijijaaDoorQAlloc
namespace Go.Proofs.YtnjmdncnkijijaaDoor
open Go.RowKit Go.Sort

/-- A number in a block. -/
def Nm (W : World) (b : Nat) (n : Int) : Prop := Cl W b [.int .u64 (l0 n), .int .u64 (l1 n), .int .u64 (l2 n), .int .u64 (l3 n)]
theorem Nm.keep {W w1 : World} {b : Nat} {n : Int} (h : Nm W b n) (hb : Below W.heap.size W w1) : Nm w1 b n := Cl.keep h hb
theorem Nm.cells {W : World} {b : Nat} {n : Int} (h : Nm W b n) : W.cell? ⟨b, 0, none⟩ = some (.int .u64 (l0 n)) ∧ W.cell? ⟨b, 1, none⟩ = some (.int .u64 (l1 n)) ∧ W.cell? ⟨b, 2, none⟩ = some (.int .u64 (l2 n)) ∧ W.cell? ⟨b, 3, none⟩ = some (.int .u64 (l3 n)) := ⟨h 0 (by simp), h 1 (by simp), h 2 (by simp), h 3 (by simp)⟩
theorem Nm.grown {W : World} {b : Nat} {n : Int} (h : Nm W b n) : ∀ d os, (grow (redrawn W d) os).cell? ⟨b, 0, none⟩ = some (.int .u64 (l0 n)) ∧ (grow (redrawn W d) os).cell? ⟨b, 1, none⟩ = some (.int .u64 (l1 n)) ∧ (grow (redrawn W d) os).cell? ⟨b, 2, none⟩ = some (.int .u64 (l2 n)) ∧ (grow (redrawn W d) os).cell? ⟨b, 3, none⟩ = some (.int .u64 (l3 n)) := fun d os => (h.keep (below_regrown W d os)).cells
theorem Nm.alloc {W : World} {b : Nat} {n : Int} (h : Nm W b n) (ob : Obj) : Nm (W.alloc ob) b n := h.keep ((Below.refl _ _).alloc (Nat.le_refl _) ob)
theorem Bk12.put {W : World} {b b' : Nat} (h : Bk12 W b) (ne : b' ≠ b) (x' y' z' : Int) : Bk12 (put12 W b' x' y' z') b := ⟨h.1.put ne x' y' z', by unfold put12; exact ((((((((((((h.2.set _ _).set _ _).set _ _).set _ _).set _ _).set _ _).set _ _).set _ _).set _ _).set _ _).set _ _).set _ _)⟩
theorem Pts.cells_put {W : World} {b o b' : Nat} {L : List PP} (h : Pts W b o L) (ne : b' ≠ b) (vs : List Value) (k : Nat) : Pts (W.setCells b' k vs) b o L := by
  induction vs generalizing W k with
  | nil => exact h
  | cons v r ih => exact ih (h.set ne v) (k + 1)

end Go.Proofs.YtnjmdncnkijijaaDoor

namespace Go.Proofs.YtnjmdncnkijijaaDoor
open Go.RowKit Go.Sort

theorem Nm.lt {W : World} {b : Nat} {n : Int} (h : Nm W b n) : b < W.heap.size := Cl.lt h (by simp)
theorem Nm.put9 {W : World} {b b' : Nat} {n x' y' : Int} {j : Bool} (h : Nm W b n) (ne : b' ≠ b) : Nm (Go.Proofs.YtnjmdncnkijijaaDoor.put9 W b' x' y' j) b n := by
  unfold Go.Proofs.YtnjmdncnkijijaaDoor.put9
  exact Cl.set (Cl.set (Cl.set (Cl.set (Cl.set (Cl.set (Cl.set (Cl.set (Cl.set h ne _) ne _) ne _) ne _) ne _) ne _) ne _) ne _) ne _
def put4 (W : World) (b : Nat) (n : Int) : World := (((W.setCell ⟨b, 0, none⟩ (.int .u64 (l0 n))).setCell ⟨b, 1, none⟩ (.int .u64 (l1 n))).setCell ⟨b, 2, none⟩ (.int .u64 (l2 n))).setCell ⟨b, 3, none⟩ (.int .u64 (l3 n))
theorem Blank.put4 {W : World} {b : Nat} (h : Blank W b) (n : Int) : Nm (Go.Proofs.YtnjmdncnkijijaaDoor.put4 W b n) b n := by
  obtain ⟨a0, a1, a2, a3⟩ := h.1.all4
  intro k hk
  have hk' : k < 4 := by simpa using hk
  have hc : k = 0 ∨ k = 1 ∨ k = 2 ∨ k = 3 := by omega
  unfold Go.Proofs.YtnjmdncnkijijaaDoor.put4
  rcases hc with rfl | rfl | rfl | rfl <;> simp [go_sem, a0, a1, a2, a3]
theorem Pnt.put4 {W : World} {b b' : Nat} {x y n : Int} {i : Bool} (h : Pnt W b x y i) (ne : b' ≠ b) : Pnt (Go.Proofs.YtnjmdncnkijijaaDoor.put4 W b' n) b x y i := by
  unfold Go.Proofs.YtnjmdncnkijijaaDoor.put4
  exact Cl.set (Cl.set (Cl.set (Cl.set h ne _) ne _) ne _) ne _
theorem Nm.put4 {W : World} {b b' : Nat} {m n : Int} (h : Nm W b m) (ne : b' ≠ b) : Nm (Go.Proofs.YtnjmdncnkijijaaDoor.put4 W b' n) b m := by
  unfold Go.Proofs.YtnjmdncnkijijaaDoor.put4
  exact Cl.set (Cl.set (Cl.set (Cl.set h ne _) ne _) ne _) ne _
theorem Mds.put4 {W : World} {b' : Nat} {n : Int} (h : Mds W) (ne : b' ≠ 0) : Mds (Go.Proofs.YtnjmdncnkijijaaDoor.put4 W b' n) := by
  unfold Go.Proofs.YtnjmdncnkijijaaDoor.put4
  exact (((h.set ne _).set ne _).set ne _).set ne _
end Go.Proofs.YtnjmdncnkijijaaDoor
