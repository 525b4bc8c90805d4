import Derived.Test.YtjhongkmempepaaDoorCBlend
import Derived.Test.YtjhongkmempepaaDoorCSumK
import Derived.Test.YtjhongkmempepaaDoorQAlloc
namespace Go.Proofs.YtjhongkmempepaaDoor
open Go.RowKit Go.Sort

theorem Cols.keep {W w1 : World} (h : Cols W) (hb : Below W.heap.size W w1) : Cols w1 := Pts.keep h hb
theorem Cols.alloc {W : World} (h : Cols W) (ob : Obj) : Cols (W.alloc ob) := Pts.alloc h ob
theorem Cols.put9 {W : World} {b' : Nat} {x' y' : Int} {j : Bool} (h : Cols W) (ne : b' ≠ 1) : Cols (Go.Proofs.YtjhongkmempepaaDoor.put9 W b' x' y' j) := by
  unfold Go.Proofs.YtjhongkmempepaaDoor.put9
  exact Pts.set (Pts.set (Pts.set (Pts.set (Pts.set (Pts.set (Pts.set (Pts.set (Pts.set h ne _) ne _) ne _) ne _) ne _) ne _) ne _) ne _) ne _
theorem Nm.lt {W : World} {b : Nat} {n : Int} (h : Nm W b n) : b < W.heap.size := Cl.lt h (by simp)
theorem Nm.put9 {W : World} {b b' : Nat} {n x' y' : Int} {j : Bool} (h : Nm W b n) (ne : b' ≠ b) : Nm (Go.Proofs.YtjhongkmempepaaDoor.put9 W b' x' y' j) b n := by
  unfold Go.Proofs.YtjhongkmempepaaDoor.put9
  exact Cl.set (Cl.set (Cl.set (Cl.set (Cl.set (Cl.set (Cl.set (Cl.set (Cl.set h ne _) ne _) ne _) ne _) ne _) ne _) ne _) ne _) ne _
def put4 (W : World) (b : Nat) (n : Int) : World := (((W.setCell ⟨b, 0, none⟩ (.int .u64 (l0 n))).setCell ⟨b, 1, none⟩ (.int .u64 (l1 n))).setCell ⟨b, 2, none⟩ (.int .u64 (l2 n))).setCell ⟨b, 3, none⟩ (.int .u64 (l3 n))
theorem Blank.put4 {W : World} {b : Nat} (h : Blank W b) (n : Int) : Nm (Go.Proofs.YtjhongkmempepaaDoor.put4 W b n) b n := by
  obtain ⟨a0, a1, a2, a3⟩ := h.1.all4
  intro k hk
  have hk' : k < 4 := by simpa using hk
  have hc : k = 0 ∨ k = 1 ∨ k = 2 ∨ k = 3 := by omega
  unfold Go.Proofs.YtjhongkmempepaaDoor.put4
  rcases hc with rfl | rfl | rfl | rfl <;> simp [go_sem, a0, a1, a2, a3]
theorem Pnt.put4 {W : World} {b b' : Nat} {x y n : Int} {i : Bool} (h : Pnt W b x y i) (ne : b' ≠ b) : Pnt (Go.Proofs.YtjhongkmempepaaDoor.put4 W b' n) b x y i := by
  unfold Go.Proofs.YtjhongkmempepaaDoor.put4
  exact Cl.set (Cl.set (Cl.set (Cl.set h ne _) ne _) ne _) ne _
theorem Nm.put4 {W : World} {b b' : Nat} {m n : Int} (h : Nm W b m) (ne : b' ≠ b) : Nm (Go.Proofs.YtjhongkmempepaaDoor.put4 W b' n) b m := by
  unfold Go.Proofs.YtjhongkmempepaaDoor.put4
  exact Cl.set (Cl.set (Cl.set (Cl.set h ne _) ne _) ne _) ne _
theorem Mds.put4 {W : World} {b' : Nat} {n : Int} (h : Mds W) (ne : b' ≠ 0) : Mds (Go.Proofs.YtjhongkmempepaaDoor.put4 W b' n) := by
  unfold Go.Proofs.YtjhongkmempepaaDoor.put4
  exact (((h.set ne _).set ne _).set ne _).set ne _
theorem Cols.put4 {W : World} {b' : Nat} {n : Int} (h : Cols W) (ne : b' ≠ 1) : Cols (Go.Proofs.YtjhongkmempepaaDoor.put4 W b' n) := by
  unfold Go.Proofs.YtjhongkmempepaaDoor.put4
  exact Pts.set (Pts.set (Pts.set (Pts.set h ne _) ne _) ne _) ne _
theorem alloc_pt (dst : Option Tmp) (pos : String) (ty : TypeId) (ρ : Operand → Value) (w : World) : (execOp ρ { dst := dst, op := Op.alloc 30, type := ty, pos := pos, after := #[], guard := none }).run Tryd.prog w = .ok (.value (.pointer (some ⟨w.heap.size, 0, none⟩))) (w.alloc (.cells #[.int .u64 0, .int .u64 0, .int .u64 0, .int .u64 0, .int .u64 0, .int .u64 0, .int .u64 0, .int .u64 0, .bool false] 30)) := by
  simp [execOp, go_sem]
end Go.Proofs.YtjhongkmempepaaDoor
