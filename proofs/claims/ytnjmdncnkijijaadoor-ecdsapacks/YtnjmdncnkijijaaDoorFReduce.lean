import Derived.Test.YtnjmdncnkijijaaDoorFFold
import Derived.Test.YtnjmdncnkijijaaDoorUp
import Derived.Test.YtnjmdncnkijijaaDoorQTail
import Derived.Deep.LoopGhost
namespace Go.Proofs.YtnjmdncnkijijaaDoor
open Go.RowKit Go.Sort

/-- A modulus in a block. -/
def HoldM (W : World) (b : Nat) (m c : Int) : Prop := Row W b [l0 m, l1 m, l2 m, l3 m, l0 c, l1 c, l2 c, l3 c]
theorem HoldM.keep {W w1 : World} {b : Nat} {m c : Int} (h : HoldM W b m c) (hb : Below W.heap.size W w1) : HoldM w1 b m c := Row.keep h hb
theorem HoldM.alloc {W : World} {b : Nat} {m c : Int} (h : HoldM W b m c) (o : Obj) : HoldM (W.alloc o) b m c := Row.alloc h o
theorem HoldM.drew {W : World} {b : Nat} {m c : Int} (h : HoldM W b m c) : HoldM W.drew b m c := h
theorem HoldM.new (W : World) (m c : Int) (t : TypeId) : HoldM (W.alloc (.cells #[.int .u64 (l0 m), .int .u64 (l1 m), .int .u64 (l2 m), .int .u64 (l3 m), .int .u64 (l0 c), .int .u64 (l1 c), .int .u64 (l2 c), .int .u64 (l3 c)] t)) W.heap.size m c := Row.fresh8 rfl
theorem HoldM.set {W : World} {b b' i : Nat} {m c : Int} (h : HoldM W b m c) (ne : b' ≠ b) (v : Value) : HoldM (W.setCell ⟨b', i, none⟩ v) b m c := Row.setOther h ne v
theorem HoldM.set4 {W : World} {b b' : Nat} {m c : Int} (h : HoldM W b m c) (ne : b' ≠ b) (v0 v1 v2 v3 : Value) : HoldM ((((W.setCell ⟨b', 0, none⟩ v0).setCell ⟨b', 1, none⟩ v1).setCell ⟨b', 2, none⟩ v2).setCell ⟨b', 3, none⟩ v3) b m c :=
  (((h.set ne v0).set ne v1).set ne v2).set ne v3
theorem HoldM.cells {W : World} {b : Nat} {m c : Int} (h : HoldM W b m c) : W.cell? ⟨b, 0, none⟩ = some (.int .u64 (l0 m)) ∧ W.cell? ⟨b, 1, none⟩ = some (.int .u64 (l1 m)) ∧ W.cell? ⟨b, 2, none⟩ = some (.int .u64 (l2 m)) ∧ W.cell? ⟨b, 3, none⟩ = some (.int .u64 (l3 m)) ∧ W.cell? ⟨b, 4, none⟩ = some (.int .u64 (l0 c)) ∧ W.cell? ⟨b, 5, none⟩ = some (.int .u64 (l1 c)) ∧ W.cell? ⟨b, 6, none⟩ = some (.int .u64 (l2 c)) ∧ W.cell? ⟨b, 7, none⟩ = some (.int .u64 (l3 c)) := Row.all8 h
theorem HoldM.grown {W : World} {b : Nat} {m c : Int} (h : HoldM W b m c) : ∀ d os, (grow (redrawn W d) os).cell? ⟨b, 0, none⟩ = some (.int .u64 (l0 m)) ∧ (grow (redrawn W d) os).cell? ⟨b, 1, none⟩ = some (.int .u64 (l1 m)) ∧ (grow (redrawn W d) os).cell? ⟨b, 2, none⟩ = some (.int .u64 (l2 m)) ∧ (grow (redrawn W d) os).cell? ⟨b, 3, none⟩ = some (.int .u64 (l3 m)) ∧ (grow (redrawn W d) os).cell? ⟨b, 4, none⟩ = some (.int .u64 (l0 c)) ∧ (grow (redrawn W d) os).cell? ⟨b, 5, none⟩ = some (.int .u64 (l1 c)) ∧ (grow (redrawn W d) os).cell? ⟨b, 6, none⟩ = some (.int .u64 (l2 c)) ∧ (grow (redrawn W d) os).cell? ⟨b, 7, none⟩ = some (.int .u64 (l3 c)) :=
  fun d os => (h.keep (below_regrown W d os)).cells
theorem HoldM.lt {W : World} {b : Nat} {m c : Int} (h : HoldM W b m c) : b < W.heap.size := Row.lt h (by simp)

end Go.Proofs.YtnjmdncnkijijaaDoor
