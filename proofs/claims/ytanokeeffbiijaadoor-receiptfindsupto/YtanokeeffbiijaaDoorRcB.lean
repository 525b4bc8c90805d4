import Derived.Test.YtanokeeffbiijaaDoorRcO
import Derived.Test.YtanokeeffbiijaaDoorTsF
/- receipt.Gas of both sides. -/
namespace Go.Proofs.YtanokeeffbiijaaDoor.tq
open Go.RowKit Go.Sort
theorem mulI {x m : Nat} (h : m * x ≤ 140737488355328) : (x : Int) * (m : Int) ≤ 281474976710656 := by
  have h2 : ((x * m : Nat) : Int) ≤ 281474976710656 := by
    rw [Nat.mul_comm]
    omega
  rwa [Int.natCast_mul] at h2
/-- make([]T, n) of rows: the cells are anything. -/
theorem wpList_make_row {k bytes : Nat} {ts e : TypeId} (w : World) {ops : Array Oper} {rest : List Oper} {o : Oper} {a : Act} {Q : Exit → Act → World → Prop}
    (ht : Tryd.prog.underlying ts = some (.slice e)) (hI : rowInfo Tryd.prog e k bytes = true) (hg : o.guard = none) (l c : Operand) (hop : o.op = Op.makeSlice ts l c)
    (kl kc : IntKind) (L C : Int) (m : Nat) (hl : a.eval l = .int kl L) (hc : a.eval c = .int kc C) (eL : L = (m : Int)) (eC : C = (m : Int)) (hm : m ≤ 4000000000000) (hb : m * bytes ≤ 140737488355328)
    (hK : ∀ cs : Array Value, cs.size = m * k → wpList Tryd.prog ops Q rest (a.put o.dst (.slice (some ⟨w.heap.size, 0, none⟩) m m)) (w.alloc (.cells cs e))) :
    wpList Tryd.prog ops Q (o :: rest) a w := by
  subst eL eC
  obtain ⟨i, z, hi, hz, hs, hby, hzs⟩ := rowInfo_of hI
  refine wpList_plain hg fun K hK' => ?_
  have hr := run_make (P := Tryd.prog) w ts e i z ht hi hz kl kc m m (by omega) (by omega) (by rw [hby]; exact mulI hb) (by omega)
  rw [Int.toNat_natCast, hs] at hr
  unfold Oper.wp
  obtain ⟨Z, eZ⟩ : ∃ Z, Z = madeCells z.cells (m * k) := ⟨_, rfl⟩
  rw [← eZ] at hr
  have hsz : Z.size = m * k := by rw [eZ]; simp [madeCells]
  clear eZ
  simp [execOp, hop, hl, hc, hr, Result.andThen]
  exact hK' _ _ (hK Z hsz)
end Go.Proofs.YtanokeeffbiijaaDoor.tq
