import Derived.Test.YtllfmlgnemkklaaDoorTsD
import Derived.Test.YtllfmlgnemkklaaDoorTxPs
import Derived.StillTail
import Derived.BigQuiet
import Derived.Below
import Derived.Test.YtllfmlgnemkklaaDoorMulNum
import Derived.Lib.QuietBelow
import Derived.Test.YtllfmlgnemkklaaDoorHold
import Derived.Test.YtllfmlgnemkklaaDoorAdd
import Derived.Test.YtllfmlgnemkklaaDoorOut
import Derived.Test.YtllfmlgnemkklaaDoorShl
import Derived.Test.YtllfmlgnemkklaaDoorShelf
import Derived.Lib.ItoaNum
import Derived.Deep.LoopGhost
import Derived.Deep.RegionHeld3
import Derived.Test.YtllfmlgnemkklaaDoorCmp
import Derived.Test.YtllfmlgnemkklaaDoorTxZA
/- slices.EqualFunc of entries; slices.Equal of bytes. -/
namespace Go.Proofs.YtllfmlgnemkklaaDoor.tq
open Go.RowKit Go.Sort
theorem enC_one (e : En) : ∀ u ∈ enC e, u.oneCell' = true := fun u hu => by
  unfold enC at hu
  rcases List.mem_append.1 hu with h | h
  · exact hC_one _ u h
  · simp at h; subst h; rfl
end Go.Proofs.YtllfmlgnemkklaaDoor.tq

/- Tools for long chains of '&&' and '||': loads, comparisons under a guard; the rest of a chain that is decided. -/
namespace Go.Proofs.YtllfmlgnemkklaaDoor.tq
open Go.RowKit Go.Sort
theorem wpList_load_cellT {P : Program} {ops : Array Oper} {rest : List Oper} {op : Oper} {a : Act} {w : World} {Q : Exit → Act → World → Prop} (hw : Region.wanted op (yielded ops a.tmps) = true) (ty : TypeId) (x : Operand) (ho : op.op = .load ty x)
    (b o : Nat) (hx : a.eval x = .pointer (some ⟨b, o, none⟩)) (v : Value) (d : TypeDesc) (hc : w.cell? ⟨b, o, none⟩ = some v) (hu : P.underlying ty = some d) (hd : d.isRow = false)
    (h : wpList P ops Q rest (a.put op.dst v) w) : wpList P ops Q (op :: rest) a w := by
  unfold wpList
  rw [if_pos hw]
  refine .inl ?_
  have hagg : (isAgg ty).run P w = .ok false w := by
    unfold isAgg
    rw [Sem.run_bind, run_underlying hu w]
    cases d <;> simp_all
  unfold Oper.wp execOp
  simp only [ho, hx, Instr.loadAt, Instr.sureAddr, Sem.run_bind, Sem.run_pure, Result.andThen_ok, loadVar, hagg, Bool.false_eq_true, if_false]
  simp [go_sem, hc]
  exact h
end Go.Proofs.YtllfmlgnemkklaaDoor.tq

/- Layer 18: BlobGas of both sides; the document's sum, product, most. -/
namespace Go.Proofs.YtllfmlgnemkklaaDoor
open Go.RowKit Go.Sort
open tq
/-- The gas of the blobs. -/
def bgT (t : Txv) : Int := if t.ty = 3 then 131072 * (t.Hsl.length : Int) else 0
end Go.Proofs.YtllfmlgnemkklaaDoor

/- Layer 18: Price and Cost of both sides, of any transaction. -/
namespace Go.Proofs.YtllfmlgnemkklaaDoor
open Go.RowKit Go.Sort
open tq
theorem z4 : (.agg #[.int .u64 (l0 0), .int .u64 (l1 0), .int .u64 (l2 0), .int .u64 (l3 0)] : Value) = .agg #[.int .u64 0, .int .u64 0, .int .u64 0, .int .u64 0] := by
  obtain ⟨z0, z1, z2, z3⟩ := zero_limbs
  rw [z0, z1, z2, z3]
end Go.Proofs.YtllfmlgnemkklaaDoor
