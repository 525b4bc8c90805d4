import Derived.Test.YtanokeeffbiijaaDoorTsG
/- Tools for long chains of '&&' and '||': loads, comparisons under a guard; the rest of a chain that is decided. -/
namespace Go.Proofs.YtanokeeffbiijaaDoor.tq
open Go.RowKit Go.Sort
/-- A comparison, under a guard. -/
theorem wpList_eqG {P : Program} {ops : Array Oper} {rest : List Oper} {o : Oper} {a : Act} {w : World} {Q : Exit → Act → World → Prop} (hw : Region.wanted o (yielded ops a.tmps) = true) (bo : BinOp) (ty : TypeId) (x y : Operand) (tt : TypeId) (ho : o.op = .binOp bo ty x y tt) (va vb : Value) (hx : a.eval x = va) (hy : a.eval y = vb) (r : Bool)
    (hr : (do eqGuard bo ty x y va vb; binOp bo ty va vb : Sem Value).run P w = .ok (.bool r) w)
    (h : wpList P ops Q rest (a.put o.dst (.bool r)) w) : wpList P ops Q (o :: rest) a w := by
  unfold wpList
  rw [if_pos hw]
  refine .inl ?_
  unfold Oper.wp execOp
  simp only [ho, hx, hy]
  rw [Sem.run_bind, hr]
  exact h
theorem neR {P : Program} {ty : TypeId} {x y : Operand} {va vb : Array Value} {r : Bool} {w : World} (hg : P.eqGuardType P.depth ty = false) (hr : (Op.equalIn 10000 ty (.agg va) (.agg vb)).run P w = .ok r w) : (do eqGuard .neq ty x y (.agg va) (.agg vb); binOp .neq ty (.agg va) (.agg vb) : Sem Value).run P w = .ok (.bool (!r)) w := by
  simp only [Sem.run_bind, run_eqGuard_agg _ _ _ _ _ _ _ hg, Result.andThen_ok, run_neq_struct, hr]
end Go.Proofs.YtanokeeffbiijaaDoor.tq
