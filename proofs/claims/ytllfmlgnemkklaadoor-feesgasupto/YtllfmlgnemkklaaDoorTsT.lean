import Derived.Test.YtllfmlgnemkklaaDoorTsG
/- Tools for long chains of '&&' and '||': loads, comparisons under a guard; the rest of a chain that is decided. -/
namespace Go.Proofs.YtllfmlgnemkklaaDoor.tq
open Go.RowKit Go.Sort
theorem wpList_load_cellT {P : Program} {ops : Array Oper} {rest : List Oper} {op : Oper} {a : Act} {w : World} {Q : Exit → Act → World → Prop} (hw : Region.wanted op (yielded ops a.tmps) = true) (ty : TypeId) (x : Operand) (ho : op.op = .load ty x)
    (b o : Nat) (hx : a.eval x = .pointer (some ⟨b, o, none⟩)) (v : Value) (d : TypeDesc) (hc : w.cell? ⟨b, o, none⟩ = some v) (hu : P.underlying ty = some d) (hd : d.isRow = false)
    (h : wpList P ops Q rest (a.put op.dst v) w) : wpList P ops Q (op :: rest) a w := by
  unfold wpList
  rw [if_pos hw]
  refine .inl ?_
  have hagg : (isAgg ty).run P w = .ok false w := by
    unfold isAgg
    rw [Sem.run_bind, run_underlying hu w]
    cases d <;> simp_all
  unfold Oper.wp execOp
  simp only [ho, hx, Instr.loadAt, Instr.sureAddr, Sem.run_bind, Sem.run_pure, Result.andThen_ok, loadVar, hagg, Bool.false_eq_true, if_false]
  simp [go_sem, hc]
  exact h
/-- A comparison, under a guard. -/
theorem wpList_eqG {P : Program} {ops : Array Oper} {rest : List Oper} {o : Oper} {a : Act} {w : World} {Q : Exit → Act → World → Prop} (hw : Region.wanted o (yielded ops a.tmps) = true) (bo : BinOp) (ty : TypeId) (x y : Operand) (tt : TypeId) (ho : o.op = .binOp bo ty x y tt) (va vb : Value) (hx : a.eval x = va) (hy : a.eval y = vb) (r : Bool)
    (hr : (do eqGuard bo ty x y va vb; binOp bo ty va vb : Sem Value).run P w = .ok (.bool r) w)
    (h : wpList P ops Q rest (a.put o.dst (.bool r)) w) : wpList P ops Q (o :: rest) a w := by
  unfold wpList
  rw [if_pos hw]
  refine .inl ?_
  unfold Oper.wp execOp
  simp only [ho, hx, hy]
  rw [Sem.run_bind, hr]
  exact h
theorem neR {P : Program} {ty : TypeId} {x y : Operand} {va vb : Array Value} {r : Bool} {w : World} (hg : P.eqGuardType P.depth ty = false) (hr : (Op.equalIn 10000 ty (.agg va) (.agg vb)).run P w = .ok r w) : (do eqGuard .neq ty x y (.agg va) (.agg vb); binOp .neq ty (.agg va) (.agg vb) : Sem Value).run P w = .ok (.bool (!r)) w := by
  simp only [Sem.run_bind, run_eqGuard_agg _ _ _ _ _ _ _ hg, Result.andThen_ok, run_neq_struct, hr]
theorem neI {P : Program} {ty : TypeId} {x y : Operand} {k : IntKind} {p q : Int} {w : World} : (do eqGuard .neq ty x y (.int k p) (.int k q); binOp .neq ty (.int k p) (.int k q) : Sem Value).run P w = .ok (.bool (!decide (p = q))) w := by
  simp [eqGuard, binOp, go_sem]
  by_cases h : p = q <;> simp [h]
theorem neO {P : Program} {ty : TypeId} {x y : Operand} {p q : Bool} {w : World} (hu : P.underlying ty = some .bool) : (do eqGuard .neq ty x y (.bool p) (.bool q); binOp .neq ty (.bool p) (.bool q) : Sem Value).run P w = .ok (.bool (!decide (p = q))) w := by
  simp [eqGuard, binOp, Op.equal, Op.maxDepth, run_equalIn_bool _ _ _ _ _ hu, go_sem]
  cases p <;> cases q <;> rfl
end Go.Proofs.YtllfmlgnemkklaaDoor.tq
