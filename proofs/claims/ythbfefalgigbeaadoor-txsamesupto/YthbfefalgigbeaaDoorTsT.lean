import Derived.Test.YthbfefalgigbeaaDoorTsH
/- Tools for long chains of '&&' and '||': loads, comparisons under a guard; the rest of a chain that is decided. -/
namespace Go.Proofs.YthbfefalgigbeaaDoor.tq
open Go.RowKit Go.Sort
theorem wpList_load_cellT {P : Program} {ops : Array Oper} {rest : List Oper} {op : Oper} {a : Act} {w : World} {Q : Exit → Act → World → Prop} (hw : Region.wanted op (yielded ops a.tmps) = true) (ty : TypeId) (x : Operand) (ho : op.op = .load ty x)
    (b o : Nat) (hx : a.eval x = .pointer (some ⟨b, o, none⟩)) (v : Value) (d : TypeDesc) (hc : w.cell? ⟨b, o, none⟩ = some v) (hu : P.underlying ty = some d) (hd : d.isRow = false)
    (h : wpList P ops Q rest (a.put op.dst v) w) : wpList P ops Q (op :: rest) a w := by
  unfold wpList
  rw [if_pos hw]
  refine .inl ?_
  have hagg : (isAgg ty).run P w = .ok false w := by
    unfold isAgg
    rw [Sem.run_bind, run_underlying hu w]
    cases d <;> simp_all
  unfold Oper.wp execOp
  simp only [ho, hx, Instr.loadAt, Instr.sureAddr, Sem.run_bind, Sem.run_pure, Result.andThen_ok, loadVar, hagg, Bool.false_eq_true, if_false]
  simp [go_sem, hc]
  exact h
/-- A comparison, under a guard. -/
theorem wpList_eqG {P : Program} {ops : Array Oper} {rest : List Oper} {o : Oper} {a : Act} {w : World} {Q : Exit → Act → World → Prop} (hw : Region.wanted o (yielded ops a.tmps) = true) (bo : BinOp) (ty : TypeId) (x y : Operand) (tt : TypeId) (ho : o.op = .binOp bo ty x y tt) (va vb : Value) (hx : a.eval x = va) (hy : a.eval y = vb) (r : Bool)
    (hr : (do eqGuard bo ty x y va vb; binOp bo ty va vb : Sem Value).run P w = .ok (.bool r) w)
    (h : wpList P ops Q rest (a.put o.dst (.bool r)) w) : wpList P ops Q (o :: rest) a w := by
  unfold wpList
  rw [if_pos hw]
  refine .inl ?_
  unfold Oper.wp execOp
  simp only [ho, hx, hy]
  rw [Sem.run_bind, hr]
  exact h
theorem eqR {P : Program} {ty : TypeId} {x y : Operand} {va vb : Array Value} {r : Bool} {w : World} (hg : P.eqGuardType P.depth ty = false) (hr : (Op.equalIn 10000 ty (.agg va) (.agg vb)).run P w = .ok r w) : (do eqGuard .eql ty x y (.agg va) (.agg vb); binOp .eql ty (.agg va) (.agg vb) : Sem Value).run P w = .ok (.bool r) w := by
  simp only [Sem.run_bind, run_eqGuard_agg _ _ _ _ _ _ _ hg, Result.andThen_ok, run_eql_struct, hr]
theorem neR {P : Program} {ty : TypeId} {x y : Operand} {va vb : Array Value} {r : Bool} {w : World} (hg : P.eqGuardType P.depth ty = false) (hr : (Op.equalIn 10000 ty (.agg va) (.agg vb)).run P w = .ok r w) : (do eqGuard .neq ty x y (.agg va) (.agg vb); binOp .neq ty (.agg va) (.agg vb) : Sem Value).run P w = .ok (.bool (!r)) w := by
  simp only [Sem.run_bind, run_eqGuard_agg _ _ _ _ _ _ _ hg, Result.andThen_ok, run_neq_struct, hr]
theorem eqI {P : Program} {ty : TypeId} {x y : Operand} {k : IntKind} {p q : Int} {w : World} : (do eqGuard .eql ty x y (.int k p) (.int k q); binOp .eql ty (.int k p) (.int k q) : Sem Value).run P w = .ok (.bool (decide (p = q))) w := by
  simp [eqGuard, binOp, go_sem]
  by_cases h : p = q <;> simp [h]
theorem neI {P : Program} {ty : TypeId} {x y : Operand} {k : IntKind} {p q : Int} {w : World} : (do eqGuard .neq ty x y (.int k p) (.int k q); binOp .neq ty (.int k p) (.int k q) : Sem Value).run P w = .ok (.bool (!decide (p = q))) w := by
  simp [eqGuard, binOp, go_sem]
  by_cases h : p = q <;> simp [h]
theorem eqO {P : Program} {ty : TypeId} {x y : Operand} {p q : Bool} {w : World} (hu : P.underlying ty = some .bool) : (do eqGuard .eql ty x y (.bool p) (.bool q); binOp .eql ty (.bool p) (.bool q) : Sem Value).run P w = .ok (.bool (decide (p = q))) w := by
  simp [eqGuard, binOp, Op.equal, Op.maxDepth, run_equalIn_bool _ _ _ _ _ hu, go_sem]
  cases p <;> cases q <;> rfl
theorem neO {P : Program} {ty : TypeId} {x y : Operand} {p q : Bool} {w : World} (hu : P.underlying ty = some .bool) : (do eqGuard .neq ty x y (.bool p) (.bool q); binOp .neq ty (.bool p) (.bool q) : Sem Value).run P w = .ok (.bool (!decide (p = q))) w := by
  simp [eqGuard, binOp, Op.equal, Op.maxDepth, run_equalIn_bool _ _ _ _ _ hu, go_sem]
  cases p <;> cases q <;> rfl
/-- What a decided chain leaves: operations whose guard is not met, picks and moves alone. -/
def idle (ops : Array Oper) : List Oper → Act → Option Act
  | [], a => some a
  | o :: rest, a => if Region.wanted o (yielded ops a.tmps) then (match o.op with
      | .move x => idle ops rest (a.put o.dst (a.eval x))
      | .assign x => idle ops rest (a.put o.dst (a.eval x))
      | .pick c x y => (match a.eval c with
        | .bool b => idle ops rest (a.put o.dst (if b then a.eval x else a.eval y))
        | _ => none)
      | _ => none) else idle ops rest (a.put o.dst undef)
theorem wpList_idle {P : Program} {ops : Array Oper} {Q : Exit → Act → World → Prop} {w : World} : ∀ (l : List Oper) (a a' : Act), idle ops l a = some a' → Q .normal a' w → wpList P ops Q l a w
  | [], a, a', h, hQ => by
    obtain rfl := Option.some.inj h
    exact hQ
  | o :: rest, a, a', h, hQ => by
    unfold idle at h
    unfold wpList
    by_cases hw : Region.wanted o (yielded ops a.tmps) = true
    · rw [if_pos hw] at h ⊢
      refine .inl ?_
      unfold Oper.wp execOp
      split at h
      · rename_i x e
        simp only [e]
        exact wpList_idle rest _ a' h hQ
      · rename_i x e
        simp only [e]
        exact wpList_idle rest _ a' h hQ
      · rename_i c x y e
        simp only [e]
        split at h
        · rename_i b eb
          simp only [eb]
          cases b <;> exact wpList_idle rest _ a' h hQ
        · cases h
      · cases h
    · rw [if_neg hw] at h ⊢
      exact wpList_idle rest _ a' h hQ
theorem wpList_idleAt {P : Program} {ops : Array Oper} {Q : Exit → Act → World → Prop} {w : World} (n : Nat) (v : Value) {l : List Oper} {a : Act} (h : ((idle ops l a).map fun a' => (a'.eval (.tmp n), a'.defers)) = some (v, [])) (hQ : ∀ a' : Act, a'.tmps[n]?.getD undef = v → a'.defers = [] → Q .normal a' w) : wpList P ops Q l a w := by
  cases e : idle ops l a with
  | none => rw [e] at h; cases h
  | some a' =>
    rw [e] at h
    have h2 := Option.some.inj h
    injection h2 with h3 h4
    exact wpList_idle l a a' e (hQ a' (by rw [← h3]; simp [Act.eval]) h4)
end Go.Proofs.YthbfefalgigbeaaDoor.tq
