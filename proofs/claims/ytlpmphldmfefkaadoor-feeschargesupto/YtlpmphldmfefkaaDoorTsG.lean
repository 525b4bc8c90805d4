import Derived.Test.YtlpmphldmfefkaaDoorTsE
/- Tools: a value put into a block; a row loaded, two compared, under a guard. -/
namespace Go.Proofs.YtlpmphldmfefkaaDoor.tq
open Go.RowKit Go.Sort
theorem wpList_boxT {P : Program} {ops : Array Oper} {rest : List Oper} {o : Oper} {a : Act} {w : World} {Q : Exit → Act → World → Prop} (hg : o.guard = none) (t : TypeId) (x : Operand) (ho : o.op = .box t x) (cs : List Value) (hx : a.eval x = .agg cs.toArray)
    (h : ∀ (b : Nat) (W : World), Hid (b = w.heap.size ∧ W.heap.size = b + 1) → Below w.heap.size w W → W.rangeAt b 0 cs → wpList P ops Q rest (a.put o.dst (.pointer (some ⟨b, 0, none⟩))) W) : wpList P ops Q (o :: rest) a w := by
  refine wpList_plain hg fun K hK => ?_
  unfold Oper.wp execOp
  simp only [ho, Sem.run_bind, Instr.box, newVar, newRow, run_newObj_alloc, Sem.run_pure, Result.andThen_ok]
  refine hK _ _ (h _ _ ⟨rfl, World.size_alloc _ _⟩ ((Below.refl _ _).alloc (Nat.le_refl _) _) ?_)
  rw [hx]
  exact new_range
theorem wpList_load_midT {P : Program} {ops : Array Oper} {rest : List Oper} {op : Oper} {a : Act} {w : World} {Q : Exit → Act → World → Prop} (hw : Region.wanted op (yielded ops a.tmps) = true) (ty : TypeId) (x : Operand) (ho : op.op = .load ty x)
    (b o : Nat) (hx : a.eval x = .pointer (some ⟨b, o, none⟩)) (cs : List Value) (d : TypeDesc) (hc : w.rangeAt b o cs)
    (hu : P.underlying ty = some d) (hd : d.isRow = true) (hi : (P.info? ty).map (·.size) = some cs.length)
    (h : wpList P ops Q rest (a.put op.dst (.agg cs.toArray)) w) : wpList P ops Q (op :: rest) a w := by
  unfold wpList
  rw [if_pos hw]
  exact .inl (wp_load_mid ty x ho b o hx cs d hc hu hd hi h)
end Go.Proofs.YtlpmphldmfefkaaDoor.tq

/- slices.EqualFunc of entries; slices.Equal of bytes. -/
namespace Go.Proofs.YtlpmphldmfefkaaDoor.tq
open Go.RowKit Go.Sort
theorem enC_one (e : En) : ∀ u ∈ enC e, u.oneCell' = true := fun u hu => by
  unfold enC at hu
  rcases List.mem_append.1 hu with h | h
  · exact hC_one _ u h
  · simp at h; subst h; rfl
end Go.Proofs.YtlpmphldmfefkaaDoor.tq

/- Tools for long chains of '&&' and '||': loads, comparisons under a guard; the rest of a chain that is decided. -/
namespace Go.Proofs.YtlpmphldmfefkaaDoor.tq
open Go.RowKit Go.Sort
theorem wpList_load_cellT {P : Program} {ops : Array Oper} {rest : List Oper} {op : Oper} {a : Act} {w : World} {Q : Exit → Act → World → Prop} (hw : Region.wanted op (yielded ops a.tmps) = true) (ty : TypeId) (x : Operand) (ho : op.op = .load ty x)
    (b o : Nat) (hx : a.eval x = .pointer (some ⟨b, o, none⟩)) (v : Value) (d : TypeDesc) (hc : w.cell? ⟨b, o, none⟩ = some v) (hu : P.underlying ty = some d) (hd : d.isRow = false)
    (h : wpList P ops Q rest (a.put op.dst v) w) : wpList P ops Q (op :: rest) a w := by
  unfold wpList
  rw [if_pos hw]
  refine .inl ?_
  have hagg : (isAgg ty).run P w = .ok false w := by
    unfold isAgg
    rw [Sem.run_bind, run_underlying hu w]
    cases d <;> simp_all
  unfold Oper.wp execOp
  simp only [ho, hx, Instr.loadAt, Instr.sureAddr, Sem.run_bind, Sem.run_pure, Result.andThen_ok, loadVar, hagg, Bool.false_eq_true, if_false]
  simp [go_sem, hc]
  exact h
end Go.Proofs.YtlpmphldmfefkaaDoor.tq

/- A transaction's fields in a block. -/
namespace Go.Proofs.YtlpmphldmfefkaaDoor.tq
open Go.RowKit Go.Sort
def numC (x : Int) : List Value := [.int .u64 (l0 x), .int .u64 (l1 x), .int .u64 (l2 x), .int .u64 (l3 x)]
theorem size_txT : (Tryd.prog.info? 32).map (·.size) = some 61 := by kernel_rfl
theorem range_4 {W : World} {b o : Nat} {x : Int} (h : W.cell? ⟨b, o, none⟩ = some (.int .u64 (l0 x)) ∧ W.cell? ⟨b, o + 1, none⟩ = some (.int .u64 (l1 x)) ∧ W.cell? ⟨b, o + 2, none⟩ = some (.int .u64 (l2 x)) ∧ W.cell? ⟨b, o + 3, none⟩ = some (.int .u64 (l3 x))) : W.rangeAt b o (numC x) := fun j v hv => by
  match j, hv with
  | 0, hv => obtain rfl := Option.some.inj hv; exact h.1
  | 1, hv => obtain rfl := Option.some.inj hv; exact h.2.1
  | 2, hv => obtain rfl := Option.some.inj hv; exact h.2.2.1
  | 3, hv => obtain rfl := Option.some.inj hv; exact h.2.2.2
  | j + 4, hv => simp [numC] at hv
/-- A transaction's fields as they lie in a block. -/
structure TxF (W : World) (b : Nat) (ty ch no : Int) (pr ti ca : List Value) (gas : Int) (cr : Bool) (to va : List Value) (D E : Value) (bc : List Value) (Hs U : Value) (sv sr ss : List Value) : Prop where
  ty : W.cell? ⟨b, 0, none⟩ = some (.int .i64 ty)
  ch : W.cell? ⟨b, 1, none⟩ = some (.int .u64 ch)
  no : W.cell? ⟨b, 2, none⟩ = some (.int .u64 no)
  pr : W.rangeAt b 3 pr
  ti : W.rangeAt b 7 ti
  ca : W.rangeAt b 11 ca
  gas : W.cell? ⟨b, 15, none⟩ = some (.int .u64 gas)
  cr : W.cell? ⟨b, 16, none⟩ = some (.bool cr)
  to : W.rangeAt b 17 to
  va : W.rangeAt b 37 va
  D : W.cell? ⟨b, 41, none⟩ = some D
  E : W.cell? ⟨b, 42, none⟩ = some E
  bc : W.rangeAt b 43 bc
  Hs : W.cell? ⟨b, 47, none⟩ = some Hs
  U : W.cell? ⟨b, 48, none⟩ = some U
  sv : W.rangeAt b 49 sv
  sr : W.rangeAt b 53 sr
  ss : W.rangeAt b 57 ss
theorem TxB.toR {W : World} {b : Nat} {t : Txv} (h : TxB W b t) : W.rangeAt b 17 (hC t.to) := fun j v hv => by
  have hj : j < 20 := by have := (List.getElem?_eq_some_iff.1 hv).1; rw [hC_len, h.len] at this; exact this
  have e : (txC t)[17 + j]? = some v := by
    have f : ∀ (p q r : List Value), p.length = 17 → q = hC t.to → (p ++ (q ++ r))[17 + j]? = some v := fun p q r hp hq => by
      rw [List.getElem?_append_right (by omega), hp, Nat.add_sub_cancel_left, List.getElem?_append_left (by rw [hq, hC_len, h.len]; exact hj), hq]
      exact hv
    unfold txC
    simpa only [List.append_assoc, List.cons_append, List.nil_append] using f [.int .i64 t.ty, .int .u64 t.ch, .int .u64 t.no, .int .u64 (l0 t.pr), .int .u64 (l1 t.pr), .int .u64 (l2 t.pr), .int .u64 (l3 t.pr), .int .u64 (l0 t.ti), .int .u64 (l1 t.ti), .int .u64 (l2 t.ti), .int .u64 (l3 t.ti), .int .u64 (l0 t.ca), .int .u64 (l1 t.ca), .int .u64 (l2 t.ca), .int .u64 (l3 t.ca), .int .u64 t.gas, .bool t.cr] (hC t.to) _ rfl rfl
  have := h.all (17 + j) v e
  rwa [Nat.zero_add] at this
theorem TxB.facts {W : World} {b : Nat} {t : Txv} (h : TxB W b t) : TxF W b t.ty t.ch t.no (numC t.pr) (numC t.ti) (numC t.ca) t.gas t.cr (hC t.to) (numC t.va) (.slice t.Da t.Dl.length t.Dc) (.slice t.Ea t.El.length t.Ec) (numC t.bc) (.slice t.Hsa t.Hsl.length t.Hsc) (.slice t.Ua t.Ul.length t.Uc) (numC t.sv) (numC t.sr) (numC t.ss) :=
  ⟨h.ty, h.ch, h.no, range_4 h.pr, range_4 h.ti, range_4 h.ca, h.gas, h.cr, h.toR, range_4 h.va, h.D, h.E, range_4 h.bc, h.Hs, h.U, range_4 h.sv, range_4 h.sr, range_4 h.ss⟩
end Go.Proofs.YtlpmphldmfefkaaDoor.tq
