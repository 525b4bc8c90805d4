import Derived.Test.YtcjabligkeaafaaDoorTsF
import Derived.Deep.RegionHeld
import Derived.OrdersHeld
/- Tools: a variable made, a value stored whole, a cell stored: the world behind it under a name. -/
namespace Go.Proofs.YtcjabligkeaafaaDoor.tq
open Go.RowKit Go.Sort
theorem heap_setT {W : World} {b i k : Nat} {v : Value} (h : k ≠ b) : (W.setCell ⟨b, i, none⟩ v).heap[k]? = W.heap[k]? := Below.heap_setCell W ⟨b, i, none⟩ v k h
theorem heap_setsT {b k : Nat} (h : k ≠ b) : ∀ (vs : List Value) (o : Nat) (W : World), (W.setCells b o vs).heap[k]? = W.heap[k]?
  | [], _, _ => rfl
  | v :: vs, o, W => (heap_setsT h vs (o + 1) (W.setCell ⟨b, o, none⟩ v)).trans (heap_setT h)
theorem range_same {W W' : World} {b o : Nat} {A : List Value} (h : W.rangeAt b o A) (e : W'.heap[b]? = W.heap[b]?) : W'.rangeAt b o A := fun j v hv => by
  rw [World.cell?_of_block (w := W) (a := ⟨b, o + j, none⟩) e]; exact h j v hv
theorem there_same {W W' : World} {b o n : Nat} (h : W.there b o n) (e : W'.heap[b]? = W.heap[b]?) : W'.there b o n := fun j hj => ⟨by
  rw [World.cell?_of_block (w := W) (a := ⟨b, o + j, none⟩) e]; exact (h j hj).1, by
  rw [World.frozen?_of_block (w := W) (a := ⟨b, o + j, none⟩) e]; exact (h j hj).2⟩
theorem there_keepT {W W' : World} {b o n : Nat} (h : W.there b o n) (lt : b < W.heap.size) (B : Below W.heap.size W W') : W'.there b o n := there_same h (B.block b lt)
/-- All blocks but b are as they were. -/
structure But (W W' : World) (b : Nat) : Prop where
  os : W'.os = W.os
  tape : W'.tape = W.tape
  output : W'.output = W.output
  size : W'.heap.size = W.heap.size
  block : ∀ k, k ≠ b → W'.heap[k]? = W.heap[k]?
theorem But.below {n : Nat} {w W W' : World} {b : Nat} (h : But W W' b) (hb : n ≤ b) (B : Below n w W) : Below n w W' := ⟨h.os.trans B.os, h.tape.trans B.tape, h.output.trans B.output, by rw [h.size]; exact B.size, fun k hk => (h.block k (by omega)).trans (B.block k hk)⟩
theorem size_setT (W : World) (a : Addr) (v : Value) : (W.setCell a v).heap.size = W.heap.size := World.size_setCell _ _ _
theorem but_set {W : World} {b i : Nat} {v : Value} : But W (W.setCell ⟨b, i, none⟩ v) b := ⟨rfl, rfl, rfl, size_setT _ _ _, fun _ h => heap_setT h⟩
theorem but_sets {b : Nat} : ∀ (vs : List Value) (o : Nat) (W : World), But W (W.setCells b o vs) b
  | [], _, _ => ⟨rfl, rfl, rfl, rfl, fun _ _ => rfl⟩
  | v :: vs, o, W =>
    have h1 := but_sets (b := b) vs (o + 1) (W.setCell ⟨b, o, none⟩ v)
    have h2 : But W (W.setCell ⟨b, o, none⟩ v) b := but_set
    ⟨h1.os.trans h2.os, h1.tape.trans h2.tape, h1.output.trans h2.output, h1.size.trans h2.size, fun k hk => (h1.block k hk).trans (h2.block k hk)⟩
theorem wpList_allocT {P : Program} {ops : Array Oper} {rest : List Oper} {o : Oper} {a : Act} {w : World} {Q : Exit → Act → World → Prop} (hg : o.guard = none) (t : TypeId) (ho : o.op = .alloc t) (d : Option Tmp) (hd : o.dst = d) (k bb : Nat) (hI : rowInfo P t k bb = true)
    (h : ∀ (b : Nat) (W : World), Hid (b = w.heap.size ∧ W.heap.size = b + 1) → Below w.heap.size w W → W.there b 0 k → wpList P ops Q rest (a.put d (.pointer (some ⟨b, 0, none⟩))) W) : wpList P ops Q (o :: rest) a w := by
  subst hd
  obtain ⟨i, z, hi, hz, _, _, hk⟩ := rowInfo_of hI
  refine wpList_plain hg fun K hK => ?_
  have hzv : (zeroValue t).run P w = .ok z w := by simp [zeroValue, typeInfo, hi, hz]
  unfold Oper.wp execOp
  simp only [ho, Sem.run_bind, Instr.alloc, hzv, newVar, newRow, run_newObj_alloc, Sem.run_pure, Result.andThen_ok]
  refine hK _ _ (h _ _ ⟨rfl, World.size_alloc _ _⟩ ((Below.refl _ _).alloc (Nat.le_refl _) _) ?_)
  have hn : (w.alloc (.cells z.cells t)).heap[w.heap.size]? = some (.cells z.cells t) := by
    show (w.heap.push _)[w.heap.size]? = _
    simp
  exact fun j hj => ⟨by rw [Nat.zero_add, cell_of_row _ _ j _ _ _ hn]; simp [hk, hj], by rw [Nat.zero_add]; exact frozen_of_row _ _ j _ _ hn⟩
/-- A value stored whole. -/
theorem wpList_storeT {P : Program} {ops : Array Oper} {rest : List Oper} {op : Oper} {a : Act} {w : World} {Q : Exit → Act → World → Prop} (hgd : op.guard = none) (ty : TypeId) (x y : Operand) (ho : op.op = .store ty x y) (b : Nat) (cs : List Value) (hx : a.eval x = .pointer (some ⟨b, 0, none⟩)) (hy : a.eval y = .agg cs.toArray)
    (ht : w.there b 0 cs.length) (hi : (P.info? ty).map (·.size) = some cs.length) (h1 : ∀ u ∈ cs, u.oneCell' = true)
    (h : ∀ W, But w W b → W.rangeAt b 0 cs → W.there b 0 cs.length → wpList P ops Q rest (a.put op.dst undef) W) : wpList P ops Q (op :: rest) a w := by
  refine wpList_store_mid hgd ty x y ho b 0 cs.toArray hx hy (by simpa using ht) (by simpa using hi) (all_oneCell_toArray h1) (h _ (but_sets _ _ _) (World.rangeAt_setCells_same _ _ _ _ (by simpa using ht)) ?_)
  exact fun j hj => ⟨by
    have := World.rangeAt_setCells_same w b 0 cs (by simpa using ht) j _ (List.getElem?_eq_getElem hj)
    rw [this]; rfl, by rw [World.frozen?_setCells]; exact (ht j hj).2⟩
/-- One cell stored. -/
theorem wpList_store1T {P : Program} {ops : Array Oper} {rest : List Oper} {op : Oper} {a : Act} {w : World} {Q : Exit → Act → World → Prop} (hgd : op.guard = none) (ty : TypeId) (x y : Operand) (ho : op.op = .store ty x y) (b i : Nat) (v : Value) (U : List Value) (hx : a.eval x = .pointer (some ⟨b, i, none⟩)) (hy : a.eval y = v)
    (hc : v.cells = #[v]) (h1 : v.oneCell' = true) (hs : (P.info? ty).map (·.size) = some 1) (hr : w.rangeAt b 0 U) (ht : w.there b 0 U.length) (hi : i < U.length)
    (h : ∀ W, But w W b → W.rangeAt b 0 (U.set i v) → W.there b 0 U.length → wpList P ops Q rest (a.put op.dst undef) W) : wpList P ops Q (op :: rest) a w := by
  refine wpList_plain hgd fun K hK => ?_
  have c0 := (ht i hi).1
  have c1 := (ht i hi).2
  rw [Nat.zero_add] at c0 c1
  have hrun : (storeVar ty ⟨b, i, none⟩ v).run P w = .ok () (w.setCell ⟨b, i, none⟩ v) := by
    have := run_storeCells_cells (P := P) b i [v] 0 w (fun j hj => by obtain rfl : j = 0 := by simpa using hj
                                                                      simpa using c0) (fun j hj => by obtain rfl : j = 0 := by simpa using hj
                                                                                                      simpa using c1) (fun u hu => by simp at hu; subst hu; exact h1)
    cases hq : P.info? ty with
    | none => simp [hq] at hs
    | some ii =>
      have hs' : ii.size = 1 := by simpa [hq] using hs
      simp only [Nat.add_zero] at this
      simp [storeVar, sizeOf, typeInfo, hq, hc, hs', this, World.setCells]
  unfold Oper.wp execOp
  simp only [ho, hx, hy, Instr.storeAt, Instr.sureAddr, Sem.run_bind, Sem.run_pure, Result.andThen_ok, hrun]
  refine hK _ _ (h _ but_set (fun j u hu => ?_) (fun j hj => ?_))
  · rw [Nat.zero_add]
    by_cases e : j = i
    · subst e
      rw [List.getElem?_set_self hi] at hu
      obtain rfl := Option.some.inj hu
      exact World.cell?_setCell_same' _ _ _ c0
    · rw [List.getElem?_set_ne (fun x => e x.symm)] at hu
      have := hr j u hu
      rw [Nat.zero_add] at this
      rw [World.cell?_setCell_other _ _ _ _ (by intro x; exact e (by injection x with _ h; exact h.symm))]
      exact this
  · refine ⟨?_, by rw [World.frozen?_setCell]; exact (ht j hj).2⟩
    rw [Nat.zero_add]
    by_cases e : j = i
    · subst e
      rw [World.cell?_setCell_same' _ _ _ c0]; rfl
    · have := (ht j hj).1
      rw [Nat.zero_add] at this
      rw [World.cell?_setCell_other _ _ _ _ (by intro x; exact e (by injection x with _ h; exact h.symm))]
      exact this
end Go.Proofs.YtcjabligkeaafaaDoor.tq
