import Derived.Test.YtlpmphldmfefkaaDoorTsG
import Derived.Deep.RegionHeld
import Derived.OrdersHeld
/- Tools: a variable made, a value stored whole, a cell stored: the world behind it under a name. -/
namespace Go.Proofs.YtlpmphldmfefkaaDoor.tq
open Go.RowKit Go.Sort
theorem heap_setT {W : World} {b i k : Nat} {v : Value} (h : k ≠ b) : (W.setCell ⟨b, i, none⟩ v).heap[k]? = W.heap[k]? := Below.heap_setCell W ⟨b, i, none⟩ v k h
theorem heap_setsT {b k : Nat} (h : k ≠ b) : ∀ (vs : List Value) (o : Nat) (W : World), (W.setCells b o vs).heap[k]? = W.heap[k]?
  | [], _, _ => rfl
  | v :: vs, o, W => (heap_setsT h vs (o + 1) (W.setCell ⟨b, o, none⟩ v)).trans (heap_setT h)
theorem range_same {W W' : World} {b o : Nat} {A : List Value} (h : W.rangeAt b o A) (e : W'.heap[b]? = W.heap[b]?) : W'.rangeAt b o A := fun j v hv => by
  rw [World.cell?_of_block (w := W) (a := ⟨b, o + j, none⟩) e]; exact h j v hv
theorem there_same {W W' : World} {b o n : Nat} (h : W.there b o n) (e : W'.heap[b]? = W.heap[b]?) : W'.there b o n := fun j hj => ⟨by
  rw [World.cell?_of_block (w := W) (a := ⟨b, o + j, none⟩) e]; exact (h j hj).1, by
  rw [World.frozen?_of_block (w := W) (a := ⟨b, o + j, none⟩) e]; exact (h j hj).2⟩
theorem there_keepT {W W' : World} {b o n : Nat} (h : W.there b o n) (lt : b < W.heap.size) (B : Below W.heap.size W W') : W'.there b o n := there_same h (B.block b lt)
/-- All blocks but b are as they were. -/
structure But (W W' : World) (b : Nat) : Prop where
  os : W'.os = W.os
  tape : W'.tape = W.tape
  output : W'.output = W.output
  size : W'.heap.size = W.heap.size
  block : ∀ k, k ≠ b → W'.heap[k]? = W.heap[k]?
theorem But.below {n : Nat} {w W W' : World} {b : Nat} (h : But W W' b) (hb : n ≤ b) (B : Below n w W) : Below n w W' := ⟨h.os.trans B.os, h.tape.trans B.tape, h.output.trans B.output, by rw [h.size]; exact B.size, fun k hk => (h.block k (by omega)).trans (B.block k hk)⟩
theorem size_setT (W : World) (a : Addr) (v : Value) : (W.setCell a v).heap.size = W.heap.size := World.size_setCell _ _ _
theorem but_set {W : World} {b i : Nat} {v : Value} : But W (W.setCell ⟨b, i, none⟩ v) b := ⟨rfl, rfl, rfl, size_setT _ _ _, fun _ h => heap_setT h⟩
theorem but_sets {b : Nat} : ∀ (vs : List Value) (o : Nat) (W : World), But W (W.setCells b o vs) b
  | [], _, _ => ⟨rfl, rfl, rfl, rfl, fun _ _ => rfl⟩
  | v :: vs, o, W =>
    have h1 := but_sets (b := b) vs (o + 1) (W.setCell ⟨b, o, none⟩ v)
    have h2 : But W (W.setCell ⟨b, o, none⟩ v) b := but_set
    ⟨h1.os.trans h2.os, h1.tape.trans h2.tape, h1.output.trans h2.output, h1.size.trans h2.size, fun k hk => (h1.block k hk).trans (h2.block k hk)⟩
theorem wpList_allocT {P : Program} {ops : Array Oper} {rest : List Oper} {o : Oper} {a : Act} {w : World} {Q : Exit → Act → World → Prop} (hg : o.guard = none) (t : TypeId) (ho : o.op = .alloc t) (d : Option Tmp) (hd : o.dst = d) (k bb : Nat) (hI : rowInfo P t k bb = true)
    (h : ∀ (b : Nat) (W : World), Hid (b = w.heap.size ∧ W.heap.size = b + 1) → Below w.heap.size w W → W.there b 0 k → wpList P ops Q rest (a.put d (.pointer (some ⟨b, 0, none⟩))) W) : wpList P ops Q (o :: rest) a w := by
  subst hd
  obtain ⟨i, z, hi, hz, _, _, hk⟩ := rowInfo_of hI
  refine wpList_plain hg fun K hK => ?_
  have hzv : (zeroValue t).run P w = .ok z w := by simp [zeroValue, typeInfo, hi, hz]
  unfold Oper.wp execOp
  simp only [ho, Sem.run_bind, Instr.alloc, hzv, newVar, newRow, run_newObj_alloc, Sem.run_pure, Result.andThen_ok]
  refine hK _ _ (h _ _ ⟨rfl, World.size_alloc _ _⟩ ((Below.refl _ _).alloc (Nat.le_refl _) _) ?_)
  have hn : (w.alloc (.cells z.cells t)).heap[w.heap.size]? = some (.cells z.cells t) := by
    show (w.heap.push _)[w.heap.size]? = _
    simp
  exact fun j hj => ⟨by rw [Nat.zero_add, cell_of_row _ _ j _ _ _ hn]; simp [hk, hj], by rw [Nat.zero_add]; exact frozen_of_row _ _ j _ _ hn⟩
/-- A value stored whole. -/
theorem wpList_storeT {P : Program} {ops : Array Oper} {rest : List Oper} {op : Oper} {a : Act} {w : World} {Q : Exit → Act → World → Prop} (hgd : op.guard = none) (ty : TypeId) (x y : Operand) (ho : op.op = .store ty x y) (b : Nat) (cs : List Value) (hx : a.eval x = .pointer (some ⟨b, 0, none⟩)) (hy : a.eval y = .agg cs.toArray)
    (ht : w.there b 0 cs.length) (hi : (P.info? ty).map (·.size) = some cs.length) (h1 : ∀ u ∈ cs, u.oneCell' = true)
    (h : ∀ W, But w W b → W.rangeAt b 0 cs → W.there b 0 cs.length → wpList P ops Q rest (a.put op.dst undef) W) : wpList P ops Q (op :: rest) a w := by
  refine wpList_store_mid hgd ty x y ho b 0 cs.toArray hx hy (by simpa using ht) (by simpa using hi) (all_oneCell_toArray h1) (h _ (but_sets _ _ _) (World.rangeAt_setCells_same _ _ _ _ (by simpa using ht)) ?_)
  exact fun j hj => ⟨by
    have := World.rangeAt_setCells_same w b 0 cs (by simpa using ht) j _ (List.getElem?_eq_getElem hj)
    rw [this]; rfl, by rw [World.frozen?_setCells]; exact (ht j hj).2⟩
/-- One cell stored. -/
theorem wpList_store1T {P : Program} {ops : Array Oper} {rest : List Oper} {op : Oper} {a : Act} {w : World} {Q : Exit → Act → World → Prop} (hgd : op.guard = none) (ty : TypeId) (x y : Operand) (ho : op.op = .store ty x y) (b i : Nat) (v : Value) (U : List Value) (hx : a.eval x = .pointer (some ⟨b, i, none⟩)) (hy : a.eval y = v)
    (hc : v.cells = #[v]) (h1 : v.oneCell' = true) (hs : (P.info? ty).map (·.size) = some 1) (hr : w.rangeAt b 0 U) (ht : w.there b 0 U.length) (hi : i < U.length)
    (h : ∀ W, But w W b → W.rangeAt b 0 (U.set i v) → W.there b 0 U.length → wpList P ops Q rest (a.put op.dst undef) W) : wpList P ops Q (op :: rest) a w := by
  refine wpList_plain hgd fun K hK => ?_
  have c0 := (ht i hi).1
  have c1 := (ht i hi).2
  rw [Nat.zero_add] at c0 c1
  have hrun : (storeVar ty ⟨b, i, none⟩ v).run P w = .ok () (w.setCell ⟨b, i, none⟩ v) := by
    have := run_storeCells_cells (P := P) b i [v] 0 w (fun j hj => by obtain rfl : j = 0 := by simpa using hj
                                                                      simpa using c0) (fun j hj => by obtain rfl : j = 0 := by simpa using hj
                                                                                                      simpa using c1) (fun u hu => by simp at hu; subst hu; exact h1)
    cases hq : P.info? ty with
    | none => simp [hq] at hs
    | some ii =>
      have hs' : ii.size = 1 := by simpa [hq] using hs
      simp only [Nat.add_zero] at this
      simp [storeVar, sizeOf, typeInfo, hq, hc, hs', this, World.setCells]
  unfold Oper.wp execOp
  simp only [ho, hx, hy, Instr.storeAt, Instr.sureAddr, Sem.run_bind, Sem.run_pure, Result.andThen_ok, hrun]
  refine hK _ _ (h _ but_set (fun j u hu => ?_) (fun j hj => ?_))
  · rw [Nat.zero_add]
    by_cases e : j = i
    · subst e
      rw [List.getElem?_set_self hi] at hu
      obtain rfl := Option.some.inj hu
      exact World.cell?_setCell_same' _ _ _ c0
    · rw [List.getElem?_set_ne (fun x => e x.symm)] at hu
      have := hr j u hu
      rw [Nat.zero_add] at this
      rw [World.cell?_setCell_other _ _ _ _ (by intro x; exact e (by injection x with _ h; exact h.symm))]
      exact this
  · refine ⟨?_, by rw [World.frozen?_setCell]; exact (ht j hj).2⟩
    rw [Nat.zero_add]
    by_cases e : j = i
    · subst e
      rw [World.cell?_setCell_same' _ _ _ c0]; rfl
    · have := (ht j hj).1
      rw [Nat.zero_add] at this
      rw [World.cell?_setCell_other _ _ _ _ (by intro x; exact e (by injection x with _ h; exact h.symm))]
      exact this
end Go.Proofs.YtlpmphldmfefkaaDoor.tq

/- A transaction lent: what LentTx makes. -/
namespace Go.Proofs.YtlpmphldmfefkaaDoor.tq
open Go.RowKit Go.Sort
def mkU : Aun := ⟨0, List.replicate 20 0, 165, 0, 0, 0⟩
def mkE : En := ⟨mkAd, none, 0, 0, 0, []⟩
/-- An entry lent: new keys with marks behind them. -/
structure KyM (W : World) (e x : En) : Prop where
  adr : e.adr = x.adr
  ks : e.ks = x.ks
  a : e.a = some ⟨e.b, 0, none⟩
  o : e.o = 0
  c : e.ks.length + 2 ≤ e.c
  r : W.rangeAt e.b 0 (flatC hC (e.ks ++ [mkHs, mkHs]))
theorem KyM.keep {W W' : World} {e x : En} (h : KyM W e x) (B : Below W.heap.size W W') : KyM W' e x := ⟨h.adr, h.ks, h.a, h.o, h.c, range_keep h.r B⟩
structure LtT (W : World) (u t : Txv) : Prop where
  sc : u.ty = t.ty ∧ u.ch = t.ch ∧ u.no = t.no ∧ u.gas = t.gas ∧ u.cr = t.cr ∧ u.to = t.to
  nu : u.pr = t.pr ∧ u.ti = t.ti ∧ u.ca = t.ca ∧ u.va = t.va ∧ u.bc = t.bc ∧ u.sv = t.sv ∧ u.sr = t.sr ∧ u.ss = t.ss
  D : u.Dl = t.Dl ∧ u.Da = some ⟨u.Db, 0, none⟩ ∧ u.Do = 0 ∧ t.Dl.length + 70 ≤ u.Dc ∧ W.rangeAt u.Db 0 (hC (lentT t.Dl))
  Hs : u.Hsl = t.Hsl ∧ u.Hsa = some ⟨u.Hsb, 0, none⟩ ∧ u.Hso = 0 ∧ t.Hsl.length + 2 ≤ u.Hsc ∧ W.rangeAt u.Hsb 0 (flatC hC (t.Hsl ++ [mkHs, mkHs]))
  U : u.Ul = t.Ul ∧ u.Ua = some ⟨u.Ub, 0, none⟩ ∧ u.Uo = 0 ∧ t.Ul.length + 2 ≤ u.Uc ∧ W.rangeAt u.Ub 0 (flatC aunC (t.Ul ++ [mkU, mkU]))
  E : u.El.length = t.El.length ∧ u.Ea = some ⟨u.Eb, 0, none⟩ ∧ u.Eo = 0 ∧ t.El.length + 2 ≤ u.Ec ∧ W.rangeAt u.Eb 0 (flatC enC (u.El ++ [mkE, mkE]))
  ks : ∀ i, i < t.El.length → KyM W (u.El.getD i zEn) (t.El.getD i zEn)
theorem LtT.keep {W W' : World} {u t : Txv} (h : LtT W u t) (B : Below W.heap.size W W') : LtT W' u t :=
  ⟨h.sc, h.nu, ⟨h.D.1, h.D.2.1, h.D.2.2.1, h.D.2.2.2.1, range_keep h.D.2.2.2.2 B⟩, ⟨h.Hs.1, h.Hs.2.1, h.Hs.2.2.1, h.Hs.2.2.2.1, range_keep h.Hs.2.2.2.2 B⟩, ⟨h.U.1, h.U.2.1, h.U.2.2.1, h.U.2.2.2.1, range_keep h.U.2.2.2.2 B⟩, ⟨h.E.1, h.E.2.1, h.E.2.2.1, h.E.2.2.2.1, range_keep h.E.2.2.2.2 B⟩, fun i hi => (h.ks i hi).keep B⟩
/-- What is lent can be read. -/
theorem LtT.good {W : World} {u t : Txv} (h : LtT W u t) (g : TxG W t) : TxG W u := by
  obtain ⟨s1, s2, s3, s4, s5, s6⟩ := h.sc
  obtain ⟨n1, n2, n3, n4, n5, n6, n7, n8⟩ := h.nu
  obtain ⟨d1, d2, d3, d4, d5⟩ := h.D
  obtain ⟨h1, h2, h3, h4, h5⟩ := h.Hs
  obtain ⟨u1, u2, u3, u4, u5⟩ := h.U
  obtain ⟨e1, e2, e3, e4, e5⟩ := h.E
  have kh : ∀ i, i < t.Hsl.length → (hC (t.Hsl.getD i [])).length = 32 := g.Hs.len
  have ku : ∀ i, i < (t.Ul ++ [mkU, mkU]).length → (aunC ((t.Ul ++ [mkU, mkU]).getD i zAun)).length = 34 := fun i hi => by
    by_cases c : i < t.Ul.length
    · rw [getD_app c]; exact aunC_len (g.U.2.2 i c).1.2.1.1
    · rw [List.length_append] at hi
      have : i = t.Ul.length + 0 ∨ i = t.Ul.length + 1 := by simp at hi; omega
      rcases this with rfl | rfl <;> (rw [getD_appR]; rfl)
  have ke : ∀ i, i < (u.El ++ [mkE, mkE]).length → (enC ((u.El ++ [mkE, mkE]).getD i zEn)).length = 21 := fun i hi => by
    by_cases c : i < u.El.length
    · rw [getD_app c]
      exact enC_len (by rw [(h.ks i (by omega)).adr]; exact (g.E.2.2 i (by omega)).1.1.1)
    · rw [List.length_append] at hi
      have : i = u.El.length + 0 ∨ i = u.El.length + 1 := by simp at hi; omega
      rcases this with rfl | rfl <;> (rw [getD_appR]; rfl)
  refine ⟨by rw [s1]; exact g.ty, by rw [s2]; exact g.ch, by rw [s3]; exact g.no, by rw [n1]; exact g.pr, by rw [n2]; exact g.ti, by rw [n3]; exact g.ca, by rw [s4]; exact g.gas, by rw [s6]; exact g.to, by rw [n4]; exact g.va, ?_, ?_, by rw [n5]; exact g.bc, ?_, ?_, by rw [n6]; exact g.sv, by rw [n7]; exact g.sr, by rw [n8]; exact g.ss⟩
  · refine ⟨⟨by rw [d1]; omega, fun e => by rw [d2] at e; cases e⟩, .inr (by rw [d2, d3]), ?_, by rw [d1]; exact g.D.2.2.2⟩
    rw [d1, d3]
    exact bz_hC (range_app.1 (by rw [lentT, hC_app] at d5; exact d5)).1
  · refine ⟨⟨by omega, fun e => by rw [e2] at e; cases e⟩, .inr (by rw [e2, e3]), fun i hi => ?_⟩
    have k := h.ks i (by omega)
    have x := (g.E.2.2 i (by omega)).1
    refine ⟨⟨by rw [k.adr]; exact x.1, ⟨by have := k.c; omega, fun e => by rw [k.a] at e; cases e⟩, .inr (by rw [k.a, k.o]), fun j hj => ?_⟩, ?_⟩
    · rw [k.ks] at hj ⊢
      refine ⟨(x.2.2.2 j hj).1, ?_⟩
      have r := k.r
      rw [k.ks] at r
      have q := flat_at [] _ 0 (lent_len x.2.len) r j (by rw [List.length_append]; omega)
      rw [getD_app hj] at q
      rw [k.o]; exact q
    · have q := flat_at zEn _ 0 ke e5 i (by rw [List.length_append]; omega)
      rw [getD_app hi] at q
      rw [e3]; exact q
  · refine ⟨⟨by rw [h1]; omega, fun e => by rw [h2] at e; cases e⟩, .inr (by rw [h2, h3]), fun i hi => ?_⟩
    rw [h1] at hi ⊢
    refine ⟨(g.Hs.2.2 i hi).1, ?_⟩
    have q := flat_at [] _ 0 (lent_len kh) h5 i (by rw [List.length_append]; omega)
    rw [getD_app hi] at q
    rw [h3]; exact q
  · refine ⟨⟨by rw [u1]; omega, fun e => by rw [u2] at e; cases e⟩, .inr (by rw [u2, u3]), fun i hi => ?_⟩
    rw [u1] at hi ⊢
    refine ⟨(g.U.2.2 i hi).1, ?_⟩
    have q := flat_at zAun _ 0 ku u5 i (by rw [List.length_append]; omega)
    rw [getD_app hi] at q
    rw [u3]; exact q
/-- Where it lies: in no block below n. -/
def LtP (n : Nat) (u t : Txv) : Prop := n ≤ u.Db ∧ n ≤ u.Hsb ∧ n ≤ u.Ub ∧ n ≤ u.Eb ∧ ∀ i, i < t.El.length → n ≤ (u.El.getD i zEn).b
theorem LtT.but {W W' : World} {u t : Txv} {n b : Nat} (h : LtT W u t) (p : LtP n u t) (q : But W W' b) (hb : b < n) : LtT W' u t :=
  have k : ∀ x, n ≤ x → W'.heap[x]? = W.heap[x]? := fun x hx => q.block x (by omega)
  ⟨h.sc, h.nu, ⟨h.D.1, h.D.2.1, h.D.2.2.1, h.D.2.2.2.1, range_same h.D.2.2.2.2 (k _ p.1)⟩, ⟨h.Hs.1, h.Hs.2.1, h.Hs.2.2.1, h.Hs.2.2.2.1, range_same h.Hs.2.2.2.2 (k _ p.2.1)⟩, ⟨h.U.1, h.U.2.1, h.U.2.2.1, h.U.2.2.2.1, range_same h.U.2.2.2.2 (k _ p.2.2.1)⟩, ⟨h.E.1, h.E.2.1, h.E.2.2.1, h.E.2.2.2.1, range_same h.E.2.2.2.2 (k _ p.2.2.2.1)⟩, fun i hi => ⟨(h.ks i hi).adr, (h.ks i hi).ks, (h.ks i hi).a, (h.ks i hi).o, (h.ks i hi).c, range_same (h.ks i hi).r (k _ (p.2.2.2.2 i hi))⟩⟩
end Go.Proofs.YtlpmphldmfefkaaDoor.tq
