import Derived.Test.YthbfefalgigbeaaDoorTsF
/- Tools: a value put into a block; a row loaded, two compared, under a guard. -/
namespace Go.Proofs.YthbfefalgigbeaaDoor.tq
open Go.RowKit Go.Sort
theorem wpList_boxT {P : Program} {ops : Array Oper} {rest : List Oper} {o : Oper} {a : Act} {w : World} {Q : Exit → Act → World → Prop} (hg : o.guard = none) (t : TypeId) (x : Operand) (ho : o.op = .box t x) (cs : List Value) (hx : a.eval x = .agg cs.toArray)
    (h : ∀ (b : Nat) (W : World), Hid (b = w.heap.size ∧ W.heap.size = b + 1) → Below w.heap.size w W → W.rangeAt b 0 cs → wpList P ops Q rest (a.put o.dst (.pointer (some ⟨b, 0, none⟩))) W) : wpList P ops Q (o :: rest) a w := by
  refine wpList_plain hg fun K hK => ?_
  unfold Oper.wp execOp
  simp only [ho, Sem.run_bind, Instr.box, newVar, newRow, run_newObj_alloc, Sem.run_pure, Result.andThen_ok]
  refine hK _ _ (h _ _ ⟨rfl, World.size_alloc _ _⟩ ((Below.refl _ _).alloc (Nat.le_refl _) _) ?_)
  rw [hx]
  exact new_range
theorem wpList_load_midT {P : Program} {ops : Array Oper} {rest : List Oper} {op : Oper} {a : Act} {w : World} {Q : Exit → Act → World → Prop} (hw : Region.wanted op (yielded ops a.tmps) = true) (ty : TypeId) (x : Operand) (ho : op.op = .load ty x)
    (b o : Nat) (hx : a.eval x = .pointer (some ⟨b, o, none⟩)) (cs : List Value) (d : TypeDesc) (hc : w.rangeAt b o cs)
    (hu : P.underlying ty = some d) (hd : d.isRow = true) (hi : (P.info? ty).map (·.size) = some cs.length)
    (h : wpList P ops Q rest (a.put op.dst (.agg cs.toArray)) w) : wpList P ops Q (op :: rest) a w := by
  unfold wpList
  rw [if_pos hw]
  exact .inl (wp_load_mid ty x ho b o hx cs d hc hu hd hi h)
set_option maxRecDepth 100000 in
set_option maxHeartbeats 8000000 in
theorem sameEntry_any {e f : En} (hl : e.ks.length < 1000000000) (w : World) (hE : EnG w e) (hF : EnG w f) :
    Calls Tryd.prog 11 #[.agg (enC e).toArray, .agg (enC f).toArray] w fun x w' => x = .returned (.bool (sameE e f)) ∧ Below w.heap.size w w' := by
  have SK : Hid (∀ W, Below w.heap.size w W → Calls Tryd.prog 12 #[.slice e.a e.ks.length e.c, .slice f.a f.ks.length f.c] W fun x w' => x = .returned (.bool (eqL eqB [] e.ks f.ks)) ∧ Below W.heap.size W w') := fun W B => equalH_any hl W (hE.keep B).2 (hF.keep B).2
  have EQ : (∀ w, (Op.equalIn 10000 26 (.agg (hC e.adr).toArray) (.agg (hC f.adr).toArray)).run Tryd.prog w = .ok (decide (e.adr = f.adr)) w) := fun w => eq_ad hE.1.1 hF.1.1 w
  have ia : (Tryd.prog.info? 26).map (·.size) = some (hC e.adr).length := by rw [hC_len, hE.1.1]; exact size_ad
  have ib : (Tryd.prog.info? 26).map (·.size) = some (hC f.adr).length := by rw [hC_len, hF.1.1]; exact size_ad
  have R1 : Hid (∀ (g : En) (W : World) (b : Nat), g.adr.length = 20 → W.rangeAt b 0 (enC g) → W.rangeAt b 0 (hC g.adr) ∧ W.cell? ⟨b, 20, none⟩ = some (.slice g.a g.ks.length g.c)) := fun g W b h0 h => by
    have := range_app.1 h
    rw [hC_len, h0] at this
    exact ⟨this.1, this.2 0 _ rfl⟩
  have R2 : Hid (e.adr.length = 20 ∧ f.adr.length = 20) := ⟨hE.1.1, hF.1.1⟩
  have SS : Hid (∀ d q, decide (e.adr = f.adr) = d → eqL eqB [] e.ks f.ks = q → sameE e f = (d && q)) := fun d q h1 h2 => by show _ = _; rw [sameE, h1, h2]
  obtain ⟨d, hd⟩ : ∃ d, decide (e.adr = f.adr) = d := ⟨_, rfl⟩
  obtain ⟨q, hq⟩ : ∃ q, eqL eqB [] e.ks f.ks = q := ⟨_, rfl⟩
  rw [hd] at EQ
  rw [hq] at SK
  rw [SS.out d q hd hq]
  clear hd hq hE hF hl SS
  cases d with
  | false =>
    go_enter Tryd.func11, Tryd.ntmps11
    go_wp2_with first
      | (refine wpList_boxT rfl 38 _ rfl (enC e) rfl ?_; intro b1 W1 hb1 B1 r1; have q1 := R1.out e W1 b1 R2.out.1 r1)
      | (refine wpList_boxT rfl 38 _ rfl (enC f) rfl ?_; intro b2 W2 hb2 B2 r2; have q2 := R1.out f W2 b2 R2.out.2 r2; have p1 : W2.rangeAt b1 0 (hC e.adr) := range_keep q1.1 B2; have p2 := q2.1; have BB : Below w.heap.size w W2 := B1.trans (B2.mono B1.size))
      | refine wpList_load_midT rfl 26 _ rfl b1 0 rfl (hC e.adr) _ p1 Tryd.underlying26 rfl ia ?_
      | refine wpList_load_midT rfl 26 _ rfl b2 0 rfl (hC f.adr) _ p2 Tryd.underlying26 rfl ib ?_
    simp [bodyPost, results, Tryd.results11, go_sem]
    exact BB
  | true =>
    go_enter Tryd.func11, Tryd.ntmps11
    go_wp2_with first
      | (refine wpList_boxT rfl 38 _ rfl (enC e) rfl ?_; intro b1 W1 hb1 B1 r1; have q1 := R1.out e W1 b1 R2.out.1 r1)
      | (refine wpList_boxT rfl 38 _ rfl (enC f) rfl ?_; intro b2 W2 hb2 B2 r2; have q2 := R1.out f W2 b2 R2.out.2 r2; have p1 : W2.rangeAt b1 0 (hC e.adr) := range_keep q1.1 B2; have p2 := q2.1; have p3 := cell_keep B2 q1.2; have p4 := q2.2; have BB : Below w.heap.size w W2 := B1.trans (B2.mono B1.size))
      | refine wpList_load_midT rfl 26 _ rfl b1 0 rfl (hC e.adr) _ p1 Tryd.underlying26 rfl ia ?_
      | refine wpList_load_midT rfl 26 _ rfl b2 0 rfl (hC f.adr) _ p2 Tryd.underlying26 rfl ib ?_
    refine (SK.out _ BB).mono ?_
    rintro x w3 ⟨rfl, B3⟩
    have B4 : Below w.heap.size w w3 := BB.trans (B3.mono BB.size)
    clear BB B3 p1 p2 p3 p4 q1 q2 r1 r2
    go_wp2
    simp [bodyPost, results, Tryd.results11, go_sem]
    exact B4
end Go.Proofs.YthbfefalgigbeaaDoor.tq
