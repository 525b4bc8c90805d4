import Derived.Test.YtdjjphcfobbipaaRxG
/- Layer 7: the document's Check, Size. -/
namespace Go.Proofs.Ytdjjphcfobbipaa
open Go.RowKit Go.Sort

theorem It.slices {W : World} {t : Tr} {d q : Value} (h : It W t d q) : ∃ k1 k2 k3 k4 k5 k6, d = .slice k1 k2 k3 ∧ q = .slice k4 k5 k6 := by
  revert h
  cases t with
  | mk l' X' ts' =>
    intro e2
    rw [It] at e2
    obtain ⟨⟨k1, _, _, k3, h1, _⟩, k4, _, _, k6, h2, _⟩ := e2
    exact ⟨_, _, _, _, _, _, h1, h2⟩
set_option maxRecDepth 100000 in
set_option maxHeartbeats 4000000 in
theorem rCheck_any {t : Tr} {d q : Value} (hw : wtT t < 4194304) (w : World) (h : It w t d q) :
    Calls Try.prog 35 #[itV t d q] w fun e w' => e = .returned (.int .i64 (errT t)) ∧ Below w.heap.size w w' := by
  have M1 : Hid (∀ W, Below w.heap.size w W → Calls Try.prog 52 #[.agg #[.bool t.l, d, q]] W fun e w' => e = .returned (.bool (oddT t)) ∧ Below W.heap.size W w') := fun W B => roddly_any t hw W (It.keep B t h)
  have M2 : Hid (∀ W, Below w.heap.size w W → Calls Try.prog 53 #[.agg #[.bool t.l, d, q]] W fun e w' => e = .returned (.int .i64 (dpT t)) ∧ Below W.heap.size W w') := fun W B => rdepth_any t hw W (It.keep B t h)
  have M3 : Hid (oddT t = false → ∀ W, Below w.heap.size w W → Calls Try.prog 54 #[.agg #[.bool t.l, d, q]] W fun e w' => e = .returned (.int .i64 ((encT t).length : Int)) ∧ Below W.heap.size W w') := fun ho W B => rsize_any t ho hw W (It.keep B t h)
  have hE := encT_len t
  have b3 : decide ((16777216 : Int) < ((encT t).length : Int)) = false := decide_eq_false (by omega)
  obtain ⟨k1, k2, k3, k4, k5, k6, rfl, rfl⟩ := h.slices
  unfold itV
  clear hE hw h
  by_cases ho : oddT t = true
  · have ee : errT t = 78 := by unfold errT; rw [if_pos ho]
    rw [ho] at M1
    rw [ee]
    generalize t.l = l at *
    clear b3 ho ee M2 M3
    go_enter Try.func35, Try.ntmps35
    go_wp2_with ((with_reducible refine (M1.out _ ((Below.refl _ _).alloc (Nat.le_refl _) _)).mono ?_); rintro e1 w1 ⟨rfl, hw⟩; (have B1 : Below w.heap.size w w1 := ((Below.refl w.heap.size w).alloc (Nat.le_refl _) _).trans (hw.mono (by simp))))
    all_goals simp [bodyPost, results, Try.results35, go_sem]
    all_goals exact B1
  · have ho' : oddT t = false := by simpa using ho
    have M3' : Hid (∀ W, Below w.heap.size w W → Calls Try.prog 54 #[.agg #[.bool t.l, .slice k1 k2 k3, .slice k4 k5 k6]] W fun e w' => e = .returned (.int .i64 ((encT t).length : Int)) ∧ Below W.heap.size W w') := M3.out ho'
    rw [ho'] at M1
    clear M3
    have ee : errT t = if 1024 < dpT t then 74 else 0 := by unfold errT; rw [if_neg ho]
    rw [ee]
    clear ee ho ho'
    generalize t.l = l at *
    generalize (encT t).length = E at *
    generalize hD : dpT t = D at *
    clear hD
    obtain ⟨Z, hZ⟩ : ∃ Z : Int, (if 1024 < D then 74 else 0) = Z := ⟨_, rfl⟩
    rw [hZ]
    have HZ : Hid _ := hZ
    clear hZ
    go_enter Try.func35, Try.ntmps35
    refine wp_seq_k fun K h => ?_
    have H : Hid _ := h
    clear h
    go_wp2_with fail
    refine H.out _ _ ?_
    clear H K
    refine wp_world (fun W => Below w.heap.size w W ∧ Bx W w.heap.size l (.slice k1 k2 k3) (.slice k4 k5 k6)) ⟨(Below.refl _ _).alloc (Nat.le_refl _) _, ⟨by simp [go_sem], by simp [go_sem], by simp [go_sem]⟩⟩ ?_
    rintro W ⟨B, hX⟩
    refine wp_seq_k fun K h => ?_
    have H : Hid _ := h
    clear h
    have hX' := hX
    obtain ⟨x0, x1, x2⟩ := hX'
    go_wp2_with ((with_reducible refine (M1.out _ B).mono ?_); rintro e1 w1 ⟨rfl, hw⟩; (replace B := B.trans (hw.mono B.size)); (replace hX := hX.keep hw))
    refine H.out _ _ ?_
    clear H K x0 x1 x2 hw W M1
    have hX' := hX
    obtain ⟨x0, x1, x2⟩ := hX'
    by_cases hd : 1024 < D
    · have hd' : (1024 : Int) < (D : Int) := by omega
      obtain rfl : Z = 74 := by have := HZ.out; rw [if_pos hd] at this; exact this.symm
      clear HZ
      go_wp2_with ((with_reducible refine (M2.out _ B).mono ?_); rintro e1 w2 ⟨rfl, hw⟩; (replace B := B.trans (hw.mono B.size)); (replace hX := hX.keep hw))
      all_goals simp [bodyPost, results, Try.results35, go_sem]
      all_goals exact B
    · have hd' : decide ((1024 : Int) < (D : Int)) = false := decide_eq_false (by omega)
      obtain rfl : Z = 0 := by have := HZ.out; rw [if_neg hd] at this; exact this.symm
      clear HZ
      refine wp_seq_k fun K h => ?_
      have H : Hid _ := h
      clear h
      go_wp2_with ((with_reducible refine (M2.out _ B).mono ?_); rintro e1 w2 ⟨rfl, hw⟩; (replace B := B.trans (hw.mono B.size)); (replace hX := hX.keep hw))
      refine H.out _ _ ?_
      clear H K x0 x1 x2 hw w1 M2
      obtain ⟨x0, x1, x2⟩ := hX
      go_wp2_with ((with_reducible refine (M3'.out _ B).mono ?_); rintro e1 w3 ⟨rfl, hw⟩; (replace B := B.trans (hw.mono B.size)))
      all_goals simp [bodyPost, results, Try.results35, go_sem]
      all_goals exact B
set_option maxRecDepth 100000 in
set_option maxHeartbeats 4000000 in
theorem rSize_any {t : Tr} {d q : Value} (hw : wtT t < 4194304) (w : World) (h : It w t d q) :
    Calls Try.prog 37 #[itV t d q] w fun e w' => e = .returned (.tuple #[.int .i64 (sizT t), .int .i64 (errT t)]) ∧ Below w.heap.size w w' := by
  have M1 : Hid (∀ W, Below w.heap.size w W → Calls Try.prog 35 #[.agg #[.bool t.l, d, q]] W fun e w' => e = .returned (.int .i64 (errT t)) ∧ Below W.heap.size W w') := fun W B => rCheck_any hw W (It.keep B t h)
  have M3 : Hid (oddT t = false → ∀ W, Below w.heap.size w W → Calls Try.prog 54 #[.agg #[.bool t.l, d, q]] W fun e w' => e = .returned (.int .i64 ((encT t).length : Int)) ∧ Below W.heap.size W w') := fun ho W B => rsize_any t ho hw W (It.keep B t h)
  obtain ⟨k1, k2, k3, k4, k5, k6, rfl, rfl⟩ := h.slices
  unfold itV
  clear hw h
  by_cases he : errT t = 0
  · have ho : oddT t = false := by
      cases e : oddT t with
      | false => rfl
      | true => unfold errT at he; rw [if_pos e] at he; cases he
    have M3' : Hid (∀ W, Below w.heap.size w W → Calls Try.prog 54 #[.agg #[.bool t.l, .slice k1 k2 k3, .slice k4 k5 k6]] W fun e w' => e = .returned (.int .i64 ((encT t).length : Int)) ∧ Below W.heap.size W w') := M3.out ho
    have es : sizT t = ((encT t).length : Int) := by unfold sizT; rw [if_pos he]
    rw [es, he]
    rw [he] at M1
    clear M3 es he ho
    generalize t.l = l at *
    generalize (encT t).length = E at *
    go_enter Try.func37, Try.ntmps37
    go_wp2_with (first
      | ((with_reducible refine (M1.out _ ((Below.refl _ _).alloc (Nat.le_refl _) _)).mono ?_); rintro e1 w1 ⟨rfl, hw⟩; (have B1 : Below w.heap.size w w1 := ((Below.refl w.heap.size w).alloc (Nat.le_refl _) _).trans (hw.mono (by simp))); (obtain ⟨x0, x1, x2⟩ : Bx w1 w.heap.size l (.slice k1 k2 k3) (.slice k4 k5 k6) := Bx.keep ⟨by simp [go_sem], by simp [go_sem], by simp [go_sem]⟩ hw))
      | ((with_reducible refine (M3'.out _ B1).mono ?_); rintro e1 w3 ⟨rfl, hw2⟩; (replace B1 := B1.trans (hw2.mono B1.size))))
    all_goals simp [bodyPost, results, Try.results37, go_sem]
    all_goals exact B1
  · have es : sizT t = 0 := by unfold sizT; rw [if_neg he]
    rw [es]
    clear M3 es
    generalize t.l = l at *
    generalize errT t = y at *
    have he' : (y == 0) = false := by simpa using he
    go_enter Try.func37, Try.ntmps37
    go_wp2_with (first
      | ((with_reducible refine (M1.out _ ((Below.refl _ _).alloc (Nat.le_refl _) _)).mono ?_); rintro e1 w1 ⟨rfl, hw⟩; (have B1 : Below w.heap.size w w1 := ((Below.refl w.heap.size w).alloc (Nat.le_refl _) _).trans (hw.mono (by simp)))))
    all_goals simp [bodyPost, results, Try.results37, go_sem]
    all_goals exact B1
end Go.Proofs.Ytdjjphcfobbipaa

/- Layer 7: the document's put. -/
namespace Go.Proofs.Ytdjjphcfobbipaa
open Go.RowKit Go.Sort

/-- What is kept but for the blocks of S. -/
structure ChgT (S : Nat → Prop) (w w' : World) : Prop where
  os : w'.os = w.os
  tape : w'.tape = w.tape
  output : w'.output = w.output
  size : w.heap.size ≤ w'.heap.size
  block : ∀ k, k < w.heap.size → ¬ S k → w'.heap[k]? = w.heap[k]?
theorem ChgT.refl (S : Nat → Prop) (w : World) : ChgT S w w := ⟨rfl, rfl, rfl, Nat.le_refl _, fun _ _ _ => rfl⟩
theorem ChgT.trans {S T : Nat → Prop} {w w1 w2 : World} (h : ChgT S w w1) (k : ChgT T w1 w2) (hT : ∀ j, T j → S j ∨ w.heap.size ≤ j) : ChgT S w w2 :=
  ⟨k.os.trans h.os, k.tape.trans h.tape, k.output.trans h.output, Nat.le_trans h.size k.size, fun j hj hn => (k.block j (Nat.lt_of_lt_of_le hj h.size) (fun t => by
    rcases hT j t with s | s
    · exact hn s
    · omega)).trans (h.block j hj hn)⟩
theorem ChgT.of_below {S : Nat → Prop} {w w' : World} (h : Below w.heap.size w w') : ChgT S w w' := ⟨h.os, h.tape, h.output, h.size, fun k hk _ => h.block k hk⟩
theorem ChgT.of_grown {row : Option Nat} {w w' : World} (h : w.grownBy w' row) : ChgT (fun k => row = some k) w w' := ⟨h.os, h.tape, h.output, h.size, fun k hk hn => h.block k hk (fun e => hn e.symm)⟩
theorem ChgT.below {S : Nat → Prop} {B : Nat} {w w' : World} (h : ChgT S w w') (hB : B ≤ w.heap.size) (hS : ∀ k, S k → B ≤ k) : Below B w w' := ⟨h.os, h.tape, h.output, h.size, fun k hk => h.block k (by omega) (fun s => by have := hS k s; omega)⟩
theorem ChgT.cell {S : Nat → Prop} {w w' : World} (h : ChgT S w w') {b i : Nat} {v : Value} (hs : ¬ S b) (hc : w.cell? ⟨b, i, none⟩ = some v) : w'.cell? ⟨b, i, none⟩ = some v := by
  rw [World.cell?_of_block (w := w) (a := ⟨b, i, none⟩) (h.block b (World.block_lt_of_cell? w _ hc) hs)]; exact hc
theorem Bx.chg {S : Nat → Prop} {w w' : World} (h : ChgT S w w') {b : Nat} {l : Bool} {d q : Value} (hs : ¬ S b) (x : Bx w b l d q) : Bx w' b l d q := ⟨h.cell hs x.1, h.cell hs x.2.1, h.cell hs x.2.2⟩
/-- append(v, x...): x any list that can be read. -/
theorem run_append_ry {B : Nat} {w : World} {v : Value} {a : Option Addr} {g p c : Nat} {P Q : List Int} {ty : TypeId} (h : OwnB B w v P) (ha : Az a g p Q) (hnc : a = none → c = 0) (hz : Bz w g p Q) (hl : P.length + Q.length < 140737488355000) (hB : B ≤ w.heap.size) :
    ∃ v' w', (Builtin.append_ #[22, 22] ty #[v, .slice a Q.length c]).run Try.prog w = .ok v' w' ∧ OwnB B w' v' (P ++ Q) ∧ w.grownBy w' v.ownBlock ∧ (v'.ownBlock = v.ownBlock ∨ v'.ownBlock = some w.heap.size) := by
  obtain ⟨i0, hi, hz0, hz1, hz2⟩ := info_parts info_byte
  have eo : ∀ {w' : World} {v' : Value}, w'.ownsRow B 5 1 v' (P.length + Q.length) (P.map (Value.int .u8) ++ Q.map (Value.int .u8)) → OwnB B w' v' (P ++ Q) := fun {w'} {v'} h => by
    rw [OwnB, List.length_append, List.map_append]; exact h
  by_cases q0 : Q = []
  · subst q0
    cases a with
    | none =>
      obtain rfl := hnc rfl
      exact ⟨v, w, run_append_owned_none (P := Try.prog) w B 22 ty 5 i0 1 Try.underlying22 hi v P.length _ h, by rw [List.append_nil]; exact h, World.grownBy.refl _ _, .inl rfl⟩
    | some ad =>
      obtain ⟨v', w', hr, h2, h3, _, h5⟩ := run_append_own_at (P := Try.prog) w B 22 ty 5 i0 (.int .u8 0) 1 1 Try.underlying22 hi hz0 hz1 hz2 rfl (by decide) v P.length _ h ad 0 c [] rfl (fun j u hu => by simp at hu) (fun u hu => by cases hu) (by unfold maxLen; simp at hl; omega) (by simp at hl; omega) hB
      exact ⟨v', w', hr, eo h2, h3, h5⟩
  · obtain rfl : a = some ⟨g, p, none⟩ := ha.resolve_left q0
    obtain ⟨v', w', hr, h2, h3, _, h5⟩ := run_append_own_at (P := Try.prog) w B 22 ty 5 i0 (.int .u8 0) 1 1 Try.underlying22 hi hz0 hz1 hz2 rfl (by decide) v P.length _ h ⟨g, p, none⟩ Q.length c (Q.map (Value.int .u8)) (by simp) (fun j u hu => by
      rw [List.getElem?_map] at hu
      obtain ⟨x, hx, rfl⟩ := Option.map_eq_some_iff.1 hu
      have hj : j < Q.length := (List.getElem?_eq_some_iff.1 hx).1
      rw [Addr.add_mid, hz j hj]
      simp [List.getD, hx]) (fun u hu => by obtain ⟨y, _, rfl⟩ := List.mem_map.1 hu; rfl) (by unfold maxLen; omega) (by omega) hB
    exact ⟨v', w', hr, eo h2, h3, h5⟩
theorem wpList_append_ry {ops : Array Oper} {rest : List Oper} {o : Oper} {a : Act} {Q : Exit → Act → World → Prop} {w : World} {B : Nat} {v : Value} {sa : Option Addr} {g p c n : Nat} {P1 Q1 : List Int} (hgd : o.guard = none) (s t : Operand)
    (ho : o.op = .call { callee := .builtin .append, args := #[s, t], argTypes := #[22, 22] }) (hs : a.eval s = v) (hx : a.eval t = .slice sa n c) (hn : n = Q1.length)
    (h : OwnB B w v P1) (ha : Az sa g p Q1) (hnc : sa = none → c = 0) (hz : Bz w g p Q1) (hl : P1.length + Q1.length < 140737488355000) (hB : B ≤ w.heap.size)
    (hK : ∀ v' w', OwnB B w' v' (P1 ++ Q1) → w.grownBy w' v.ownBlock → (v'.ownBlock = v.ownBlock ∨ v'.ownBlock = some w.heap.size) → wpList Try.prog ops Q rest (a.put o.dst v') w') :
    wpList Try.prog ops Q (o :: rest) a w := by
  subst hn
  refine wpList_plain hgd fun K hK2 => ?_
  obtain ⟨v', w', hr, h2, h3, h4⟩ := run_append_ry (ty := o.type) (c := c) h ha hnc hz hl hB
  unfold Oper.wp execOp
  simp only [ho, resolve, invoke, builtin, Sem.run_bind, Sem.run_pure, Result.andThen_ok, List.map_toArray, List.map_cons, List.map_nil, hs, hx, hr]
  exact hK2 _ _ (hK v' w' h2 h3 h4)
end Go.Proofs.Ytdjjphcfobbipaa
