import Derived.Test.YtaefmdofchjofaaRxD
/- Layer 7: the document's Check, Size. -/
namespace Go.Proofs.Ytaefmdofchjofaa
open Go.RowKit Go.Sort

theorem It.slices {W : World} {t : Tr} {d q : Value} (h : It W t d q) : ∃ k1 k2 k3 k4 k5 k6, d = .slice k1 k2 k3 ∧ q = .slice k4 k5 k6 := by
  revert h
  cases t with
  | mk l' X' ts' =>
    intro e2
    rw [It] at e2
    obtain ⟨⟨k1, _, _, k3, h1, _⟩, k4, _, _, k6, h2, _⟩ := e2
    exact ⟨_, _, _, _, _, _, h1, h2⟩
set_option maxRecDepth 100000 in
set_option maxHeartbeats 4000000 in
theorem rCheck_any {t : Tr} {d q : Value} (hw : wtT t < 4194304) (w : World) (h : It w t d q) :
    Calls Try.prog 57 #[itV t d q] w fun e w' => e = .returned (.int .i64 (errT t)) ∧ Below w.heap.size w w' := by
  have M1 : Hid (∀ W, Below w.heap.size w W → Calls Try.prog 74 #[.agg #[.bool t.l, d, q]] W fun e w' => e = .returned (.bool (oddT t)) ∧ Below W.heap.size W w') := fun W B => roddly_any t hw W (It.keep B t h)
  have M2 : Hid (∀ W, Below w.heap.size w W → Calls Try.prog 75 #[.agg #[.bool t.l, d, q]] W fun e w' => e = .returned (.int .i64 (dpT t)) ∧ Below W.heap.size W w') := fun W B => rdepth_any t hw W (It.keep B t h)
  have M3 : Hid (oddT t = false → ∀ W, Below w.heap.size w W → Calls Try.prog 76 #[.agg #[.bool t.l, d, q]] W fun e w' => e = .returned (.int .i64 ((encT t).length : Int)) ∧ Below W.heap.size W w') := fun ho W B => rsize_any t ho hw W (It.keep B t h)
  have hE := encT_len t
  have b3 : decide ((16777216 : Int) < ((encT t).length : Int)) = false := decide_eq_false (by omega)
  obtain ⟨k1, k2, k3, k4, k5, k6, rfl, rfl⟩ := h.slices
  unfold itV
  clear hE hw h
  by_cases ho : oddT t = true
  · have ee : errT t = 78 := by unfold errT; rw [if_pos ho]
    rw [ho] at M1
    rw [ee]
    generalize t.l = l at *
    clear b3 ho ee M2 M3
    go_enter Try.func57, Try.ntmps57
    go_wp2_with ((with_reducible refine (M1.out _ ((Below.refl _ _).alloc (Nat.le_refl _) _)).mono ?_); rintro e1 w1 ⟨rfl, hw⟩; (have B1 : Below w.heap.size w w1 := ((Below.refl w.heap.size w).alloc (Nat.le_refl _) _).trans (hw.mono (by simp))))
    all_goals simp [bodyPost, results, Try.results57, go_sem]
    all_goals exact B1
  · have ho' : oddT t = false := by simpa using ho
    have M3' : Hid (∀ W, Below w.heap.size w W → Calls Try.prog 76 #[.agg #[.bool t.l, .slice k1 k2 k3, .slice k4 k5 k6]] W fun e w' => e = .returned (.int .i64 ((encT t).length : Int)) ∧ Below W.heap.size W w') := M3.out ho'
    rw [ho'] at M1
    clear M3
    have ee : errT t = if 1024 < dpT t then 74 else 0 := by unfold errT; rw [if_neg ho]
    rw [ee]
    clear ee ho ho'
    generalize t.l = l at *
    generalize (encT t).length = E at *
    generalize hD : dpT t = D at *
    clear hD
    obtain ⟨Z, hZ⟩ : ∃ Z : Int, (if 1024 < D then 74 else 0) = Z := ⟨_, rfl⟩
    rw [hZ]
    have HZ : Hid _ := hZ
    clear hZ
    go_enter Try.func57, Try.ntmps57
    refine wp_seq_k fun K h => ?_
    have H : Hid _ := h
    clear h
    go_wp2_with fail
    refine H.out _ _ ?_
    clear H K
    refine wp_world (fun W => Below w.heap.size w W ∧ Bx W w.heap.size l (.slice k1 k2 k3) (.slice k4 k5 k6)) ⟨(Below.refl _ _).alloc (Nat.le_refl _) _, ⟨by simp [go_sem], by simp [go_sem], by simp [go_sem]⟩⟩ ?_
    rintro W ⟨B, hX⟩
    refine wp_seq_k fun K h => ?_
    have H : Hid _ := h
    clear h
    have hX' := hX
    obtain ⟨x0, x1, x2⟩ := hX'
    go_wp2_with ((with_reducible refine (M1.out _ B).mono ?_); rintro e1 w1 ⟨rfl, hw⟩; (replace B := B.trans (hw.mono B.size)); (replace hX := hX.keep hw))
    refine H.out _ _ ?_
    clear H K x0 x1 x2 hw W M1
    have hX' := hX
    obtain ⟨x0, x1, x2⟩ := hX'
    by_cases hd : 1024 < D
    · have hd' : (1024 : Int) < (D : Int) := by omega
      obtain rfl : Z = 74 := by have := HZ.out; rw [if_pos hd] at this; exact this.symm
      clear HZ
      go_wp2_with ((with_reducible refine (M2.out _ B).mono ?_); rintro e1 w2 ⟨rfl, hw⟩; (replace B := B.trans (hw.mono B.size)); (replace hX := hX.keep hw))
      all_goals simp [bodyPost, results, Try.results57, go_sem]
      all_goals exact B
    · have hd' : decide ((1024 : Int) < (D : Int)) = false := decide_eq_false (by omega)
      obtain rfl : Z = 0 := by have := HZ.out; rw [if_neg hd] at this; exact this.symm
      clear HZ
      refine wp_seq_k fun K h => ?_
      have H : Hid _ := h
      clear h
      go_wp2_with ((with_reducible refine (M2.out _ B).mono ?_); rintro e1 w2 ⟨rfl, hw⟩; (replace B := B.trans (hw.mono B.size)); (replace hX := hX.keep hw))
      refine H.out _ _ ?_
      clear H K x0 x1 x2 hw w1 M2
      obtain ⟨x0, x1, x2⟩ := hX
      go_wp2_with ((with_reducible refine (M3'.out _ B).mono ?_); rintro e1 w3 ⟨rfl, hw⟩; (replace B := B.trans (hw.mono B.size)))
      all_goals simp [bodyPost, results, Try.results57, go_sem]
      all_goals exact B
end Go.Proofs.Ytaefmdofchjofaa

/- Layer 7: the document's put. -/
namespace Go.Proofs.Ytaefmdofchjofaa
open Go.RowKit Go.Sort

/-- What is kept but for the blocks of S. -/
structure ChgT (S : Nat → Prop) (w w' : World) : Prop where
  os : w'.os = w.os
  tape : w'.tape = w.tape
  output : w'.output = w.output
  size : w.heap.size ≤ w'.heap.size
  block : ∀ k, k < w.heap.size → ¬ S k → w'.heap[k]? = w.heap[k]?
theorem ChgT.refl (S : Nat → Prop) (w : World) : ChgT S w w := ⟨rfl, rfl, rfl, Nat.le_refl _, fun _ _ _ => rfl⟩
theorem ChgT.trans {S T : Nat → Prop} {w w1 w2 : World} (h : ChgT S w w1) (k : ChgT T w1 w2) (hT : ∀ j, T j → S j ∨ w.heap.size ≤ j) : ChgT S w w2 :=
  ⟨k.os.trans h.os, k.tape.trans h.tape, k.output.trans h.output, Nat.le_trans h.size k.size, fun j hj hn => (k.block j (Nat.lt_of_lt_of_le hj h.size) (fun t => by
    rcases hT j t with s | s
    · exact hn s
    · omega)).trans (h.block j hj hn)⟩
theorem ChgT.of_below {S : Nat → Prop} {w w' : World} (h : Below w.heap.size w w') : ChgT S w w' := ⟨h.os, h.tape, h.output, h.size, fun k hk _ => h.block k hk⟩
theorem ChgT.of_grown {row : Option Nat} {w w' : World} (h : w.grownBy w' row) : ChgT (fun k => row = some k) w w' := ⟨h.os, h.tape, h.output, h.size, fun k hk hn => h.block k hk (fun e => hn e.symm)⟩
theorem ChgT.below {S : Nat → Prop} {B : Nat} {w w' : World} (h : ChgT S w w') (hB : B ≤ w.heap.size) (hS : ∀ k, S k → B ≤ k) : Below B w w' := ⟨h.os, h.tape, h.output, h.size, fun k hk => h.block k (by omega) (fun s => by have := hS k s; omega)⟩
theorem ChgT.cell {S : Nat → Prop} {w w' : World} (h : ChgT S w w') {b i : Nat} {v : Value} (hs : ¬ S b) (hc : w.cell? ⟨b, i, none⟩ = some v) : w'.cell? ⟨b, i, none⟩ = some v := by
  rw [World.cell?_of_block (w := w) (a := ⟨b, i, none⟩) (h.block b (World.block_lt_of_cell? w _ hc) hs)]; exact hc
theorem Bx.chg {S : Nat → Prop} {w w' : World} (h : ChgT S w w') {b : Nat} {l : Bool} {d q : Value} (hs : ¬ S b) (x : Bx w b l d q) : Bx w' b l d q := ⟨h.cell hs x.1, h.cell hs x.2.1, h.cell hs x.2.2⟩
/-- append(v, x...): x any list that can be read. -/
theorem run_append_ry {B : Nat} {w : World} {v : Value} {a : Option Addr} {g p c : Nat} {P Q : List Int} {ty : TypeId} (h : OwnB B w v P) (ha : Az a g p Q) (hnc : a = none → c = 0) (hz : Bz w g p Q) (hl : P.length + Q.length < 140737488355000) (hB : B ≤ w.heap.size) :
    ∃ v' w', (Builtin.append_ #[29, 29] ty #[v, .slice a Q.length c]).run Try.prog w = .ok v' w' ∧ OwnB B w' v' (P ++ Q) ∧ w.grownBy w' v.ownBlock ∧ (v'.ownBlock = v.ownBlock ∨ v'.ownBlock = some w.heap.size) := by
  obtain ⟨i0, hi, hz0, hz1, hz2⟩ := info_parts info_byte
  have eo : ∀ {w' : World} {v' : Value}, w'.ownsRow B 5 1 v' (P.length + Q.length) (P.map (Value.int .u8) ++ Q.map (Value.int .u8)) → OwnB B w' v' (P ++ Q) := fun {w'} {v'} h => by
    rw [OwnB, List.length_append, List.map_append]; exact h
  by_cases q0 : Q = []
  · subst q0
    cases a with
    | none =>
      obtain rfl := hnc rfl
      exact ⟨v, w, run_append_owned_none (P := Try.prog) w B 29 ty 5 i0 1 Try.underlying29 hi v P.length _ h, by rw [List.append_nil]; exact h, World.grownBy.refl _ _, .inl rfl⟩
    | some ad =>
      obtain ⟨v', w', hr, h2, h3, _, h5⟩ := run_append_own_at (P := Try.prog) w B 29 ty 5 i0 (.int .u8 0) 1 1 Try.underlying29 hi hz0 hz1 hz2 rfl (by decide) v P.length _ h ad 0 c [] rfl (fun j u hu => by simp at hu) (fun u hu => by cases hu) (by unfold maxLen; simp at hl; omega) (by simp at hl; omega) hB
      exact ⟨v', w', hr, eo h2, h3, h5⟩
  · obtain rfl : a = some ⟨g, p, none⟩ := ha.resolve_left q0
    obtain ⟨v', w', hr, h2, h3, _, h5⟩ := run_append_own_at (P := Try.prog) w B 29 ty 5 i0 (.int .u8 0) 1 1 Try.underlying29 hi hz0 hz1 hz2 rfl (by decide) v P.length _ h ⟨g, p, none⟩ Q.length c (Q.map (Value.int .u8)) (by simp) (fun j u hu => by
      rw [List.getElem?_map] at hu
      obtain ⟨x, hx, rfl⟩ := Option.map_eq_some_iff.1 hu
      have hj : j < Q.length := (List.getElem?_eq_some_iff.1 hx).1
      rw [Addr.add_mid, hz j hj]
      simp [List.getD, hx]) (fun u hu => by obtain ⟨y, _, rfl⟩ := List.mem_map.1 hu; rfl) (by unfold maxLen; omega) (by omega) hB
    exact ⟨v', w', hr, eo h2, h3, h5⟩
theorem wpList_append_ry {ops : Array Oper} {rest : List Oper} {o : Oper} {a : Act} {Q : Exit → Act → World → Prop} {w : World} {B : Nat} {v : Value} {sa : Option Addr} {g p c n : Nat} {P1 Q1 : List Int} (hgd : o.guard = none) (s t : Operand)
    (ho : o.op = .call { callee := .builtin .append, args := #[s, t], argTypes := #[29, 29] }) (hs : a.eval s = v) (hx : a.eval t = .slice sa n c) (hn : n = Q1.length)
    (h : OwnB B w v P1) (ha : Az sa g p Q1) (hnc : sa = none → c = 0) (hz : Bz w g p Q1) (hl : P1.length + Q1.length < 140737488355000) (hB : B ≤ w.heap.size)
    (hK : ∀ v' w', OwnB B w' v' (P1 ++ Q1) → w.grownBy w' v.ownBlock → (v'.ownBlock = v.ownBlock ∨ v'.ownBlock = some w.heap.size) → wpList Try.prog ops Q rest (a.put o.dst v') w') :
    wpList Try.prog ops Q (o :: rest) a w := by
  subst hn
  refine wpList_plain hgd fun K hK2 => ?_
  obtain ⟨v', w', hr, h2, h3, h4⟩ := run_append_ry (ty := o.type) (c := c) h ha hnc hz hl hB
  unfold Oper.wp execOp
  simp only [ho, resolve, invoke, builtin, Sem.run_bind, Sem.run_pure, Result.andThen_ok, List.map_toArray, List.map_cons, List.map_nil, hs, hx, hr]
  exact hK2 _ _ (hK v' w' h2 h3 h4)
end Go.Proofs.Ytaefmdofchjofaa

/- Layer 7: the document's put, of a list. -/
namespace Go.Proofs.Ytaefmdofchjofaa
open Go.RowKit Go.Sort

/-- Bytes of one's own, put on: what is kept, whose the row is. -/
structure Pu (B : Nat) (w w' : World) (v v' : Value) (X : List Int) : Prop where
  own : OwnB B w' v' X
  chg : ChgT (fun k => v.ownBlock = some k) w w'
  row : ∀ k, v'.ownBlock = some k → v.ownBlock = some k ∨ w.heap.size ≤ k
theorem Pu.trans {B : Nat} {w w1 w2 : World} {v v1 v2 : Value} {X Y : List Int} (h : Pu B w w1 v v1 X) (k : Pu B w1 w2 v1 v2 Y) : Pu B w w2 v v2 Y :=
  ⟨k.own, h.chg.trans k.chg h.row, fun j hj => by
    rcases k.row j hj with e | e
    · exact h.row j e
    · exact .inr (Nat.le_trans h.chg.size e)⟩
theorem Pu.of_below {B : Nat} {w w' : World} {v : Value} {X : List Int} (h : OwnB B w v X) (hb : Below w.heap.size w w') : Pu B w w' v v X := ⟨h.keep hb, .of_below hb, fun _ hk => .inl hk⟩
theorem Pu.of_grown {B : Nat} {w w' : World} {v v' : Value} {X : List Int} (h : OwnB B w' v' X) (hg : w.grownBy w' v.ownBlock) (hr : v'.ownBlock = v.ownBlock ∨ v'.ownBlock = some w.heap.size) : Pu B w w' v v' X :=
  ⟨h, .of_grown hg, fun k hk => by
    rcases hr with e | e
    · exact .inl (e ▸ hk)
    · rw [e] at hk; cases hk; exact .inr (Nat.le_refl _)⟩
set_option maxRecDepth 100000 in
set_option maxHeartbeats 8000000 in
theorem rput_list {ts : List Tr} {a a' : Option Addr} {b' o' c c' : Nat} {w0 : World} {P : List Int} {v : Value} (ho : oddS ts = false) (hn : wtS ts < 4194304) (k2 : ts.length ≤ c') (k3 : ts = [] ∨ a' = some ⟨b', o', none⟩) (k4 : Its w0 b' o' ts) (w : World) (hB : Below w0.heap.size w0 w) (hv : OwnB w0.heap.size w v P) (hp : P.length + 4 * (1 + wtS ts) < 1000000000)
    (ih : ∀ t ∈ ts, ∀ {d q : Value} (_ : oddT t = false) (_ : wtT t < 4194304) (_ : It w0 t d q) (w : World) (_ : Below w0.heap.size w0 w) (v : Value) (P : List Int) (_ : OwnB w0.heap.size w v P) (_ : P.length + 4 * wtT t < 1000000000), Calls Try.prog 58 #[v, itV t d q] w fun e w' => ∃ v', e = .returned v' ∧ Pu w0.heap.size w w' v v' (P ++ encT t)) :
    Calls Try.prog 58 #[v, .agg #[.bool true, .slice a 0 c, .slice a' ts.length c']] w fun e w' => ∃ v', e = .returned v' ∧ Pu w0.heap.size w w' v v' (P ++ (hdR 192 (encS ts).length ++ encS ts)) := by
  have HI : Hid (∀ W, Below w0.heap.size w0 W → Its W b' o' ts) := fun W B => Its.of fun i hi => by
    obtain ⟨d, q, e1, e2⟩ := k4.at i hi
    exact ⟨d, q, rangeT_keep e1 B, It.keep B _ e2⟩
  have HI0 : Hid (Its w0 b' o' ts) := k4
  have HN : Hid (wtS ts < 4194304 ∧ ts.length ≤ c' ∧ (ts = [] ∨ a' = some ⟨b', o', none⟩) ∧ oddS ts = false) := ⟨hn, k2, k3, ho⟩
  have HP : Hid (P.length + 4 * (1 + wtS ts) < 1000000000) := hp
  have IH : Hid _ := @ih
  have HV : Hid (OwnB w0.heap.size w v P ∧ Below w0.heap.size w0 w) := ⟨hv, hB⟩
  have hl : (ts.length : Int) ≤ 4194304 := by have := len_wt ts; omega
  obtain ⟨va, vg, vc, ev, -⟩ := hv.lies
  clear k2 k3 k4 hn ih ho hv hB hp
  have hnb : v.ownBlock ≠ some w.heap.size := fun e => by have := (HV.out.1.lt _ e).2; omega
  have NB : Hid (v.ownBlock ≠ some w.heap.size) := hnb
  clear hnb
  subst ev
  generalize hpl : P.length = pl at *
  have PL : Hid (P.length = pl) := hpl
  clear hpl
  go_enter Try.func58, Try.ntmps58
  refine wp_seq_k fun K h => ?_
  have H : Hid _ := h
  clear h
  go_wp2_with fail
  refine H.out _ _ ?_
  clear H K
  refine wp_world (fun W => Below w.heap.size w W ∧ Bx W w.heap.size true (.slice a 0 c) (.slice a' ts.length c') ∧ W.heap.size = w.heap.size + 1) ⟨(Below.refl _ _).alloc (Nat.le_refl _) _, ⟨by simp [go_sem], by simp [go_sem], by simp [go_sem]⟩, by simp⟩ ?_
  rintro W ⟨B, hX, hs⟩
  have BX : Hid (Bx W w.heap.size true (.slice a 0 c) (.slice a' ts.length c') ∧ W.heap.size = w.heap.size + 1 ∧ Below w.heap.size w W) := ⟨hX, hs, B⟩
  obtain ⟨x0, x1, x2⟩ := hX
  clear hs B
  -- what is known of a world behind W that only grew the bytes
  have FW : Hid (∀ V vr X, Pu w0.heap.size W V (.slice va pl vc) vr X → Below w0.heap.size w0 V ∧ V.cell? ⟨w.heap.size, 2, none⟩ = some (.slice a' ts.length c') ∧ w0.heap.size ≤ V.heap.size) := fun V vr X h => by
    have hl2 : ∀ k, (Value.slice va pl vc).ownBlock = some k → w0.heap.size ≤ k := fun k hk => (HV.out.1.lt k hk).1
    have b0 : Below w0.heap.size w0 W := HV.out.2.trans (BX.out.2.2.mono HV.out.2.size)
    have b1 := h.chg.below (B := w0.heap.size) b0.size hl2
    exact ⟨b0.trans b1, h.chg.cell (fun e => NB.out e) BX.out.1.2.2, Nat.le_trans b0.size h.chg.size⟩
  have PW : Hid (Pu w0.heap.size w W (.slice va pl vc) (.slice va pl vc) P) := Pu.of_below HV.out.1 BX.out.2.2
  clear x1
  go_wp2_with fail
  clear x0
  go_loopg [5, 6] ts.length (fun k mv iv wr => ∃ i : Nat, k = ts.length - i ∧ i ≤ ts.length ∧ mv = .int .i64 ((encS (ts.take i)).length : Int) ∧ iv = .int .i64 (i : Int) ∧ Pu w0.heap.size W wr (.slice va pl vc) (.slice va pl vc) P)
  case atStart => exact ⟨0, rfl, Nat.zero_le _, by simp [encS], rfl, Pu.of_below PW.out.own (Below.refl _ _)⟩
  case round =>
    clear x2
    obtain ⟨i, hk, hi, rfl, rfl, hP⟩ := hrel
    have HK : Hid (gk = ts.length - i ∧ i ≤ ts.length) := ⟨hk, hi⟩
    clear hk
    obtain ⟨B, x2, hsz⟩ := FW.out _ _ _ hP
    by_cases h8 : i = ts.length
    · subst h8
      rw [List.take_length]
      have hE := encS_len ts
      have h4 := hdR_len 192 (encS ts).length
      have HB : Hid ((hdR 192 (encS ts).length).length ≤ 4 ∧ (encS ts).length < 16777216) := ⟨h4, by have := HN.out.1; omega⟩
      have BF : Hid (∀ w, Calls Try.prog 77 #[.int .i64 ((encS ts).length : Int), .int .i64 192] w fun e w' => ∃ v', e = .returned v' ∧ OwnB w.heap.size w' v' (hdR 192 (encS ts).length) ∧ Below w.heap.size w w') := fun w => before_any HB.out.2 w
      have HX : Hid (Pu w0.heap.size W wr (.slice va pl vc) (.slice va pl vc) P ∧ P.length = pl ∧ w0.heap.size ≤ wr.heap.size) := ⟨hP, PL.out, hsz⟩
      clear hE h4 hP hsz B
      clear HK
      go_wp2_with (first
        | ((with_reducible refine (BF.out _).mono ?_); rintro e1 w2 ⟨v2, rfl, o2, b2⟩; (obtain ⟨a2, g2, c2, rfl, q2, z2, y2, _, _, nc2⟩ := o2.lies))
        | (at_builtin; (refine wpList_append_ry rfl _ _ rfl rfl rfl rfl (HX.out.1.own.keep b2) z2 nc2 y2 (by have := HP.out; have := HB.out; have := HX.out.2.1; omega) (Nat.le_trans HX.out.2.2 b2.size) ?_); intro v3 w3 o3 g3 r3))
      have Q0 : Pu w0.heap.size W w3 (.slice va pl vc) v3 (P ++ hdR 192 (encS ts).length) := (HX.out.1.trans (Pu.of_below HX.out.1.own b2)).trans (Pu.of_grown o3 g3 r3)
      clear o2 q2 z2 y2 nc2 b2 o3 g3 r3 HX BF x2
      go_loopg [0, 7] ts.length (fun k ov iv wr => ∃ (i : Nat) (vr : Value), k = ts.length - i ∧ i ≤ ts.length ∧ ov = vr ∧ iv = .int .i64 (i : Int) ∧ Pu w0.heap.size W wr (.slice va pl vc) vr (P ++ (hdR 192 (encS ts).length ++ encS (ts.take i))))
      case atStart => exact ⟨0, v3, rfl, Nat.zero_le _, rfl, rfl, by simpa [encS] using Q0⟩
      case round =>
        clear Q0
        obtain ⟨i, vr, hk, hi, rfl, rfl, hP⟩ := hrel
        have HK : Hid (gk = ts.length - i ∧ i ≤ ts.length) := ⟨hk, hi⟩
        clear hk
        obtain ⟨B, x2, hsz⟩ := FW.out _ _ _ hP
        by_cases h8 : i = ts.length
        · subst h8
          rw [List.take_length] at hP
          have HX : Hid (Pu w0.heap.size w wr (.slice va pl vc) _ (P ++ (hdR 192 (encS ts).length ++ encS ts))) := PW.out.trans hP
          clear HK hi hP B hsz
          go_wp2
          simp [bodyPost, results, Try.results58, go_sem]
          exact HX.out
        · have hlt : i < ts.length := by omega
          have hlt' : (i : Int) < (ts.length : Int) := by omega
          have ha : a' = some ⟨b', o', none⟩ := by
            rcases HN.out.2.2.1 with e | e
            · rw [e] at hlt; exact absurd hlt (Nat.not_lt_zero _)
            · exact e
          subst ha
          obtain ⟨d, q, e1, e2⟩ := HI0.out.at i hlt
          have R1 : Hid (wr.rangeAt b' (o' + i * 3) [.bool (ts.getD i zT).l, d, q]) := rangeT_keep e1 B
          have hwt := wt_item hlt
          have e3 := take_snoc hlt
          have hod := odd_item HN.out.2.2.2 hlt
          have hE := encS_len (ts.take i)
          have hE2 := encT_len (ts.getD i zT)
          have e5 : encS (ts.take (i + 1)) = encS (ts.take i) ++ encT (ts.getD i zT) := by rw [e3, encS_app, encS, encS, List.append_nil]
          have MC : Hid (Calls Try.prog 58 #[u0, .agg #[.bool (ts.getD i zT).l, d, q]] wr fun e w' => ∃ v', e = .returned v' ∧ Pu w0.heap.size wr w' u0 v' (P ++ (hdR 192 (encS ts).length ++ encS (ts.take i)) ++ encT (ts.getD i zT))) := IH.out _ (getT_mem hlt) hod (by have := HN.out.1; omega) e2 wr B _ _ hP.own (by
            have := HP.out; have := PL.out; have := HB.out.1
            simp only [List.length_append]; omega)
          have NX : Hid (encS (ts.take (i + 1)) = encS (ts.take i) ++ encT (ts.getD i zT)) := e5
          have HX : Hid _ := hP
          clear e1 e2 hwt e3 hod hE hE2 e5 hP B hsz hi h8
          generalize (ts.getD i zT).l = lt at *
          go_wp2_with (first
            | (refine wpList_load_mid rfl _ _ rfl b' (o' + i * 3) rfl _ _ R1.out Try.underlying48 rfl size_it ?_)
            | ((with_reducible refine MC.out.mono ?_); rintro e1 w2 ⟨v2, rfl, p2⟩))
          go_roundg (ts.length - (i + 1))
          case measure => have := HK.out.1; omega
          case rel => exact ⟨i + 1, v2, rfl, hlt, rfl, by go_num, by rw [NX.out, ← List.append_assoc (hdR _ _), ← List.append_assoc P]; exact HX.out.trans p2⟩
    · have hlt : i < ts.length := by omega
      have hlt' : (i : Int) < (ts.length : Int) := by omega
      have ha : a' = some ⟨b', o', none⟩ := by
        rcases HN.out.2.2.1 with e | e
        · rw [e] at hlt; exact absurd hlt (Nat.not_lt_zero _)
        · exact e
      subst ha
      obtain ⟨d, q, e1, e2⟩ := HI0.out.at i hlt
      have R1 : Hid (wr.rangeAt b' (o' + i * 3) [.bool (ts.getD i zT).l, d, q]) := rangeT_keep e1 B
      have hwt := wt_item hlt
      have e3 := take_snoc hlt
      have hod := odd_item HN.out.2.2.2 hlt
      have hE := encS_len (ts.take i)
      have hE2 := encT_len (ts.getD i zT)
      have ee : (encS (ts.take (i + 1))).length = (encS (ts.take i)).length + (encT (ts.getD i zT)).length := by rw [e3, encS_app, List.length_append, encS, encS, List.append_nil]
      have MC : Hid (∀ W, Below wr.heap.size wr W → Calls Try.prog 76 #[.agg #[.bool (ts.getD i zT).l, d, q]] W fun e w' => e = .returned (.int .i64 ((encT (ts.getD i zT)).length : Int)) ∧ Below W.heap.size W w') := fun W BW => rsize_any _ hod (by have := HN.out.1; omega) W (It.keep BW _ (It.keep B _ e2))
      have NX : Hid ((encS (ts.take (i + 1))).length = (encS (ts.take i)).length + (encT (ts.getD i zT)).length ∧ (encS (ts.take i)).length + (encT (ts.getD i zT)).length < 16777216) := ⟨ee, by have := HN.out.1; omega⟩
      have HX : Hid _ := hP
      clear e1 e2 hwt e3 ee hE hE2 hi h8 hod hP B hsz
      generalize (ts.getD i zT).l = lt at *
      generalize (encT (ts.getD i zT)).length = D1 at *
      generalize (encS (ts.take i)).length = D at *
      go_wp2_with (first
        | (refine wpList_load_mid rfl _ _ rfl b' (o' + i * 3) rfl _ _ R1.out Try.underlying48 rfl size_it ?_)
        | ((with_reducible refine (MC.out _ (Below.refl _ _)).mono ?_); rintro e1 w2 ⟨rfl, hw⟩))
      go_roundg (ts.length - (i + 1))
      case measure => have := HK.out.1; omega
      case rel => exact ⟨i + 1, rfl, hlt, by rw [NX.out.1]; congr 1; have := NX.out.2; unfold wrap64; omega, by go_num, HX.out.trans (Pu.of_below HX.out.own hw)⟩
end Go.Proofs.Ytaefmdofchjofaa
