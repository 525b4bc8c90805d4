import Derived.Test.YtahekhamhdfkdaaRwF
import Derived.Test.YtahekhamhdfkdaaRxO
/- Layer 7: the law RlpBack. -/
namespace Go.Proofs.Ytahekhamhdfkdaa
open Go.RowKit Go.Sort
mutual
theorem byT_of : ∀ t : Tr, tt.BysT t → ByT t
  | .mk l X ts, h => by
    rw [tt.BysT] at h
    rw [ByT]
    exact ⟨h.1, byS_of ts h.2⟩
theorem byS_of : ∀ ts : List Tr, tt.BysS ts → ByS ts
  | [], _ => by rw [ByS]; trivial
  | t :: ts, h => by
    rw [tt.BysS] at h
    rw [ByS]
    exact ⟨byT_of t h.1, byS_of ts h.2⟩
end
theorem hd_kind {t : Tr} {R : List Int} (ho : oddT t = false) (hl : (encT t).length < 16777216) : (hdP (encT t ++ R)).1 = t.l ∧ (hdP (encT t ++ R)).2.2.2 = 0 := by
  cases t with
  | mk l X ts =>
    rw [encT] at hl ⊢
    cases l with
    | true =>
      simp only [if_true] at hl ⊢
      have := hd_list (X := encS ts) (R := R) (by rw [List.length_append] at hl; omega)
      rw [this]; exact ⟨rfl, rfl⟩
    | false =>
      simp only [Bool.false_eq_true, if_false] at hl ⊢
      have hx : X.length < 16777216 := by
        unfold encX at hl
        split at hl
        · exact hl
        · rw [List.length_append] at hl; omega
      obtain ⟨e1, e2, _, _⟩ := hd_text (X := X) (R := R) hx
      exact ⟨e2, e1⟩
theorem spP_enc {t : Tr} {R : List Int} (ho : oddT t = false) (hd : dpT t ≤ 1024) (hl : (encT t ++ R).length ≤ 16777215) : ∃ I, spP (encT t ++ R) = (t.l, I, R, 0) := by
  have hl' := hl
  rw [List.length_append] at hl'
  obtain ⟨h1, h2⟩ := dT_enc t 0 R ho (by omega) (by omega)
  obtain ⟨h3, h4⟩ := hd_kind (R := R) ho (by omega)
  unfold spP
  rw [if_neg (by omega), if_pos h4, h3, h2, List.drop_left]
  exact ⟨_, rfl⟩
theorem snd_big {t : Tr} {n : Nat} {ok : Bool} (h : sndT 0 t = (n, ok)) (hw : wtT t < 4194304) : n ≤ 6291456 := by
  have := sndT_lim t 0
  rw [h] at this
  have := wt_parts t
  simp only at *
  omega
theorem cut_full (m k : Nat) {g : Nat} (w : World) : (Instr.sliceAt 22 (.slice (some ⟨g, 0, none⟩) m (m + k)) none (some (.int .i64 (m : Int))) (some (.int .i64 (m : Int)))).run Try.prog w = .ok (.slice (some ⟨g, 0, none⟩) m m) w := by
  have tu := Try.underlying22
  have tz := Try.sizeOf5
  have h1 : (m : Int) ≤ ((m + k : Nat) : Int) := by omega
  by_cases h0 : m = 0
  · subst h0
    simp [Instr.sliceAt, Instr.slice, Instr.sliceBounds, run_underlying tu, run_sliceBound, go_sem, tz, Addr.add]
  · simp [Instr.sliceAt, Instr.slice, Instr.sliceBounds, run_underlying tu, go_sem, tz, Addr.add]
    intro hx
    omega
theorem wpList_slice3 {ops : Array Oper} {rest : List Oper} {op : Oper} {a : Act} {Q : Exit → Act → World → Prop} {w : World} (hgd : op.guard = none) {ty : TypeId} (x y z : Operand) (ho : op.op = .slice ty x none (some y) (some z)) {vx vy vz r : Value} (hx : a.eval x = vx) (hy : a.eval y = vy) (hz : a.eval z = vz)
    (hr : ∀ w, (Instr.sliceAt ty vx none (some vy) (some vz)).run Try.prog w = .ok r w) (h : wpList Try.prog ops Q rest (a.put op.dst r) w) : wpList Try.prog ops Q (op :: rest) a w := by
  refine wpList_plain hgd fun K hK => ?_
  unfold Oper.wp execOp
  simp only [ho, hx, hy, hz, Option.map_some, Option.map_none, Sem.run_bind, Sem.run_pure, Result.andThen_ok, hr]
  exact hK _ _ h
theorem wpList_append_run7 {ops : Array Oper} {rest : List Oper} {o : Oper} {a : Act} {Q : Exit → Act → World → Prop} {w : World} {u v : Value} {N : Nat} {E : List Int} (hgd : o.guard = none) (s t : Operand)
    (ho : o.op = .call { callee := .builtin .append, args := #[s, t], argTypes := #[22, 22] }) (hs : a.eval s = u) (hx : a.eval t = v)
    (hr : ∃ g' c' w', (Builtin.append_ #[22, 22] o.type #[u, v]).run Try.prog w = .ok (.slice (some ⟨g', 0, none⟩) N c') w' ∧ N ≤ c' ∧ Bz w' g' 0 E ∧ Below w.heap.size w w')
    (hK : ∀ g' c' w', N ≤ c' → Bz w' g' 0 E → Below w.heap.size w w' → wpList Try.prog ops Q rest (a.put o.dst (.slice (some ⟨g', 0, none⟩) N c')) w') :
    wpList Try.prog ops Q (o :: rest) a w := by
  refine wpList_plain hgd fun K hK2 => ?_
  obtain ⟨g', c', w', hr, h2, h3, h4⟩ := hr
  unfold Oper.wp execOp
  simp only [ho, resolve, invoke, builtin, Sem.run_bind, Sem.run_pure, Result.andThen_ok, List.map_toArray, List.map_cons, List.map_nil, hs, hx, hr]
  exact hK2 _ _ (hK g' c' w' h2 h3 h4)
set_option maxRecDepth 100000 in
set_option maxHeartbeats 8000000 in
theorem back_skip {t : Tr} {d q : Value} {a : Option Addr} {c : Nat} {Q : List Int} {n : Int} {sn : Nat} {ok : Bool} (hs : sndT 0 t = (sn, ok)) (hw : wtT t < 4194304) (hq : Q.length ≤ 1048576) (hk : ok = false ∨ 2097152 < sn + Q.length) (w : World) (hI : It w t d q) :
    Calls Try.prog 4 #[itV t d q, .slice a Q.length c, .int .i64 n] w fun e w' => e = .returned (.bool true) ∧ Below w.heap.size w w' := by
  have SN : Hid (∀ W d q, It W t d q → Calls Try.prog 16 #[itV t d q, .int .i64 0] W fun e w' => e = .returned (.tuple #[.int .i64 (sn : Int), .bool ok]) ∧ Below W.heap.size W w') := fun W d q h => by
    have r := sound_any t 0 (by omega) hw W h
    rw [hs] at r
    exact r
  have sb := snd_big hs hw
  have k1 : (sn : Int) ≤ 6291456 := by omega
  have k2 : (Q.length : Int) ≤ 1048576 := by omega
  have hk2 : ok = false ∨ (2097152 : Int) < (sn : Int) + (Q.length : Int) := hk.imp id fun x => by omega
  clear hs hw hq hk sb
  unfold itV at SN
  obtain ⟨da, dn, dc, qa, qn, qc, rfl, rfl⟩ := hI.slices
  unfold itV
  generalize hlt : t.l = lt at *
  have HLT : Hid (t.l = lt) := hlt
  clear hlt
  generalize Q.length = qm at *
  go_enter Try.func4, Try.ntmps4
  refine wp_seq_k fun K h => ?_
  have H : Hid _ := h
  clear h
  go_wp2_with fail
  refine H.out _ _ ?_
  clear H K
  refine wp_world (fun V => Below w.heap.size w V ∧ Bx V w.heap.size lt (.slice da dn dc) (.slice qa qn qc) ∧ It V t (.slice da dn dc) (.slice qa qn qc)) ⟨(Below.refl _ _).alloc (Nat.le_refl _) _, Bx.new, It.keep ((Below.refl _ _).alloc (Nat.le_refl _) _) _ hI⟩ ?_
  rintro W0 ⟨B, X0, I0⟩
  clear hI
  obtain ⟨x0, x1, x2⟩ := X0
  go_wp2_with fail
  have X0 : Bx W0 w.heap.size lt (.slice da dn dc) (.slice qa qn qc) := ⟨x0, x1, x2⟩
  clear x0 x1 x2
  with_reducible refine (SN.out W0 _ _ I0).mono ?_
  rintro e w1 ⟨rfl, hb⟩
  replace B := B.trans (hb.mono B.size)
  replace X0 := X0.keep hb
  replace I0 := It.keep hb _ I0
  clear hb
  cases ok with
  | false =>
    go_wp2
    simp [bodyPost, results, Try.results4, go_sem]
    exact B
  | true =>
    have k3 : (2097152 : Int) < (sn : Int) + (qm : Int) := hk2.resolve_left (by simp)
    clear hk2
    go_wp2
    simp [bodyPost, results, Try.results4, go_sem]
    exact B
set_option maxRecDepth 100000 in
set_option maxHeartbeats 8000000 in
theorem back_main {t : Tr} {d q : Value} {a : Option Addr} {b o c : Nat} {Q : List Int} {n : Int} {sn : Nat} (hs : sndT 0 t = (sn, true)) (hy : ByT t) (hw : wtT t < 4194304) (hk : sn + Q.length ≤ 2097152) (hc : Q.length ≤ c) (ha : Az a b o Q) (hQ : Bys Q) (w : World) (hz : Bz w b o Q) (hI : It w t d q) :
    Calls Try.prog 4 #[itV t d q, .slice a Q.length c, .int .i64 n] w fun e w' => e = .returned (.bool true) ∧ Below w.heap.size w w' := by
  have SN : Hid (∀ W d q, It W t d q → Calls Try.prog 16 #[itV t d q, .int .i64 0] W fun e w' => e = .returned (.tuple #[.int .i64 (sn : Int), .bool true]) ∧ Below W.heap.size W w') := fun W d q h => by
    have r := sound_any t 0 (by omega) hw W h
    rw [hs] at r
    exact r
  obtain ⟨s1, s2, s3⟩ := sndT_ok t 0 sn hs
  have er : errT t = 0 := by unfold errT; rw [s1, if_neg (by decide), if_neg (by omega)]
  have hE : Byts (encT t) := fun i => (encT_bys t hy hw).at i
  have hEQ : Byts (encT t ++ Q) := fun i => ((encT_bys t hy hw).app hQ).at i
  have lEQ : (encT t ++ Q).length = (encT t).length + Q.length := List.length_append ..
  have TW : Hid (∀ W d q, It W t d q → Calls Try.prog 18 #[itV t d q] W fun e w' => ∃ d' q', e = .returned (itV t d' q') ∧ It w' t d' q' ∧ Below W.heap.size W w') := fun W d q hI => (twin_any hw W hI).mono fun e w' ⟨d', q', h1, h2, h3⟩ => ⟨d', q', h1, Ot.it _ h2, h3⟩
  have EN : Hid (∀ W d q, It W t d q → Calls Try.prog 17 #[itV t d q] W fun e w' => ∃ v, e = .returned (.tuple #[v, .int .i64 0]) ∧ OwnB W.heap.size w' v (encT t) ∧ Below W.heap.size W w') := fun W d q hI => by
    have r := Encode_any hw W hI
    rw [encZ, er, if_pos rfl] at r
    exact r
  have SI : Hid (∀ W d q, It W t d q → Calls Try.prog 19 #[itV t d q] W fun e w' => e = .returned (.tuple #[.int .i64 ((encT t).length : Int), .int .i64 0]) ∧ Below W.heap.size W w') := fun W d q hI => by
    have r := Size_any hw W hI
    rw [sizT, er, if_pos rfl] at r
    exact r
  have DE : Hid (∀ W a g c, (encT t).length ≤ c → (a = none → c = 0) → Az a g 0 (encT t) → Bz W g 0 (encT t) → Calls Try.prog 10 #[.slice a (encT t).length c] W fun e w' => ∃ d q, e = .returned (.tuple #[itV t d q, .int .i64 0]) ∧ It w' t d q ∧ Below W.heap.size W w') := fun W a g c h1 h2 h3 h4 => by
    have r := Decode_any hE h1 h2 h3 W h4
    rw [decP_enc s1 (by omega) (by omega)] at r
    exact r.mono fun e w' ⟨d, q, h1, h2, h3⟩ => ⟨d, q, h1, Ot.it _ h2, h3⟩
  have SA : Hid (∀ W d q d' q', It W t d q → It W t d' q' → Calls Try.prog 13 #[itV t d q, itV t d' q'] W fun e w' => e = .returned (.bool true) ∧ Below W.heap.size W w') := fun W d q d' q' h1 h2 => by
    have r := rSame_any t t (by omega) W h1 h2
    rwa [eqT_yes rfl] at r
  have RO : Hid (∀ W a g c, Az a g 0 (encT t) → Bz W g 0 (encT t) → Calls Try.prog 9 #[.slice a (encT t).length c] W fun e w' => ∃ g, e = .returned (.slice (some ⟨g, 0, none⟩) (encT t).length ((encT t).length + 9)) ∧ Bz w' g 0 (encT t) ∧ Below W.heap.size W w') := fun W a g c h1 h2 => (roomy7_any h1 (by omega) W h2).mono fun e w' ⟨g, h1, _, h3, h4⟩ => ⟨g, h1, fun i hi => by
    have := h3.bz i (by rw [List.length_append]; omega)
    rw [this, List.getD, List.getElem?_append_left hi]; rfl, h4⟩
  have AP : Hid (∀ ty W g, Below w.heap.size w W → Bz W g 0 (encT t) → ∃ g' c' w', (Builtin.append_ #[22, 22] ty #[.slice (some ⟨g, 0, none⟩) (encT t).length (encT t).length, .slice a Q.length c]).run Try.prog W = .ok (.slice (some ⟨g', 0, none⟩) ((encT t).length + Q.length) c') w' ∧ (encT t).length + Q.length ≤ c' ∧ Bz w' g' 0 (encT t ++ Q) ∧ Below W.heap.size W w') := fun ty W g h1 h2 => run_append_full rfl h2 ha (hz.keep h1) (by omega)
  obtain ⟨Ip, sp⟩ := spP_enc (R := Q) s1 (by omega) (by omega)
  have SP : Hid (∀ W g c', (encT t).length + Q.length ≤ c' → Bz W g 0 (encT t ++ Q) → Calls Try.prog 20 #[.slice (some ⟨g, 0, none⟩) ((encT t).length + Q.length) c'] W fun e w' => ∃ v1 v2, e = .returned (.tuple #[.bool t.l, v1, v2, .int .i64 0]) ∧ OwnB W.heap.size w' v2 Q ∧ Below W.heap.size W w') := fun W g c' h1 h2 => by
    have r := split_all (c := c') hEQ (by omega) (.inr rfl) W h2
    rw [sp, lEQ] at r
    exact r.mono fun e w' ⟨v1, v2, k1, _, k3, k4⟩ => ⟨v1, v2, k1, k3, k4⟩
  have SM : Hid (∀ W v B, Below w.heap.size w W → OwnB B W v Q → Calls Try.prog 14 #[v, .slice a Q.length c] W fun e w' => e = .returned (.bool true) ∧ Below W.heap.size W w') := fun W v B bw ho => by
    obtain ⟨a2, g2, p2, c2, rfl, _, z2, _, y2⟩ := ho.tz
    have k := same7_any (c := c2) (c' := c) (X := Q) (Z := Q) (by omega) z2 ha W y2 (hz.keep bw)
    rw [decide_eq_true rfl] at k
    exact k
  have DM : Hid (∀ W g c', (encT t).length + Q.length ≤ c' → Bz W g 0 (encT t ++ Q) → Calls Try.prog 10 #[.slice (some ⟨g, 0, none⟩) ((encT t).length + Q.length) c'] W fun e w' => ∃ l d q, e = .returned (.tuple #[.agg #[.bool l, d, q], .int .i64 (if Q.length = 0 then 0 else 73)]) ∧ (∃ da dn dc qa qn qc, d = .slice da dn dc ∧ q = .slice qa qn qc) ∧ Below W.heap.size W w') := fun W g c' h1 h2 => by
    have r := Decode_any (bc := c') hEQ (by omega) (fun x => by cases x) (.inr rfl) W h2
    rw [lEQ] at r
    have e2 : (decP (encT t ++ Q)).1 = if Q.length = 0 then 0 else 73 := by
      by_cases k : Q.length = 0
      · have : Q = [] := List.eq_nil_of_length_eq_zero k
        subst this
        rw [List.append_nil, decP_enc s1 (by omega) (by omega)]; rfl
      · rw [decP_rest s1 (by omega) (by omega) (by omega), if_neg k]
    rw [e2] at r
    refine r.mono fun e w' ⟨d, q, h1, h2, h3⟩ => ⟨_, d, q, h1, ?_, h3⟩
    obtain ⟨da, dn, dc, qa, qn, qc, e1, e2⟩ := (Ot.it _ h2).slices
    exact ⟨da, dn, dc, qa, qn, qc, e1, e2⟩
  have DC : Hid (∀ W a g c (k : Nat), (encT t).length ≤ c → (a = none → c = 0) → Az a g 0 (encT t) → k < (encT t).length → Bz W g 0 (encT t) → Calls Try.prog 10 #[.slice a k c] W fun e w' => ∃ d q, e = .returned (.tuple #[.agg #[.bool false, d, q], .int .i64 70]) ∧ It w' zT d q ∧ Below W.heap.size W w') := fun W a g c k h1 h2 h3 h4 h5 => by
    have lk : ((encT t).take k).length = k := by rw [List.length_take]; omega
    have r := Decode_any (A := (encT t).take k) (ba := a) (b := g) (o := 0) (bc := c) (byts_takeR hE k) (by omega) h2 (h3.elim (fun x => .inl (by rw [x, List.take_nil])) .inr) W h5.take
    rw [decP_cut (by omega) h4, lk] at r
    exact r.mono fun e w' ⟨d, q, h1, h2, h3⟩ => ⟨d, q, h1, Ot.it _ h2, h3⟩
  have SZ : Hid (∀ W d q, It W zT d q → Calls Try.prog 13 #[.agg #[.bool false, d, q], .agg #[.bool false, .slice none 0 0, .slice none 0 0]] W fun e w' => e = .returned (.bool true) ∧ Below W.heap.size W w') := fun W d q h1 => by
    have r := rSame_any zT zT (by show wtT (.mk false [] []) < _; rw [wtT, wtS]; decide) W h1 (it_zT W)
    rwa [eqT_yes rfl] at r
  have NU : Hid (∀ v w, Calls Try.prog 12 #[.int .i64 v] w fun e w' => e = .returned (.int .i64 v) ∧ Below w.heap.size w w') := fun v w => lnum7_any v w
  have k1 : (sn : Int) ≤ 2097152 := by omega
  have k2 : (sn : Int) + (Q.length : Int) ≤ 2097152 := by omega
  have k3 : ((encT t).length : Int) ≤ 2097152 := by omega
  have HB : Hid (Az a b o Q) := ha
  clear hs hy hw hk hc ha hQ hz s1 s2 s3 er hE hEQ lEQ sp
  unfold itV at SN TW EN SI DE SA
  obtain ⟨da, dn, dc, qa, qn, qc, rfl, rfl⟩ := hI.slices
  unfold itV
  generalize hlt : t.l = lt at *
  have HLT : Hid (t.l = lt) := hlt
  clear hlt
  generalize Q.length = qm at *
  go_enter Try.func4, Try.ntmps4
  refine wp_seq_k fun K h => ?_
  have H : Hid _ := h
  clear h
  go_wp2_with fail
  refine H.out _ _ ?_
  clear H K
  refine wp_world (fun V => Below w.heap.size w V ∧ Bx V w.heap.size lt (.slice da dn dc) (.slice qa qn qc) ∧ It V t (.slice da dn dc) (.slice qa qn qc)) ⟨(Below.refl _ _).alloc (Nat.le_refl _) _, Bx.new, It.keep ((Below.refl _ _).alloc (Nat.le_refl _) _) _ hI⟩ ?_
  rintro W0 ⟨B, X0, I0⟩
  clear hI
  obtain ⟨x0, x1, x2⟩ := X0
  go_wp2_with fail
  have X0 : Bx W0 w.heap.size lt (.slice da dn dc) (.slice qa qn qc) := ⟨x0, x1, x2⟩
  clear x0 x1 x2
  with_reducible refine (SN.out W0 _ _ I0).mono ?_
  rintro e w1 ⟨rfl, hb⟩
  replace B := B.trans (hb.mono B.size)
  replace X0 := X0.keep hb
  replace I0 := It.keep hb _ I0
  clear hb
  have k2' : ¬ (2097152 : Int) < (sn : Int) + (qm : Int) := by omega
  obtain ⟨EL, hEL⟩ : ∃ n, n = (encT t).length := ⟨_, rfl⟩
  rw [← hEL] at SI DE RO AP SP DM DC k3
  have HEL : Hid ((encT t).length = EL) := hEL.symm
  clear hEL
  generalize encT t = E at *
  obtain ⟨x0, x1, x2⟩ := X0
  go_wp2_with fail
  have X0 : Bx w1 w.heap.size lt (.slice da dn dc) (.slice qa qn qc) := ⟨x0, x1, x2⟩
  clear x0 x1 x2
  with_reducible refine (TW.out w1 _ _ I0).mono ?_
  rintro e w2 ⟨d2, q2, rfl, I2, hb⟩
  replace B := B.trans (hb.mono B.size)
  replace X0 := X0.keep hb
  replace I0 := It.keep hb _ I0
  clear hb
  go_wp2_with fail
  with_reducible refine (EN.out w2 _ _ I2).mono ?_
  rintro e w3 ⟨v3, rfl, O3, hb⟩
  replace B := B.trans (hb.mono B.size)
  replace X0 := X0.keep hb
  replace I0 := It.keep hb _ I0
  clear hb
  obtain ⟨ea, eg, ec, rfl, el, ez, Z3, _, _, en⟩ := O3.lies
  rw [HEL.out] at O3 el ⊢
  have EZ : Hid (EL ≤ ec ∧ (ea = none → ec = 0) ∧ Az ea eg 0 E) := ⟨el, en, ez⟩
  clear el en ez I2
  obtain ⟨x0, x1, x2⟩ := X0
  go_wp2_with fail
  have X0 : Bx w3 w.heap.size lt (.slice da dn dc) (.slice qa qn qc) := ⟨x0, x1, x2⟩
  clear x0 x1 x2 O3
  with_reducible refine (TW.out w3 _ _ I0).mono ?_
  rintro e w4 ⟨d4, q4, rfl, I4, hb⟩
  replace B := B.trans (hb.mono B.size)
  replace X0 := X0.keep hb
  replace I0 := It.keep hb _ I0
  replace Z3 := Z3.keep hb
  clear hb
  go_wp2_with fail
  with_reducible refine (SI.out w4 _ _ I4).mono ?_
  rintro e w5 ⟨rfl, hb⟩
  replace B := B.trans (hb.mono B.size)
  replace X0 := X0.keep hb
  replace I0 := It.keep hb _ I0
  replace Z3 := Z3.keep hb
  clear hb
  clear I4
  go_wp2_with fail
  with_reducible refine (DE.out w5 ea eg ec EZ.out.1 EZ.out.2.1 EZ.out.2.2 Z3).mono ?_
  rintro e w6 ⟨d6, q6, rfl, I6, hb⟩
  replace B := B.trans (hb.mono B.size)
  replace X0 := X0.keep hb
  replace I0 := It.keep hb _ I0
  replace Z3 := Z3.keep hb
  clear hb
  obtain ⟨ga, gn, gc, ha', hn', hc', rfl, rfl⟩ := I6.slices
  have l6 := X0.lt
  obtain ⟨x0, x1, x2⟩ := X0
  go_wp2_with fail
  refine calls_world (fun V => Below w.heap.size w V ∧ Bx V w.heap.size lt (.slice da dn dc) (.slice qa qn qc) ∧ It V t (.slice da dn dc) (.slice qa qn qc) ∧ It V t (.slice ga gn gc) (.slice ha' hn' hc') ∧ Bz V eg 0 E) ⟨B.alloc B.size _, Bx.keep ⟨x0, x1, x2⟩ ((Below.refl _ _).alloc (Nat.le_refl _) _), It.keep ((Below.refl _ _).alloc (Nat.le_refl _) _) _ I0, It.keep ((Below.refl _ _).alloc (Nat.le_refl _) _) _ I6, Z3.keep ((Below.refl _ _).alloc (Nat.le_refl _) _)⟩ ?_
  clear B I0 I6 Z3 x0 x1 x2
  rintro V6 ⟨B, X0, I0, I6, Z3⟩
  with_reducible refine (SA.out V6 _ _ _ _ I6 I0).mono ?_
  rintro e w7 ⟨rfl, hb⟩
  replace B := B.trans (hb.mono B.size)
  replace X0 := X0.keep hb
  replace Z3 := Z3.keep hb
  clear hb
  clear I6 I0
  go_wp2_with fail
  with_reducible refine (RO.out w7 ea eg ec EZ.out.2.2 Z3).mono ?_
  rintro e w8 ⟨g8, rfl, Z8, hb⟩
  replace B := B.trans (hb.mono B.size)
  replace X0 := X0.keep hb
  replace Z3 := Z3.keep hb
  clear hb
  go_wp2_with (first | (refine wpList_slice3 rfl _ _ _ rfl rfl rfl rfl (cut_full EL 9) ?_) | (at_builtin; (refine wpList_append_run7 rfl _ _ rfl rfl rfl (AP.out _ _ g8 B Z8) ?_); rintro g9 c9 w9 lc Z9 hb))
  replace B := B.trans (hb.mono B.size)
  replace X0 := X0.keep hb
  replace Z3 := Z3.keep hb
  clear hb
  with_reducible refine (SP.out w9 g9 c9 lc Z9).mono ?_
  rintro e w10 ⟨v10, u10, rfl, O10, hb⟩
  replace B := B.trans (hb.mono B.size)
  replace X0 := X0.keep hb
  replace Z3 := Z3.keep hb
  replace Z9 := Z9.keep hb
  clear hb
  obtain ⟨x0, x1, x2⟩ := X0
  have hll : (lt != lt) = false := by simp
  go_wp2_with fail
  clear x0 x1 x2
  with_reducible refine (SM.out w10 u10 _ B O10).mono ?_
  rintro e w11 ⟨rfl, hb⟩
  replace B := B.trans (hb.mono B.size)
  replace Z3 := Z3.keep hb
  replace Z9 := Z9.keep hb
  clear hb
  clear O10 hll
  go_wp2_with fail
  with_reducible refine (DM.out w11 g9 c9 lc Z9).mono ?_
  rintro e w12 ⟨l12, d12, q12, rfl, ⟨ja, jn, jc, ka, kn, kc, rfl, rfl⟩, hb⟩
  replace B := B.trans (hb.mono B.size)
  replace Z3 := Z3.keep hb
  clear hb
  clear Z9
  by_cases k0 : qm = 0
  · have ei : (if qm = 0 then (0 : Int) else 73) = 0 := if_pos k0
    rw [ei]
    clear ei
    subst k0
    replace Z3 := Z3.keep ((Below.refl w12.heap.size w12).alloc (Nat.le_refl _) (.cells #[.bool l12, .slice ja jn jc, .slice ka kn kc] 26))
    replace B := B.alloc B.size (.cells #[.bool l12, .slice ja jn jc, .slice ka kn kc] 26)
    by_cases c1 : n < 0
    · have b1 : decide (n < 0) = true := decide_eq_true c1
      go_wp2
      simp [bodyPost, results, Try.results4, go_sem]
      exact B
    by_cases c2 : (EL : Int) ≤ n
    · have b1 : decide (n < 0) = false := decide_eq_false c1
      have b2 : decide ((EL : Int) ≤ n) = true := decide_eq_true c2
      go_wp2
      simp [bodyPost, results, Try.results4, go_sem]
      exact B
    obtain ⟨n0, rfl⟩ : ∃ n0 : Nat, n = (n0 : Int) := ⟨n.toNat, by omega⟩
    have b1 : decide ((n0 : Int) < 0) = false := decide_eq_false c1
    have b2 : decide ((EL : Int) ≤ (n0 : Int)) = false := decide_eq_false c2
    have c3 : (n0 : Int) ≤ (ec : Int) := by have := EZ.out.1; omega
    have c4 : n0 < EL := by omega
    have c5 : (if ec = n0 then ea else ea) = ea := by split <;> rfl
    go_wp2_with fail
    with_reducible refine (DC.out _ ea eg ec n0 EZ.out.1 EZ.out.2.1 EZ.out.2.2 c4 Z3).mono ?_
    rintro e w14 ⟨d14, q14, rfl, I14, hb⟩
    replace B := B.trans (hb.mono B.size)
    clear hb
    obtain ⟨ma, mn, mc, na, nn, nc, rfl, rfl⟩ := I14.slices
    go_wp2_with fail
    refine calls_world (fun V => Below w.heap.size w V ∧ It V zT (.slice ma mn mc) (.slice na nn nc) ∧ Bx V w14.heap.size false (.slice ma mn mc) (.slice na nn nc)) ⟨B.alloc B.size _, It.keep ((Below.refl _ _).alloc (Nat.le_refl _) _) _ I14, Bx.new⟩ ?_
    clear B I14
    rintro V14 ⟨B, I14, X14⟩
    with_reducible refine (NU.out _ V14).mono ?_
    rintro e w15 ⟨rfl, hb⟩
    replace B := B.trans (hb.mono B.size)
    replace I14 := It.keep hb _ I14
    replace X14 := X14.keep hb
    clear hb
    obtain ⟨y0, y1, y2⟩ := X14
    go_wp2_with fail
    with_reducible refine (SZ.out w15 _ _ I14).mono ?_
    rintro e w16 ⟨rfl, hb⟩
    replace B := B.trans (hb.mono B.size)
    go_wp2
    simp [bodyPost, results, Try.results4, go_sem]
    exact B
  · have ei : (if qm = 0 then (0 : Int) else 73) = 73 := if_neg k0
    rw [ei]
    clear ei
    have k4 : (0 : Int) < (qm : Int) := by omega
    have k6 : decide ((0 : Int) < (qm : Int)) = true := decide_eq_true k4
    have k7 : 0 < qm := by omega
    have k8 : decide (0 < qm) = true := decide_eq_true k7
    have k5 : ((qm : Int) == 0) = false := beq_false_of_ne (by omega)
    replace Z3 := Z3.keep ((Below.refl w12.heap.size w12).alloc (Nat.le_refl _) (.cells #[.bool l12, .slice ja jn jc, .slice ka kn kc] 26))
    replace B := B.alloc B.size (.cells #[.bool l12, .slice ja jn jc, .slice ka kn kc] 26)
    go_wp2_with fail
    with_reducible refine (NU.out _ _).mono ?_
    rintro e w13 ⟨rfl, hb⟩
    replace B := B.trans (hb.mono B.size)
    replace Z3 := Z3.keep hb
    clear hb
    by_cases c1 : n < 0
    · have b1 : decide (n < 0) = true := decide_eq_true c1
      go_wp2
      simp [bodyPost, results, Try.results4, go_sem]
      exact B
    by_cases c2 : (EL : Int) ≤ n
    · have b1 : decide (n < 0) = false := decide_eq_false c1
      have b2 : decide ((EL : Int) ≤ n) = true := decide_eq_true c2
      go_wp2
      simp [bodyPost, results, Try.results4, go_sem]
      exact B
    obtain ⟨n0, rfl⟩ : ∃ n0 : Nat, n = (n0 : Int) := ⟨n.toNat, by omega⟩
    have b1 : decide ((n0 : Int) < 0) = false := decide_eq_false c1
    have b2 : decide ((EL : Int) ≤ (n0 : Int)) = false := decide_eq_false c2
    have c3 : (n0 : Int) ≤ (ec : Int) := by have := EZ.out.1; omega
    have c4 : n0 < EL := by omega
    have c5 : (if ec = n0 then ea else ea) = ea := by split <;> rfl
    go_wp2_with fail
    with_reducible refine (DC.out _ ea eg ec n0 EZ.out.1 EZ.out.2.1 EZ.out.2.2 c4 Z3).mono ?_
    rintro e w14 ⟨d14, q14, rfl, I14, hb⟩
    replace B := B.trans (hb.mono B.size)
    clear hb
    obtain ⟨ma, mn, mc, na, nn, nc, rfl, rfl⟩ := I14.slices
    go_wp2_with fail
    refine calls_world (fun V => Below w.heap.size w V ∧ It V zT (.slice ma mn mc) (.slice na nn nc) ∧ Bx V w14.heap.size false (.slice ma mn mc) (.slice na nn nc)) ⟨B.alloc B.size _, It.keep ((Below.refl _ _).alloc (Nat.le_refl _) _) _ I14, Bx.new⟩ ?_
    clear B I14
    rintro V14 ⟨B, I14, X14⟩
    with_reducible refine (NU.out _ V14).mono ?_
    rintro e w15 ⟨rfl, hb⟩
    replace B := B.trans (hb.mono B.size)
    replace I14 := It.keep hb _ I14
    replace X14 := X14.keep hb
    clear hb
    obtain ⟨y0, y1, y2⟩ := X14
    go_wp2_with fail
    with_reducible refine (SZ.out w15 _ _ I14).mono ?_
    rintro e w16 ⟨rfl, hb⟩
    replace B := B.trans (hb.mono B.size)
    go_wp2
    simp [bodyPost, results, Try.results4, go_sem]
    exact B
theorem back_any {t : Tr} {d q : Value} {a : Option Addr} {b o c : Nat} {Q : List Int} {n : Int} (hy : ByT t) (hw : wtT t + Q.length ≤ 1048576) (hc : Q.length ≤ c) (ha : Az a b o Q) (hQ : Bys Q) (w : World) (hz : Bz w b o Q) (hI : It w t d q) :
    Calls Try.prog 4 #[itV t d q, .slice a Q.length c, .int .i64 n] w fun e w' => e = .returned (.bool true) ∧ Below w.heap.size w w' := by
  cases hs : sndT 0 t with
  | mk sn ok =>
    by_cases k : ok = false ∨ 2097152 < sn + Q.length
    · exact back_skip hs (by omega) (by omega) k w hI
    · have ko : ok = true := by cases ok with
        | false => exact absurd (.inl rfl) k
        | true => rfl
      subst ko
      exact back_main hs hy (by omega) (Nat.le_of_not_lt fun x => k (.inr x)) hc ha hQ w hz hI
end Go.Proofs.Ytahekhamhdfkdaa
