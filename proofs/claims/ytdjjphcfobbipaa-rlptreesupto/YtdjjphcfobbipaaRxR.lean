import Derived.Test.YtdjjphcfobbipaaRxQ
/- Layer 7: the document's bound (level by level): it answers. -/
namespace Go.Proofs.Ytdjjphcfobbipaa
open Go.RowKit Go.Sort
/-- Items in a row of one's own whose texts and items lie in an older memory. -/
def Lv (w W : World) (v : Value) (L : List Tr) (ps : List (Value × Value)) : Prop := ps.length = L.length ∧ W.ownsRow w.heap.size 29 3 v L.length (itC L ps) ∧ ∀ i, i < L.length → It w (L.getD i zT) (ps.getD i zV).1 (ps.getD i zV).2
theorem Lv.nil (w W : World) : Lv w W (.slice none 0 0) [] [] := ⟨rfl, ⟨rfl, .inl ⟨rfl, rfl⟩⟩, fun _ hi => absurd hi (Nat.not_lt_zero _)⟩
theorem Lv.keep {w W W' : World} {v : Value} {L : List Tr} {ps : List (Value × Value)} (h : Lv w W v L ps) (hb : Below W.heap.size W W') : Lv w W' v L ps := ⟨h.1, row_kept h.2.1 fun k _ hk => hb.block k hk, h.2.2⟩
theorem Lv.grown {w W W' : World} {v : Value} {L : List Tr} {ps : List (Value × Value)} {row : Option Nat} (h : Lv w W v L ps) (hg : W.grownBy W' row) (hn : ∀ k, v.ownBlock = some k → row ≠ some k) : Lv w W' v L ps := ⟨h.1, row_kept h.2.1 fun k e hk => hg.block k hk fun q => hn k e q.symm, h.2.2⟩
theorem itC_app : ∀ (ts us : List Tr) (ps qs : List (Value × Value)), ps.length = ts.length → itC ts ps ++ itC us qs = itC (ts ++ us) (ps ++ qs)
  | [], _, [], _, _ => rfl
  | [], _, _ :: _, _, h => by simp at h
  | _ :: _, _, [], _, h => by simp at h
  | t :: ts, us, p :: ps, qs, h => by
    have := itC_app ts us ps qs (by simpa using h)
    simp only [itC, List.cons_append, this]
theorem itC_one : ∀ (ts : List Tr) (ps : List (Value × Value)) (_ : ∀ i, i < ts.length → (ps.getD i zV).1.oneCell' = true ∧ (ps.getD i zV).2.oneCell' = true), ∀ u ∈ itC ts ps, u.oneCell' = true
  | [], _, _, u, hu => by simp [itC] at hu
  | _ :: _, [], _, u, hu => by simp [itC] at hu
  | t :: ts, p :: ps, h, u, hu => by
    simp only [itC, List.mem_cons] at hu
    have h0 : p.1.oneCell' = true ∧ p.2.oneCell' = true := h 0 (by simp)
    rcases hu with rfl | rfl | rfl | hu
    · rfl
    · exact h0.1
    · exact h0.2
    · exact itC_one ts ps (fun i hi => h (i + 1) (by simpa using hi)) u hu
/-- The cells of items in a row. -/
theorem Its.cells {W : World} {b o : Nat} {ts : List Tr} (h : Its W b o ts) : ∃ ps : List (Value × Value), ps.length = ts.length ∧ W.rangeAt b o (itC ts ps) ∧ (∀ i, i < ts.length → It W (ts.getD i zT) (ps.getD i zV).1 (ps.getD i zV).2) := by
  induction ts generalizing o with
  | nil => exact ⟨[], rfl, fun j v hv => by simp [itC] at hv, fun i hi => absurd hi (Nat.not_lt_zero _)⟩
  | cons t ts ih =>
    rw [Its] at h
    obtain ⟨⟨d, q, h1, h2⟩, h3⟩ := h
    obtain ⟨ps, k1, k2, k3⟩ := ih h3
    refine ⟨(d, q) :: ps, by simp [k1], fun j v hv => ?_, fun i hi => ?_⟩
    · match j, hv with
      | 0, hv => exact h1 0 v hv
      | 1, hv => exact h1 1 v hv
      | 2, hv => exact h1 2 v hv
      | j + 3, hv =>
        have := k2 j v hv
        rw [show o + (j + 3) = o + 3 + j by omega]; exact this
    · match i, hi with
      | 0, _ => exact h2
      | i + 1, hi => exact k3 i (by simpa using hi)
theorem It.one {W : World} {t : Tr} {d q : Value} (h : It W t d q) : d.oneCell' = true ∧ q.oneCell' = true := by
  obtain ⟨_, _, _, _, _, _, _, _, rfl, _, _, _, rfl, _⟩ := h.open
  exact ⟨rfl, rfl⟩
/-- Some items more. -/
theorem Lv.app {w W : World} {v : Value} {L ts : List Tr} {ps : List (Value × Value)} {a : Option Addr} {b o c : Nat} {ty : TypeId} (h : Lv w W v L ps) (hI : Its w b o ts) (ha : ts = [] ∨ a = some ⟨b, o, none⟩) (hc : a = none → c = 0) (hB : Below w.heap.size w W) (hn : L.length + ts.length < 100000000000) :
    ∃ v' w' qs, (Builtin.append_ #[26, 26] ty #[v, .slice a ts.length c]).run Try.prog W = .ok v' w' ∧ Lv w w' v' (L ++ ts) qs ∧ W.grownBy w' v.ownBlock ∧ (v'.ownBlock = v.ownBlock ∨ v'.ownBlock = some W.heap.size) := by
  obtain ⟨i, hi, hi2⟩ := Option.map_eq_some_iff.1 info_it
  simp only [Prod.mk.injEq] at hi2
  obtain ⟨qs, k1, k2, k3⟩ := hI.cells
  by_cases h0 : ts = []
  · subst h0
    obtain rfl : qs = [] := List.eq_nil_of_length_eq_zero k1
    cases a with
    | none =>
      obtain rfl := hc rfl
      exact ⟨v, W, ps, run_append_owned_none (P := Try.prog) W w.heap.size 26 ty 29 i 3 Try.underlying26 hi v L.length _ h.2.1, by rw [List.append_nil]; exact h, World.grownBy.refl _ _, .inl rfl⟩
    | some ad =>
      obtain ⟨v', w', hr, h2, h3, _, h5⟩ := run_append_own_at (P := Try.prog) W w.heap.size 26 ty 29 i _ 3 56 Try.underlying26 hi hi2.1 hi2.2.1 hi2.2.2 rfl (by omega) v L.length _ h.2.1 ad 0 c [] rfl (fun j u hu => by simp at hu) (fun u hu => by cases hu) (by unfold maxLen; simp at hn; omega) (by simp at hn; omega) hB.size
      refine ⟨v', w', ps, hr, ⟨by simpa using h.1, by simpa using h2, by simpa using h.2.2⟩, h3, h5⟩
  · obtain rfl : a = some ⟨b, o, none⟩ := ha.resolve_left h0
    obtain ⟨v', w', hr, h2, h3, _, h5⟩ := run_append_own_at (P := Try.prog) W w.heap.size 26 ty 29 i _ 3 56 Try.underlying26 hi hi2.1 hi2.2.1 hi2.2.2 rfl (by omega) v L.length _ h.2.1 ⟨b, o, none⟩ ts.length c (itC ts qs) (itC_len _ _ k1) (fun j u hu => by
      rw [Addr.add_mid]; exact rangeT_keep k2 hB j u hu) (itC_one _ _ fun i hi => (k3 i hi).one) (by unfold maxLen; omega) (by omega) hB.size
    refine ⟨v', w', ps ++ qs, hr, ⟨by simp [h.1, k1], ?_, fun i hi => ?_⟩, h3, h5⟩
    · rw [← itC_app _ _ _ _ h.1, List.length_append]; exact h2
    · rw [List.length_append] at hi
      by_cases e : i < L.length
      · have e1 : (L ++ ts).getD i zT = L.getD i zT := by simp [List.getD, List.getElem?_append_left e]
        have e2 : (ps ++ qs).getD i zV = ps.getD i zV := by simp [List.getD, List.getElem?_append_left (show i < ps.length by have := h.1; omega)]
        rw [e1, e2]; exact h.2.2 i e
      · have e1 : (L ++ ts).getD i zT = ts.getD (i - L.length) zT := by simp [List.getD, List.getElem?_append_right (show L.length ≤ i by omega)]
        have e2 : (ps ++ qs).getD i zV = qs.getD (i - L.length) zV := by have := h.1; rw [List.getD, List.getElem?_append_right (show ps.length ≤ i by omega), this]; rfl
        rw [e1, e2]; exact k3 _ (by omega)
theorem wpList_append_lv {ops : Array Oper} {rest : List Oper} {op : Oper} {a : Act} {Q : Exit → Act → World → Prop} {w W : World} {v : Value} {L ts : List Tr} {ps : List (Value × Value)} {sa : Option Addr} {b o c n : Nat} (hgd : op.guard = none) (s t : Operand)
    (ho : op.op = .call { callee := .builtin .append, args := #[s, t], argTypes := #[26, 26] }) (hs : a.eval s = v) (hx : a.eval t = .slice sa n c) (hn : n = ts.length)
    (h : Lv w W v L ps) (hI : Its w b o ts) (ha : ts = [] ∨ sa = some ⟨b, o, none⟩) (hc : sa = none → c = 0) (hB : Below w.heap.size w W) (hl : L.length + ts.length < 100000000000)
    (hK : ∀ v' w' qs, Lv w w' v' (L ++ ts) qs → W.grownBy w' v.ownBlock → (v'.ownBlock = v.ownBlock ∨ v'.ownBlock = some W.heap.size) → wpList Try.prog ops Q rest (a.put op.dst v') w') :
    wpList Try.prog ops Q (op :: rest) a W := by
  subst hn
  refine wpList_plain hgd fun K hK' => ?_
  obtain ⟨v', w', qs, hr, h2, h3, h4⟩ := Lv.app (ty := op.type) h hI ha hc hB hl
  unfold Oper.wp execOp
  simp only [ho, resolve, invoke, builtin, Sem.run_bind, Sem.run_pure, Result.andThen_ok, List.map_toArray, List.map_cons, List.map_nil, hs, hx, hr]
  exact hK' _ _ (hK v' w' qs h2 h3 h4)
/-- The items of the first ones. -/
def nextL : List Tr → List Tr
  | [] => []
  | t :: ts => t.ts ++ nextL ts
theorem nextL_wt : ∀ ts : List Tr, wtS (nextL ts) ≤ wtS ts
  | [] => Nat.le_refl _
  | t :: ts => by
    have h1 := nextL_wt ts
    have h2 := wt_parts t
    rw [nextL, wtS_app, wtS]; omega
theorem nextL_snoc : ∀ (ts : List Tr) (t : Tr), nextL (ts ++ [t]) = nextL ts ++ t.ts
  | [], t => by simp [nextL]
  | u :: ts, t => by rw [List.cons_append, nextL, nextL, nextL_snoc ts t, List.append_assoc]
theorem wt_take (ts : List Tr) (i : Nat) : wtS (ts.take i) ≤ wtS ts := by
  have := wtS_app (ts.take i) (ts.drop i)
  rw [List.take_append_drop] at this
  omega
set_option maxRecDepth 100000 in
set_option maxHeartbeats 8000000 in
/-- The document's Beyond answers. -/
theorem rBeyond_any {t : Tr} {d q : Value} (hw : wtT t < 4194304) (w : World) (h : It w t d q) :
    Calls Try.prog 6 #[itV t d q] w fun e w' => ∃ y : Bool, e = .returned (.bool y) ∧ Below w.heap.size w w' := by
  obtain ⟨a1, b1, o1, c1, a2, b2, o2, c2, rfl, f1, f2, f3, rfl, g1, g2, g3⟩ := h.open
  have L0 : Hid (wtS [t] < 4194304 ∧ It w t (.slice a1 t.X.length c1) (.slice a2 t.ts.length c2)) := ⟨by rw [wtS, wtS]; omega, h⟩
  clear f1 f2 f3 g1 g2 g3 h hw
  unfold itV
  have HT : Hid (∀ W : World, Below w.heap.size w W → W.heap.size = w.heap.size + 1 → Lv w (W.alloc (.cells #[.bool t.l, .slice a1 t.X.length c1, .slice a2 t.ts.length c2] 29)) (.slice (some ⟨W.heap.size, 0, none⟩) 1 1) [t] [(.slice a1 t.X.length c1, .slice a2 t.ts.length c2)]) := fun W B hs => by
    refine ⟨rfl, World.ownsRow_lit W _ 1 B.size (by unfold maxLen; omega) rfl, fun i hi => ?_⟩
    have : i = 0 := by simp at hi; omega
    subst this
    exact L0.out.2
  have HW : Hid (wtS [t] < 4194304) := L0.out.1
  clear L0
  generalize t.X.length = XL at *
  generalize t.ts.length = TL at *
  go_enter Try.func6, Try.ntmps6
  refine wp_seq_k fun K h => ?_
  have H : Hid _ := h
  clear h
  go_wp2_with fail
  refine H.out _ _ ?_
  clear H K
  refine wp_world (fun W => Below w.heap.size w W ∧ W.heap.size = w.heap.size + 1 ∧ Bx W w.heap.size t.l (.slice a1 XL c1) (.slice a2 TL c2)) ⟨(Below.refl _ _).alloc (Nat.le_refl _) _, by simp, ⟨by simp [go_sem], by simp [go_sem], by simp [go_sem]⟩⟩ ?_
  rintro W ⟨B, hs, x0, x1, x2⟩
  have LV := HT.out W B hs
  rw [hs] at LV
  clear HT
  generalize t.l = lt at *
  refine wp_seq_k fun K h => ?_
  have H : Hid _ := h
  clear h
  go_wp2_with fail
  refine H.out _ _ ?_
  clear H K x0 x1 x2
  have B1 := B.alloc B.size (.cells #[.bool lt, .slice a1 XL c1, .slice a2 TL c2] 29)
  generalize W.alloc (.cells #[.bool lt, .slice a1 XL c1, .slice a2 TL c2] 29) = W1 at *
  have hs1 : (1 : Nat) = [t].length := rfl
  have LE : ∃ (lv : Value) (L : List Tr) (ps : List (Value × Value)), lv = .slice (some ⟨w.heap.size + 1, 0, none⟩) 1 1 ∧ Lv w W1 lv L ps ∧ wtS L < 4194304 := ⟨_, _, _, rfl, LV, HW.out⟩
  clear LV hs1 HW
  obtain ⟨lv, L0, ps0, elv, LV, hw0⟩ := LE
  rw [← elv]
  clear elv B hs W
  go_wp2_with fail
  go_loopg [3, 4, 5] 65538 (fun k lv tv dv wr => ∃ (L : List Tr) (ps : List (Value × Value)) (T D : Nat), k = 65538 - D ∧ D ≤ 65537 ∧ T ≤ 2147483647 ∧ tv = .int .i64 (T : Int) ∧ dv = .int .i64 (D : Int) ∧ Lv w wr lv L ps ∧ wtS L < 4194304 ∧ Below w.heap.size w wr)
  case atStart => exact ⟨L0, ps0, 0, 0, rfl, by omega, by omega, rfl, rfl, LV, hw0, B1⟩
  case round =>
    clear LV hw0 B1 W1
    obtain ⟨L, ps, T, D, hk, hD, hT, rfl, rfl, LV, hw, B⟩ := hrel
    have HK : Hid (gk = 65538 - D ∧ T ≤ 2147483647) := ⟨hk, hT⟩
    clear hk hT
    by_cases h0 : L = []
    · subst h0
      have hl : ∃ a c, u3 = .slice a 0 c := by
        rcases LV.2.1.2 with ⟨e, _⟩ | ⟨g, cap, cur, e, _⟩
        · exact ⟨_, _, e⟩
        · exact ⟨_, _, e⟩
      obtain ⟨a, c, rfl⟩ := hl
      clear LV HK hD hw
      go_wp2
      simp [bodyPost, results, Try.results6, go_sem]
      exact B
    · have hl : ∃ g c, u3 = .slice (some ⟨g, 0, none⟩) L.length c := by
        rcases LV.2.1.2 with ⟨_, e⟩ | ⟨g, cap, cur, e, _⟩
        · exact absurd (List.eq_nil_of_length_eq_zero e) h0
        · exact ⟨_, _, e⟩
      obtain ⟨gl, cl, rfl⟩ := hl
      have hpos : 0 < L.length := Nat.pos_of_ne_zero fun e => h0 (List.eq_nil_of_length_eq_zero e)
      have hpos' : (0 : Int) < (L.length : Int) := by omega
      have hlen := len_wt L
      have hlen' : (L.length : Int) ≤ 4194304 := by omega
      by_cases h5 : D = 65537
      · subst h5
        clear LV HK hD hw h0 hpos hlen
        generalize L.length = m at *
        go_wp2
        simp [bodyPost, results, Try.results6, go_sem]
        exact B
      · have hD' : (D : Int) ≤ 65536 := by omega
        have hp2 : decide (0 < L.length) = true := decide_eq_true hpos
        have HW : Hid (wtS L < 4194304 ∧ Lv w wr (.slice (some ⟨gl, 0, none⟩) L.length cl) L ps) := ⟨hw, LV⟩
        clear h0 hpos hlen hw h5 hD LV
        go_wp2_with fail
        go_loopg [4, 6, 7] L.length (fun k tv nv iv wr => ∃ (N : List Tr) (qs : List (Value × Value)) (T i : Nat), k = L.length - i ∧ i ≤ L.length ∧ T ≤ 2147483647 ∧ tv = .int .i64 (T : Int) ∧ iv = .int .i64 (i : Int) ∧ Lv w wr nv N qs ∧ N = nextL (L.take i) ∧ (∀ k, nv.ownBlock = some k → k ≠ gl) ∧ Lv w wr (.slice (some ⟨gl, 0, none⟩) L.length cl) L ps ∧ Below w.heap.size w wr)
        case atStart => exact ⟨[], [], T, 0, rfl, Nat.zero_le _, HK.out.2, rfl, rfl, Lv.nil _ _, by simp [nextL], (fun k e => by cases e), HW.out.2, B⟩
        case round =>
          obtain ⟨wo, rfl⟩ : ∃ wo : World, wo = wr := ⟨wr, rfl⟩
          have HKo : Hid _ := HK
          clear HK B
          obtain ⟨N, qs, T2, i, hk, hi, hT2, rfl, rfl, NV, hN, hg, LV, B⟩ := hrel
          have HK : Hid (gk = L.length - i ∧ i ≤ L.length) := ⟨hk, hi⟩
          clear hk
          by_cases h8 : i = L.length
          · subst h8
            rw [List.take_length] at hN
            have NW : Hid (wtS N < 4194304 ∧ Lv w wo u6 N qs) := ⟨by rw [hN]; have := nextL_wt L; have := HW.out.1; omega, NV⟩
            clear hN NV LV HK hi hg
            generalize L.length = m at *
            go_wp2_with fail
            go_roundg (65538 - (D + 1))
            case measure => have := HKo.out.1; omega
            case rel => exact ⟨N, qs, T2, D + 1, rfl, by omega, hT2, rfl, by go_num, NW.out.2, NW.out.1, B⟩
          · have hlt : i < L.length := by omega
            have hlt' : (i : Int) < (L.length : Int) := by omega
            have eI := LV.2.2 i hlt
            have hc := itC_at L ps LV.1 i hlt
            have c1 := (World.ownsRow.cellAt LV.2.1 (i * 3 + 1) (by omega)).trans hc.2.1
            have c2 := (World.ownsRow.cellAt LV.2.1 (i * 3 + 2) (by omega)).trans hc.2.2
            have e3 := take_snoc hlt
            have hwt := wt_item hlt
            have hpt := wt_parts (L.getD i zT)
            have hlw := len_wt (L.getD i zT).ts
            have hnl := len_wt N
            have hnw : wtS N ≤ wtS (L.take i) := by rw [hN]; exact nextL_wt _
            obtain ⟨a1, b1, o1, c1', a2, b2, o2, c2', ed, f1, f2, f3, eq, g1, g2, g3⟩ := eI.open
            rw [ed] at c1
            rw [eq] at c2
            clear eI hc ed eq f1 f2 f3
            have HX : Hid (Its w b2 o2 (L.getD i zT).ts ∧ ((L.getD i zT).ts = [] ∨ a2 = some ⟨b2, o2, none⟩) ∧ (a2 = none → c2' = 0) ∧ N.length + (L.getD i zT).ts.length < 100000000000 ∧ N ++ (L.getD i zT).ts = nextL (L.take (i + 1))) := ⟨g3, g2, g1.2, by have := HW.out.1; omega, by rw [e3, nextL_snoc, hN]⟩
            have hb1 : ((L.getD i zT).X.length : Int) ≤ 4194304 := by have := HW.out.1; omega
            have hb2 : ((L.getD i zT).ts.length : Int) ≤ 4194304 := by have := HW.out.1; omega
            have hT3 : (T2 : Int) ≤ 2147483647 := by omega
            have HG : Hid ((∀ k, u6.ownBlock = some k → k ≠ gl) ∧ Lv w wo u6 N qs ∧ Lv w wo (.slice (some ⟨gl, 0, none⟩) L.length cl) L ps) := ⟨hg, NV, LV⟩
            have gc1 := fun d os => keepC (below_regrown wo d os) c1
            have gc2 := fun d os => keepC (below_regrown wo d os) c2
            clear g1 g2 g3 e3 hwt hpt hlw hnl hnw hN hT2 hg NV LV c1 c2 hi h8
            obtain ⟨Ts, hTs⟩ : ∃ Ts, Ts = (L.getD i zT).ts := ⟨_, rfl⟩
            rw [← hTs] at HX hb2 gc2
            clear hTs
            generalize (L.getD i zT).X.length = XL2 at *
            refine wp_seq_k fun K h => ?_
            have H5 : Hid _ := h
            clear h
            go_wp2_with fail
            refine H5.out _ _ ?_
            clear H5 K
            refine wp_seq_k fun K h => ?_
            have H5 : Hid _ := h
            clear h
            refine wp_block ?_
            refine wp_seq_k fun K h => ?_
            have H : Hid _ := h
            clear h
            refine wp_region_quiet_below (by kernel_rfl) (by kernel_rfl) ?_
            repeat
              first
                | go_big_quiet_skip
                | (go_big_quiet_want; go_big_quiet_op; go_big_quiet_on)
            refine wpQuiet_nil ?_
            rintro w2 ⟨rg, rfl⟩
            have hb := below_regrown wo rg.d rg.os
            have HG2 : Hid ((∀ k, u6.ownBlock = some k → k ≠ gl) ∧ Lv w (grow (redrawn wo rg.d) rg.os) u6 N qs ∧ Lv w (grow (redrawn wo rg.d) rg.os) (.slice (some ⟨gl, 0, none⟩) L.length cl) L ps) := ⟨HG.out.1, HG.out.2.1.keep hb, HG.out.2.2.keep hb⟩
            have k2 := gc2 rg.d rg.os
            generalize grow (redrawn wo rg.d) rg.os = w2 at *
            clear gc1 gc2 HG
            have B2 := B.trans (hb.mono B.size)
            clear B hb
            refine H.out _ _ ?_
            clear H
            by_cases hS : (2147483647 : Int) < (T2 : Int) + (XL2 : Int) + (Ts.length : Int) + 1
            · clear HG2 k2 HX HW HKo HK H5
              go_wp2
              simp [bodyPost, results, Try.results6, go_sem]
              exact B2
            · have HS : Hid (T2 + XL2 + Ts.length + 1 ≤ 2147483647 ∧ ((T2 + XL2 + Ts.length + 1 : Nat) : Int) = (T2 : Int) + (XL2 : Int) + (Ts.length : Int) + 1) := ⟨by omega, by omega⟩
              have hS' : decide ((2147483647 : Int) < (T2 : Int) + (XL2 : Int) + (Ts.length : Int) + 1) = false := decide_eq_false hS
              have hS2 : (T2 : Int) + (XL2 : Int) + (Ts.length : Int) + 1 ≤ 2147483647 := by omega
              go_wp2_with (at_builtin; (refine wpList_append_lv rfl _ _ rfl rfl rfl rfl HG2.out.2.1 HX.out.1 HX.out.2.1 HX.out.2.2.1 B2 HX.out.2.2.2.1 ?_); intro v' w3 qs' NV' hgr hbl)
              have lo : ∀ k, u6.ownBlock = some k → w.heap.size ≤ k ∧ k < w2.heap.size := fun k e => World.ownsRow.lt HG2.out.2.1.2.1 k e
              have glt : gl < w2.heap.size := (World.ownsRow.lt HG2.out.2.2.2.1 gl rfl).2
              have B3 : Below w.heap.size w w3 := ⟨hgr.os.trans B2.os, hgr.tape.trans B2.tape, hgr.output.trans B2.output, Nat.le_trans B2.size hgr.size, fun k hk => (hgr.block k (Nat.lt_of_lt_of_le hk B2.size) fun e => by have := (lo k e.symm).1; omega).trans (B2.block k hk)⟩
              have LV3 := HG2.out.2.2.grown hgr fun k e q => HG2.out.1 k q (by have : gl = k := Option.some.inj e; exact this.symm)
              have hg3 : ∀ k, v'.ownBlock = some k → k ≠ gl := fun k e => by
                rcases hbl with h | h
                · rw [h] at e; exact HG2.out.1 k e
                · rw [h] at e; have := Option.some.inj e; omega
              have e5 := HX.out.2.2.2.2
              rw [e5] at NV'
              have E := HS.out
              clear hS hS' hS2 HG2 k2 HX HW HS
              refine H5.out _ _ ?_
              clear H5
              go_wp2_with fail
              go_roundg (L.length - (i + 1))
              case measure => have := HK.out.1; omega
              case rel => exact ⟨_, qs', T2 + XL2 + Ts.length + 1, i + 1, rfl, hlt, E.1, by rw [E.2], by go_num, NV', rfl, hg3, LV3, B3⟩
end Go.Proofs.Ytdjjphcfobbipaa
