import Derived.Test.YtllfmlgnemkklaaDoorTsL
/- waybillplay.LentTx. -/
namespace Go.Proofs.YtllfmlgnemkklaaDoor.tq
open Go.RowKit Go.Sort
theorem rI_t : rowInfo Tryd.prog 32 61 408 = true := by kernel_rfl
theorem rI_u : rowInfo Tryd.prog 56 34 136 = true := by kernel_rfl
theorem rI_e : rowInfo Tryd.prog 41 21 48 = true := by kernel_rfl
theorem size_1b : (Tryd.prog.info? 27).map (·.size) = some 1 := by kernel_rfl
theorem size_1h : (Tryd.prog.info? 29).map (·.size) = some 1 := by kernel_rfl
theorem size_1u : (Tryd.prog.info? 30).map (·.size) = some 1 := by kernel_rfl
theorem size_1e : (Tryd.prog.info? 28).map (·.size) = some 1 := by kernel_rfl
theorem there_keepB {W W' : World} {b : Nat} (h : W.there b 0 61) (B : Below W.heap.size W W') : W'.there b 0 61 := there_keepT h (by
  obtain ⟨v, hv⟩ := Option.isSome_iff_exists.1 (h 0 (by decide)).1
  exact World.block_lt_of_cell? W _ hv) B
theorem txC_one (t : Txv) : ∀ u ∈ txC t, u.oneCell' = true := fun u hu => by
  unfold txC at hu
  simp only [List.mem_append, List.mem_cons, List.not_mem_nil, or_false] at hu
  rcases hu with h | h | h | h | h | h | h | h | h | h | h | h | h | h | h | h | h | h
  all_goals first
    | (exact hC_one _ u h)
    | (subst h; rfl)
    | (rcases h with h | h | h | h <;> (subst h; rfl))
theorem aunC_one (x : Aun) : ∀ u ∈ aunC x, u.oneCell' = true := fun u hu => by
  unfold aunC at hu
  rcases List.mem_append.1 hu with h | h
  · simp at h; rcases h with h | h | h | h <;> (subst h; rfl)
  · rcases List.mem_append.1 h with k | k
    · exact hC_one _ u k
    · simp at k; rcases k with k | k | k | k | k | k | k | k | k | k <;> (subst k; rfl)
theorem us_one (L : List Aun) : ∀ u ∈ flatC aunC L, u.oneCell' = true := flat_one L fun x _ => aunC_one x
theorem es_one (L : List En) : ∀ u ∈ flatC enC L, u.oneCell' = true := flat_one L fun x _ => enC_one x
theorem UsG.len {W : World} {a : Option Addr} {b o c : Nat} {L : List Aun} (h : UsG W a b o c L) (i : Nat) (hi : i < L.length) : (aunC (L.getD i zAun)).length = 34 := aunC_len (h.2.2 i hi).1.2.1.1
theorem UsG.flat {W : World} {a : Option Addr} {b o c : Nat} {L : List Aun} (h : UsG W a b o c L) : W.rangeAt b o (flatC aunC L) := flat_of zAun L o h.len fun i hi => (h.2.2 i hi).2
theorem UsG.flen {W : World} {a : Option Addr} {b o c : Nat} {L : List Aun} (h : UsG W a b o c L) : (flatC aunC L).length = L.length * 34 := flatC_len L (mem_at (p := fun x => (aunC x).length = 34) zAun h.len)
theorem UsG.or {W : World} {a : Option Addr} {b o c : Nat} {L : List Aun} (h : UsG W a b o c L) : L.length = 0 ∨ a = some ⟨b, o, none⟩ := h.2.1.imp (fun e => by rw [e]; rfl) id
def mu2 : List Value := flatC aunC [mkU, mkU]
theorem mu2_eq : [Value.int .u64 0, .int .u64 0, .int .u64 0, .int .u64 0, .int .u8 0, .int .u8 0, .int .u8 0, .int .u8 0, .int .u8 0, .int .u8 0, .int .u8 0, .int .u8 0, .int .u8 0, .int .u8 0, .int .u8 0, .int .u8 0, .int .u8 0, .int .u8 0, .int .u8 0, .int .u8 0, .int .u8 0, .int .u8 0, .int .u8 0, .int .u8 0, .int .u64 165, .int .u64 0, .int .u64 0, .int .u64 0, .int .u64 0, .int .u64 0, .int .u64 0, .int .u64 0, .int .u64 0, .int .u64 0, .int .u64 0, .int .u64 0, .int .u64 0, .int .u64 0, .int .u8 0, .int .u8 0, .int .u8 0, .int .u8 0, .int .u8 0, .int .u8 0, .int .u8 0, .int .u8 0, .int .u8 0, .int .u8 0, .int .u8 0, .int .u8 0, .int .u8 0, .int .u8 0, .int .u8 0, .int .u8 0, .int .u8 0, .int .u8 0, .int .u8 0, .int .u8 0, .int .u64 165, .int .u64 0, .int .u64 0, .int .u64 0, .int .u64 0, .int .u64 0, .int .u64 0, .int .u64 0, .int .u64 0, .int .u64 0] = mu2 := rfl
theorem mu2_len : mu2.length = 2 * 34 := rfl
theorem mu2_one : ∀ u ∈ mu2, u.oneCell' = true := us_one _
theorem mu2_new {W : World} {t : TypeId} : (W.alloc (.cells #[.int .u64 0, .int .u64 0, .int .u64 0, .int .u64 0, .int .u8 0, .int .u8 0, .int .u8 0, .int .u8 0, .int .u8 0, .int .u8 0, .int .u8 0, .int .u8 0, .int .u8 0, .int .u8 0, .int .u8 0, .int .u8 0, .int .u8 0, .int .u8 0, .int .u8 0, .int .u8 0, .int .u8 0, .int .u8 0, .int .u8 0, .int .u8 0, .int .u64 165, .int .u64 0, .int .u64 0, .int .u64 0, .int .u64 0, .int .u64 0, .int .u64 0, .int .u64 0, .int .u64 0, .int .u64 0, .int .u64 0, .int .u64 0, .int .u64 0, .int .u64 0, .int .u8 0, .int .u8 0, .int .u8 0, .int .u8 0, .int .u8 0, .int .u8 0, .int .u8 0, .int .u8 0, .int .u8 0, .int .u8 0, .int .u8 0, .int .u8 0, .int .u8 0, .int .u8 0, .int .u8 0, .int .u8 0, .int .u8 0, .int .u8 0, .int .u8 0, .int .u8 0, .int .u64 165, .int .u64 0, .int .u64 0, .int .u64 0, .int .u64 0, .int .u64 0, .int .u64 0, .int .u64 0, .int .u64 0, .int .u64 0] t)).rangeAt W.heap.size 0 mu2 := by rw [← mu2_eq]; exact new_range
def me2 : List Value := flatC enC [mkE, mkE]
theorem me2_eq : [Value.int .u8 165, .int .u8 90, .int .u8 0, .int .u8 0, .int .u8 0, .int .u8 0, .int .u8 0, .int .u8 0, .int .u8 0, .int .u8 0, .int .u8 0, .int .u8 0, .int .u8 0, .int .u8 0, .int .u8 0, .int .u8 0, .int .u8 0, .int .u8 0, .int .u8 0, .int .u8 0, .slice none 0 0, .int .u8 165, .int .u8 90, .int .u8 0, .int .u8 0, .int .u8 0, .int .u8 0, .int .u8 0, .int .u8 0, .int .u8 0, .int .u8 0, .int .u8 0, .int .u8 0, .int .u8 0, .int .u8 0, .int .u8 0, .int .u8 0, .int .u8 0, .int .u8 0, .int .u8 0, .int .u8 0, .slice none 0 0] = me2 := rfl
theorem me2_len : me2.length = 2 * 21 := rfl
theorem me2_one : ∀ u ∈ me2, u.oneCell' = true := es_one _
theorem me2_new {W : World} {t : TypeId} : (W.alloc (.cells #[.int .u8 165, .int .u8 90, .int .u8 0, .int .u8 0, .int .u8 0, .int .u8 0, .int .u8 0, .int .u8 0, .int .u8 0, .int .u8 0, .int .u8 0, .int .u8 0, .int .u8 0, .int .u8 0, .int .u8 0, .int .u8 0, .int .u8 0, .int .u8 0, .int .u8 0, .int .u8 0, .slice none 0 0, .int .u8 165, .int .u8 90, .int .u8 0, .int .u8 0, .int .u8 0, .int .u8 0, .int .u8 0, .int .u8 0, .int .u8 0, .int .u8 0, .int .u8 0, .int .u8 0, .int .u8 0, .int .u8 0, .int .u8 0, .int .u8 0, .int .u8 0, .int .u8 0, .int .u8 0, .int .u8 0, .slice none 0 0] t)).rangeAt W.heap.size 0 me2 := by rw [← me2_eq]; exact new_range
set_option maxRecDepth 100000 in
set_option maxHeartbeats 4000000 in
theorem lentP_any {a : Option Addr} {b o c : Nat} {X : List Int} (hl : X.length < 1000000000) (w : World) (hG : BtG w a b o c X) :
    Calls Tryd.prog 45 #[.slice a X.length c] w fun e w' => ∃ g cap, e = .returned (.slice (some ⟨g, 0, none⟩) X.length cap) ∧ X.length + 70 ≤ cap ∧ (w.heap.size ≤ g ∧ g < w'.heap.size) ∧ Rt w' g 0 (hC (lentT X)) ∧ Below w.heap.size w w' := by
  have hc := copy_any hl w hG
  obtain ⟨i0, hi, hz0, hz1, hz2⟩ := info_parts info_byte
  obtain ⟨m, em⟩ : ∃ m, m = X.length := ⟨_, rfl⟩
  have HA : Hid (X.length = m ∧ m < 1000000000) := ⟨em.symm, by omega⟩
  rw [← em] at hc ⊢
  clear hG hl em
  go_enter Tryd.func45, Tryd.ntmps45
  go_wp2_with fail
  with_reducible refine hc.mono ?_
  rintro e w1 ⟨v1, rfl, o1, B1⟩
  clear hc
  go_wp2_with fail
  go_loopg [3, 4] 70 (fun k lv iv wr => ∃ i : Nat, k = 70 - i ∧ i ≤ 70 ∧ iv = .int .i64 i ∧ OwnB w.heap.size wr lv (X ++ List.replicate i 165) ∧ Below w.heap.size w wr)
  case atStart => exact ⟨0, rfl, by decide, rfl, by simpa using o1, B1⟩
  case round =>
    clear o1 B1
    obtain ⟨i, hk, hi9, rfl, hown, B⟩ := hrel
    have HK : Hid (gk = 70 - i) := hk
    by_cases h8 : i = 70
    · subst h8
      have el : (X ++ List.replicate 70 165).length = m + 70 := by rw [List.length_append, HA.out.1, List.length_replicate]
      obtain ⟨g, cap, e3, hcap, hb, hlt, hr⟩ := own_at hown (by omega)
      rw [el] at e3 hcap
      subst e3
      have hown' := hown.row
      rw [el] at hown'
      have HF : Hid ((w.heap.size ≤ g ∧ g < wr.heap.size) ∧ Rt wr g 0 (hC (lentT X)) ∧ Below w.heap.size w wr) := ⟨⟨hb, hlt⟩, ⟨hr, fun j hj => ⟨by rw [hr j _ (List.getElem?_eq_getElem hj)]; rfl, by rw [Nat.zero_add]; exact World.ownsRow.frozenAt hown' j⟩⟩, B⟩
      clear hown hown' B hb hlt hk el hr
      have c1 : (m : Int) ≤ (cap : Int) := by omega
      have c2 : (m : Int) + 70 ≤ (cap : Int) := by omega
      go_wp2
      simp [bodyPost, results, Tryd.results45, go_sem]
      exact ⟨g, cap, ⟨rfl, rfl⟩, hcap, HF.out⟩
    · have HF : Hid (OwnB w.heap.size wr u3 (X ++ List.replicate i 165) ∧ Below w.heap.size w wr) := ⟨hown, B⟩
      clear hown B hk
      have hlt' : (i : Int) < 70 := by omega
      have LR : Hid ((X ++ List.replicate i (165 : Int)).length = m + i ∧ m + i < 1000000070) := ⟨by rw [List.length_append, HA.out.1, List.length_replicate], by have := HA.out; omega⟩
      go_wp2_with ((at_builtin; (refine wpList_append_own_at _ rfl _ _ 27 rfl w.heap.size 5 i0 (.int .u8 0) 1 1 Tryd.underlying27 hi hz0 hz1 hz2 rfl (by decide) u3 _ _ rfl (HF.out.1.alloc _).row ⟨wr.heap.size, 0, none⟩ 1 1 [.int .u8 165] rfl rfl (cell_one_new _ _ _) (fun u hu => by simp at hu; subst hu; rfl) (by unfold maxLen; have := LR.out; omega) (by have := LR.out; omega) (by have := HF.out.2.size; simp; omega) ?_); intro v' w3 hown' hgrow3 hnil3 hblk))
      have HO : Hid (OwnB w.heap.size w3 v' (X ++ List.replicate (i + 1) 165) ∧ Below w.heap.size w w3) := by
        refine ⟨?_, ?_⟩
        · rw [← rep_snocT, ← List.append_assoc, OwnB, List.length_append, List.map_append]
          exact hown'
        · exact (HF.out.2.alloc HF.out.2.size _).grown hgrow3 (by have := HF.out.2.size; simp; omega) (fun k hk => (HF.out.1.row.lt k hk).1)
      clear hown' hgrow3 hnil3 hblk
      go_roundg (70 - (i + 1))
      case measure => have := HK.out; omega
      case rel => exact ⟨i + 1, rfl, by omega, by go_num, HO.out⟩
theorem wpAnyH_takeT {P : Program} {md : Region.Mode} {ops : Array Oper} {Q : Exit → Act → World → Prop} {S : World → Prop} {i : Nat} {oi : Oper} {v : Value} {fuel : Nat} {listed : Array Bool} {a : Act} {w : World} (d : Nat) (hi : ops[i]? = some oi) (hd : oi.dst = some d)
    (hs : Region.noSelect ops = true) (hf : Region.free md ops listed i = true) (hr : (Region.ready md ops listed).contains i = true)
    (hQ : ∀ c a w, Q (.panic c) (a.put oi.dst v) w → Q (.panic c) a w) (hy : YieldsIf P ops S oi v a) (hS : S w)
    (h : wpAnyH P md ops Q S fuel (listed.setIfInBounds i true) (a.put (some d) v) w) : wpAnyH P md ops Q S (fuel + 1) listed a w :=
  wpAnyH_take hi hs hf hr hQ hy hS (by rw [hd]; exact h)
theorem range_lt {W : World} {b o : Nat} {cs : List Value} (h : W.rangeAt b o cs) (hl : 0 < cs.length) : b < W.heap.size := World.block_lt_of_cell? W ⟨b, o + 0, none⟩ (h 0 _ (List.getElem?_eq_getElem hl))
theorem flat2_pos (ks : List (List Int)) : 0 < (flatC hC (ks ++ [mkHs, mkHs])).length := by
  rw [flatC_app, List.length_append, show flatC hC [mkHs, mkHs] = mk2 from rfl, mk2_len]; omega
theorem kworldT {K : Act → World → Prop} {a : Act} {w : World} (I : World → Prop) (h : I w) (k : ∀ V, I V → K a V) : K a w := k w h
theorem yields_midT {P : Program} {a : Act} {op : Oper} (ty : TypeId) (x : Operand) (ho : op.op = .load ty x) (b o : Nat) (hx : a.eval x = .pointer (some ⟨b, o, none⟩)) (cs : List Value) (d : TypeDesc) {w : World} (hc : w.rangeAt b o cs)
    (hu : P.underlying ty = some d) (hd : d.isRow = true) (hi : (P.info? ty).map (·.size) = some cs.length) : (execOp a.eval op).run P w = .ok (.value (.agg cs.toArray)) w := by
  unfold execOp
  simp only [ho, hx, Instr.loadAt, Instr.sureAddr, Sem.run_bind, Sem.run_pure, Result.andThen_ok, run_loadVar_mid w b o ty cs d hc hu hd hi]
theorem built_20T (c0 c1 c2 c3 c4 c5 c6 c7 c8 c9 c10 c11 c12 c13 c14 c15 c16 c17 c18 c19 : Value) (a : Option Addr) (n c : Nat) : Tryd.prog.built 41 [(0, .agg #[c0, c1, c2, c3, c4, c5, c6, c7, c8, c9, c10, c11, c12, c13, c14, c15, c16, c17, c18, c19]), (1, .slice a n c)] = some #[c0, c1, c2, c3, c4, c5, c6, c7, c8, c9, c10, c11, c12, c13, c14, c15, c16, c17, c18, c19, .slice a n c] := by kernel_rfl
theorem yields_en {a : Act} {o : Oper} {x y : Operand} {sa : Option Addr} {n c : Nat} {c0 c1 c2 c3 c4 c5 c6 c7 c8 c9 c10 c11 c12 c13 c14 c15 c16 c17 c18 c19 : Value} {w : World} (ho : o.op = .build 41 #[(0, x), (1, y)]) (hx : a.eval x = .agg #[c0, c1, c2, c3, c4, c5, c6, c7, c8, c9, c10, c11, c12, c13, c14, c15, c16, c17, c18, c19]) (hy : a.eval y = .slice sa n c) : (execOp a.eval o).run Tryd.prog w = .ok (.value (.agg #[c0, c1, c2, c3, c4, c5, c6, c7, c8, c9, c10, c11, c12, c13, c14, c15, c16, c17, c18, c19, .slice sa n c])) w := by
  have e : ((#[(0, x), (1, y)] : Array (Nat × Operand)).map fun (i, x) => (i, a.eval x)).toList = [(0, .agg #[c0, c1, c2, c3, c4, c5, c6, c7, c8, c9, c10, c11, c12, c13, c14, c15, c16, c17, c18, c19]), (1, .slice sa n c)] := by simp [hx, hy]
  have hr := run_build (P := Tryd.prog) w 41 ((#[(0, x), (1, y)] : Array (Nat × Operand)).map fun (i, x) => (i, a.eval x)) _ (by rw [e]; exact built_20T c0 c1 c2 c3 c4 c5 c6 c7 c8 c9 c10 c11 c12 c13 c14 c15 c16 c17 c18 c19 sa n c)
  unfold execOp
  simp only [ho, Sem.run_bind, hr, Result.andThen_ok, Sem.run_pure]
theorem list_20 {l : List Int} (h : l.length = 20) : ∃ a0 a1 a2 a3 a4 a5 a6 a7 a8 a9 a10 a11 a12 a13 a14 a15 a16 a17 a18 a19, l = [a0, a1, a2, a3, a4, a5, a6, a7, a8, a9, a10, a11, a12, a13, a14, a15, a16, a17, a18, a19] := by
  match l, h with
  | [a0, a1, a2, a3, a4, a5, a6, a7, a8, a9, a10, a11, a12, a13, a14, a15, a16, a17, a18, a19], _ => exact ⟨a0, a1, a2, a3, a4, a5, a6, a7, a8, a9, a10, a11, a12, a13, a14, a15, a16, a17, a18, a19, rfl⟩
theorem txC_sets {t : Txv} (h : t.to.length = 20) (gD cD gH cH gU cU gE cE : Nat) (es : List En) (he : es.length = t.El.length) : ((((txC t).set 41 (.slice (some ⟨gD, 0, none⟩) t.Dl.length cD)).set 47 (.slice (some ⟨gH, 0, none⟩) t.Hsl.length cH)).set 48 (.slice (some ⟨gU, 0, none⟩) t.Ul.length cU)).set 42 (.slice (some ⟨gE, 0, none⟩) t.El.length cE) = txC { t with Da := some ⟨gD, 0, none⟩, Db := gD, Do := 0, Dc := cD, Hsa := some ⟨gH, 0, none⟩, Hsb := gH, Hso := 0, Hsc := cH, Ua := some ⟨gU, 0, none⟩, Ub := gU, Uo := 0, Uc := cU, Ea := some ⟨gE, 0, none⟩, Eb := gE, Eo := 0, Ec := cE, El := es } := by
  obtain ⟨a0, a1, a2, a3, a4, a5, a6, a7, a8, a9, a10, a11, a12, a13, a14, a15, a16, a17, a18, a19, hl⟩ := list_20 h
  unfold txC
  simp only [hl, he]
  rfl
theorem wp_append_rw {o : Oper} {a : Act} {K : Act → World → Prop} {Q : Exit → Act → World → Prop} {w : World} {B n : Nat} {v : Value} {xs : List Value} {sa : Option Addr} {g p m c : Nat} {news : List Value} (k bytes : Nat) (t e : TypeId) (ht : Tryd.prog.underlying t = some (.slice e)) (hI : rowInfo Tryd.prog e k bytes = true) (k0 : 0 < k)
    (s x : Operand) (ho : o.op = .call { callee := .builtin .append, args := #[s, x], argTypes := #[t, t] }) (hs : a.eval s = v) (hx : a.eval x = .slice sa m c) (h : w.ownsRow B e k v n xs) (hl : news.length = m * k) (ha : m = 0 ∨ sa = some ⟨g, p, none⟩) (hnc : sa = none → c = 0) (hr : w.rangeAt g p news) (h1 : ∀ u ∈ news, u.oneCell' = true) (hm : n + m ≤ maxLen) (hby : (n + m) * bytes ≤ 140737488355328) (hB : B ≤ w.heap.size)
    (hK : ∀ v' w', w'.ownsRow B e k v' (n + m) (xs ++ news) → w.grownBy w' v.ownBlock → (v'.ownBlock = v.ownBlock ∨ v'.ownBlock = some w.heap.size) → K (a.put o.dst v') w') : o.wp Tryd.prog a w K Q := by
  obtain ⟨v', w', hr', h2, h3, h4⟩ := run_append_rw (ty := o.type) (c := c) ht hI k0 h hl ha hnc hr h1 hm hby hB
  unfold Oper.wp execOp
  simp only [ho, resolve, invoke, builtin, Sem.run_bind, Sem.run_pure, Result.andThen_ok, List.map_toArray, List.map_cons, List.map_nil, hs, hx, hr']
  exact hK v' w' h2 h3 h4
set_option maxRecDepth 100000 in
set_option maxHeartbeats 40000000 in
theorem lentTx_any {t : Txv} (hn : Hid (t.Dl.length < 1000000000 ∧ t.Hsl.length < 1000000000 ∧ t.Ul.length < 100000000 ∧ t.El.length < 1000000000 ∧ ∀ i, i < t.El.length → (t.El.getD i zEn).ks.length < 1000000000)) (w : World) (hM : MkH w) (hA : MkA w) (hG : TxG w t) :
    Calls Tryd.prog 27 #[.agg (txC t).toArray] w fun e w' => ∃ u, e = .returned (.agg (txC u).toArray) ∧ LtT w' u t ∧ Below w.heap.size w w' ∧ LtP w.heap.size u t := by
  have F1 : Hid (∀ W b, W.rangeAt b 0 (txC t) → TxF W b t.ty t.ch t.no (numC t.pr) (numC t.ti) (numC t.ca) t.gas t.cr (hC t.to) (numC t.va) (.slice t.Da t.Dl.length t.Dc) (.slice t.Ea t.El.length t.Ec) (numC t.bc) (.slice t.Hsa t.Hsl.length t.Hsc) (.slice t.Ua t.Ul.length t.Uc) (numC t.sv) (numC t.sr) (numC t.ss)) := fun W b h => TxB.facts ⟨h, hG.to.1⟩
  have CL : Hid ((txC t).length = 61) := txC_len hG.to.1
  have CO : Hid (∀ u ∈ txC t, u.oneCell' = true) := txC_one t
  have CS : Hid ((Tryd.prog.info? 32).map (·.size) = some (txC t).length) := by show _ = _; rw [CL.out]; exact size_txT
  have KD : Hid (∀ W, Below w.heap.size w W → Calls Tryd.prog 45 #[.slice t.Da t.Dl.length t.Dc] W fun e w' => ∃ g cap, e = .returned (.slice (some ⟨g, 0, none⟩) t.Dl.length cap) ∧ t.Dl.length + 70 ≤ cap ∧ (W.heap.size ≤ g ∧ g < w'.heap.size) ∧ Rt w' g 0 (hC (lentT t.Dl)) ∧ Below W.heap.size W w') := fun W B => lentP_any hn.out.1 W (hG.D.keep B)
  have KH : Hid (∀ W, Below w.heap.size w W → Calls Tryd.prog 46 #[.slice t.Hsa t.Hsl.length t.Hsc] W fun e w' => ∃ g cap, e = .returned (.slice (some ⟨g, 0, none⟩) t.Hsl.length cap) ∧ t.Hsl.length + 2 ≤ cap ∧ W.heap.size ≤ g ∧ g < w'.heap.size ∧ w'.rangeAt g 0 (flatC hC (t.Hsl ++ [mkHs, mkHs])) ∧ Below W.heap.size W w') := fun W B => lentH_any hn.out.2.1 W (hM.keep B) (hG.Hs.keep B)
  have KE : Hid (∀ i, i < t.El.length → ∀ W, Below w.heap.size w W → Calls Tryd.prog 46 #[.slice (t.El.getD i zEn).a (t.El.getD i zEn).ks.length (t.El.getD i zEn).c] W fun e w' => ∃ g cap, e = .returned (.slice (some ⟨g, 0, none⟩) (t.El.getD i zEn).ks.length cap) ∧ (t.El.getD i zEn).ks.length + 2 ≤ cap ∧ W.heap.size ≤ g ∧ g < w'.heap.size ∧ w'.rangeAt g 0 (flatC hC ((t.El.getD i zEn).ks ++ [mkHs, mkHs])) ∧ Below W.heap.size W w') := fun i hi W B => lentH_any (hn.out.2.2.2.2 i hi) W (hM.keep B) ((hG.E.2.2 i hi).1.keep B).2
  have GU : Hid (∀ W, Below w.heap.size w W → UsG W t.Ua t.Ub t.Uo t.Uc t.Ul) := fun W B => hG.U.keep B
  have GE : Hid (EsG w t.Ea t.Eb t.Eo t.Ec t.El) := hG.E
  have NB : Hid (t.Ul.length < 100000000 ∧ t.El.length < 1000000000) := ⟨hn.out.2.2.1, hn.out.2.2.2.1⟩
  have n1 : (t.Ul.length : Int) < 100000000 := by have := NB.out; omega
  have n2 : (t.El.length : Int) < 1000000000 := by have := NB.out; omega
  have TO : Hid (t.to.length = 20) := hG.to.1
  have MA : Hid (w.rangeAt 0 0 (hC mkAd)) := hA
  have CE : Hid (∃ C, C = txC t) := ⟨_, rfl⟩
  have EC : Hid (∀ C, C = txC t → C = txC t) := fun _ h => h
  obtain ⟨C, hC0⟩ : ∃ C, C = txC t := ⟨_, rfl⟩
  have HC0 : Hid (C = txC t) := hC0
  rw [← hC0] at F1 CL CO CS ⊢
  clear hC0 CE EC hM hA hG
  go_enter Tryd.func27, Tryd.ntmps27
  go_wp2_with first
    | (refine wpList_boxT rfl 32 _ rfl C rfl ?_; intro b1 W1 h1 BB r1)
    | (refine wpList_allocT rfl 32 rfl (some 2) rfl 61 408 rI_t ?_; intro b2 W2 h2 B9 t2; replace BB := BB.trans (B9.mono BB.size); replace r1 := range_keep r1 B9; clear B9)
    | (refine wpList_load_midT rfl 32 _ rfl b1 0 rfl C _ r1 Tryd.underlying32 rfl CS.out ?_)
    | (refine wpList_allocT rfl 32 rfl (some 3) rfl 61 408 rI_t ?_; intro b3 W3 h3 B9 t3; replace BB := BB.trans (B9.mono BB.size); replace r1 := range_keep r1 B9; replace t2 := there_keepB t2 B9; have n13 : Hid (b1 ≠ b3) := (show b1 ≠ b3 by have := h1.out; have := h2.out; have := h3.out; omega); have n23 : Hid (b2 ≠ b3) := (show b2 ≠ b3 by have := h1.out; have := h2.out; have := h3.out; omega); have L3 : Hid (w.heap.size ≤ b3 ∧ w.heap.size ≤ b2 ∧ b1 < b2 ∧ b2 < b3) := (show w.heap.size ≤ b3 ∧ w.heap.size ≤ b2 ∧ b1 < b2 ∧ b2 < b3 by have := h1.out; have := h2.out; have := h3.out; omega); have L4 : Hid (b3 < W3.heap.size) := (show b3 < W3.heap.size by have := h3.out; omega); clear B9 h1 h2 h3)
    | (refine wpList_storeT rfl 32 _ _ rfl b3 C rfl rfl (by rw [CL.out]; exact t3) CS.out CO.out ?_; intro W4 u9 r3 t9; clear t3; have t3 : W4.there b3 0 61 := (by rw [CL.out] at t9; exact t9); replace BB := u9.below L3.out.1 BB; replace r1 := range_same r1 (u9.block _ n13.out); replace t2 := there_same t2 (u9.block _ n23.out); replace L4 : Hid (b3 < W4.heap.size) := (show b3 < W4.heap.size by rw [u9.size]; exact L4.out); clear u9 t9)
    | (refine wpList_load_cellT rfl 27 _ rfl b1 41 rfl (.slice t.Da t.Dl.length t.Dc) _ (F1.out _ _ r1).D Tryd.underlying27 rfl ?_)
    | (go_at_call 45; refine (KD.out _ BB).mono ?_; rintro x9 W5 ⟨gD, cD, rfl, hcD, hgD, lD, B9⟩; have nD3 : Hid (b3 < gD) := (show b3 < gD by have := L4.out; have := hgD.1; omega); replace BB := BB.trans (B9.mono BB.size); replace r1 := range_keep r1 B9; replace t2 := there_keepB t2 B9; replace r3 := range_keep r3 B9; replace t3 := there_keepB t3 B9; replace L4 : Hid (b3 < W5.heap.size) := (show b3 < W5.heap.size by have := L4.out; have := B9.size; omega); replace hgD : Hid (gD < W5.heap.size) := hgD.2; clear B9)
    | (refine wpList_store1T rfl 27 _ _ rfl b3 41 (.slice (some ⟨gD, 0, none⟩) t.Dl.length cD) C rfl rfl rfl rfl size_1b r3 (by rw [CL.out]; exact t3) (by rw [CL.out]; decide) ?_; intro W6 u9 r9 t9; clear r3 t3; have r3 := r9; have t3 : W6.there b3 0 61 := (by rw [CL.out] at t9; exact t9); replace BB := u9.below L3.out.1 BB; replace r1 := range_same r1 (u9.block _ n13.out); replace t2 := there_same t2 (u9.block _ n23.out); replace lD := Rt.same lD (u9.block _ (Nat.ne_of_gt nD3.out)); replace L4 : Hid (b3 < W6.heap.size) := (show b3 < W6.heap.size by rw [u9.size]; exact L4.out); replace hgD : Hid (gD < W6.heap.size) := (show gD < W6.heap.size by rw [u9.size]; exact hgD.out); clear u9 t9 r9)
    | (refine wpList_load_cellT rfl 29 _ rfl b1 47 rfl (.slice t.Hsa t.Hsl.length t.Hsc) _ (F1.out _ _ r1).Hs Tryd.underlying29 rfl ?_)
    | (go_at_call 46; refine (KH.out _ BB).mono ?_; rintro x9 W7 ⟨gH, cH, rfl, hcH, hgH, hgH2, lH, B9⟩; have nH3 : Hid (b3 < gH) := (show b3 < gH by have := L4.out; omega); replace BB := BB.trans (B9.mono BB.size); replace r1 := range_keep r1 B9; replace t2 := there_keepB t2 B9; replace lD := Rt.keep lD B9; replace r3 := range_keep r3 B9; replace t3 := there_keepB t3 B9; replace L4 : Hid (b3 < W7.heap.size) := (show b3 < W7.heap.size by have := L4.out; have := B9.size; omega); have nDH : Hid (gD < gH) := (show gD < gH by have := hgD.out; omega); replace hgD : Hid (gD < W7.heap.size) := (show gD < W7.heap.size by have := hgD.out; have := B9.size; omega); clear B9 hgH hgH2)
    | (refine wpList_store1T rfl 29 _ _ rfl b3 47 (.slice (some ⟨gH, 0, none⟩) t.Hsl.length cH) (C.set 41 (.slice (some ⟨gD, 0, none⟩) t.Dl.length cD)) rfl rfl rfl rfl size_1h r3 (by rw [List.length_set, CL.out]; exact t3) (by rw [List.length_set, CL.out]; decide) ?_; intro W8 u9 r9 t9; clear r3 t3; have r3 := r9; have t3 : W8.there b3 0 61 := (by rw [List.length_set, CL.out] at t9; exact t9); replace BB := u9.below L3.out.1 BB; replace r1 := range_same r1 (u9.block _ n13.out); replace t2 := there_same t2 (u9.block _ n23.out); replace lD := Rt.same lD (u9.block _ (Nat.ne_of_gt nD3.out)); replace lH := range_same lH (u9.block _ (Nat.ne_of_gt nH3.out)); replace L4 : Hid (b3 < W8.heap.size) := (show b3 < W8.heap.size by rw [u9.size]; exact L4.out); replace hgD : Hid (gD < W8.heap.size) := (show gD < W8.heap.size by rw [u9.size]; exact hgD.out); clear u9 t9 r9)
    | (refine wpList_load_cellT rfl 30 _ rfl b1 48 rfl (.slice t.Ua t.Ul.length t.Uc) _ (F1.out _ _ r1).U Tryd.underlying30 rfl ?_)
    | (at_builtin; refine wpList_append_rw (w := W8) (n := 0) (g := t.Ub) (p := t.Uo) (news := flatC aunC t.Ul) 34 136 30 56 Tryd.underlying30 rI_u (by decide) rfl _ _ rfl rfl rfl (World.ownsRow_nil W8 W8.heap.size _ _) (GU.out _ BB).flen (GU.out _ BB).or (GU.out _ BB).1.2 (GU.out _ BB).flat (us_one _) (by have := NB.out; unfold maxLen; omega) (by have := NB.out; omega) (Nat.le_refl _) ?_; intro v1 W9 o1 g1 p1; have HO : Hid (W9.ownsRow W8.heap.size 56 34 v1 t.Ul.length (flatC aunC t.Ul) ∧ Below W8.heap.size W8 W9) := ⟨by rw [Nat.zero_add, List.nil_append] at o1; exact o1, (Below.refl _ _).grown g1 (Nat.le_refl _) (fun k hk => by cases hk)⟩; clear o1 g1 p1)
    | (at_builtin; refine wpList_append_rw (B := W8.heap.size) (n := t.Ul.length) (v := v1) (xs := flatC aunC t.Ul) (g := W9.heap.size) (p := 0) (m := 2) (news := mu2) 34 136 30 56 Tryd.underlying30 rI_u (by decide) rfl _ _ rfl rfl rfl (HO.out.1.alloc _) mu2_len (.inr rfl) (fun e => by cases e) mu2_new mu2_one (by have := NB.out; unfold maxLen; omega) (by have := NB.out; omega) (by have := HO.out.2.size; rw [World.size_alloc]; omega) ?_; intro v2 W10 o2 g2 p2; have B9 : Below W8.heap.size W8 W10 := (HO.out.2.alloc HO.out.2.size _).grown g2 (by have := HO.out.2.size; rw [World.size_alloc]; omega) (fun k hk => (HO.out.1.lt k hk).1); obtain ⟨gU, cU, e2, hcU, hbU, hltU, lU⟩ := own_at o2 (by omega); have nU3 : Hid (b3 < gU) := (show b3 < gU by have := L4.out; omega); have nDU : Hid (gD < gU) := (show gD < gU by have := hgD.out; omega); replace hgD : Hid (gD < W10.heap.size) := (show gD < W10.heap.size by have := hgD.out; have := B9.size; omega); replace BB := BB.trans (B9.mono BB.size); replace r1 := range_keep r1 B9; replace t2 := there_keepB t2 B9; replace lD := Rt.keep lD B9; replace lH := range_keep lH B9; replace r3 := range_keep r3 B9; replace t3 := there_keepB t3 B9; replace L4 : Hid (b3 < W10.heap.size) := (show b3 < W10.heap.size by have := L4.out; have := B9.size; omega); subst e2; have cU1 : (t.Ul.length : Int) ≤ (cU : Int) := (by omega); rw [← (show flatC aunC (t.Ul ++ [mkU, mkU]) = flatC aunC t.Ul ++ mu2 from flatC_app _ _ _)] at lU; clear B9 o2 g2 p2 hbU hltU HO)
    | (refine wpList_store1T rfl 30 _ _ rfl b3 48 (.slice (some ⟨gU, 0, none⟩) t.Ul.length cU) ((C.set 41 (.slice (some ⟨gD, 0, none⟩) t.Dl.length cD)).set 47 (.slice (some ⟨gH, 0, none⟩) t.Hsl.length cH)) rfl rfl rfl rfl size_1u r3 (by rw [List.length_set, List.length_set, CL.out]; exact t3) (by rw [List.length_set, List.length_set, CL.out]; decide) ?_; intro W11 u9 r9 t9; clear r3 t3; have r3 := r9; have t3 : W11.there b3 0 61 := (by rw [List.length_set, List.length_set, CL.out] at t9; exact t9); replace BB := u9.below L3.out.1 BB; replace r1 := range_same r1 (u9.block _ n13.out); replace t2 := there_same t2 (u9.block _ n23.out); replace lD := Rt.same lD (u9.block _ (Nat.ne_of_gt nD3.out)); replace lH := range_same lH (u9.block _ (Nat.ne_of_gt nH3.out)); replace lU := range_same lU (u9.block _ (Nat.ne_of_gt nU3.out)); replace L4 : Hid (b3 < W11.heap.size) := (show b3 < W11.heap.size by rw [u9.size]; exact L4.out); replace hgD : Hid (gD < W11.heap.size) := (show gD < W11.heap.size by rw [u9.size]; exact hgD.out); clear u9 t9 r9)
  have UO : Hid (∀ gE cE2 : Nat, ∀ u ∈ ((((C.set 41 (.slice (some ⟨gD, 0, none⟩) t.Dl.length cD)).set 47 (.slice (some ⟨gH, 0, none⟩) t.Hsl.length cH)).set 48 (.slice (some ⟨gU, 0, none⟩) t.Ul.length cU)).set 42 (.slice (some ⟨gE, 0, none⟩) t.El.length cE2)), u.oneCell' = true) := fun gE cE2 u hu => by
    rcases List.mem_or_eq_of_mem_set hu with h | h
    · rcases List.mem_or_eq_of_mem_set h with h | h
      · rcases List.mem_or_eq_of_mem_set h with h | h
        · rcases List.mem_or_eq_of_mem_set h with h | h
          · exact CO.out u h
          · subst h; rfl
        · subst h; rfl
      · subst h; rfl
    · subst h; rfl
  have HV : Hid (Below w.heap.size w W11 ∧ W11.rangeAt b1 0 C ∧ W11.there b2 0 61 ∧ W11.rangeAt b3 0 (((C.set 41 (.slice (some ⟨gD, 0, none⟩) t.Dl.length cD)).set 47 (.slice (some ⟨gH, 0, none⟩) t.Hsl.length cH)).set 48 (.slice (some ⟨gU, 0, none⟩) t.Ul.length cU)) ∧ W11.there b3 0 61 ∧ (Rt W11 gD 0 (hC (lentT t.Dl)) ∧ W11.rangeAt gH 0 (flatC hC (t.Hsl ++ [mkHs, mkHs])) ∧ W11.rangeAt gU 0 (flatC aunC (t.Ul ++ [mkU, mkU]))) ∧ b3 < W11.heap.size) := ⟨BB, r1, t2, r3, t3, ⟨lD, lH, lU⟩, L4.out⟩
  clear r1 t2 r3 t3 lD lH lU L4 BB
  go_loopg [5, 6] t.El.length (fun k av iv wr => ∃ (i : Nat) (es : List En), k = t.El.length - i ∧ i ≤ t.El.length ∧ iv = .int .i64 (i : Int) ∧ es.length = i ∧ wr.ownsRow W11.heap.size 41 21 av i (flatC enC es) ∧ (∀ j, j < i → KyM wr (es.getD j zEn) (t.El.getD j zEn) ∧ av.ownBlock ≠ some (es.getD j zEn).b ∧ W11.heap.size ≤ (es.getD j zEn).b) ∧ Below W11.heap.size W11 wr)
  case atStart => exact ⟨0, [], rfl, Nat.zero_le _, rfl, rfl, World.ownsRow_nil _ _ _ _, fun j hj => absurd hj (Nat.not_lt_zero _), Below.refl _ _⟩
  case round =>
    obtain ⟨i, es, hk, hi, rfl, hes, hown, hky, B⟩ := hrel
    have HK : Hid (gk = t.El.length - i ∧ es.length = i ∧ wr.ownsRow W11.heap.size 41 21 u5 i (flatC enC es) ∧ (∀ j, j < i → KyM wr (es.getD j zEn) (t.El.getD j zEn) ∧ u5.ownBlock ≠ some (es.getD j zEn).b ∧ W11.heap.size ≤ (es.getD j zEn).b) ∧ Below W11.heap.size W11 wr) := ⟨hk, hes, hown, hky, B⟩
    have cE : wr.cell? ⟨b1, 42, none⟩ = some (.slice t.Ea t.El.length t.Ec) := (F1.out _ _ (range_keep HV.out.2.1 B)).E
    clear hk hes hown hky B
    by_cases h8 : i = t.El.length
    · subst h8
      have rA : wr.rangeAt 0 0 [.int .u8 165, .int .u8 90, .int .u8 0, .int .u8 0, .int .u8 0, .int .u8 0, .int .u8 0, .int .u8 0, .int .u8 0, .int .u8 0, .int .u8 0, .int .u8 0, .int .u8 0, .int .u8 0, .int .u8 0, .int .u8 0, .int .u8 0, .int .u8 0, .int .u8 0, .int .u8 0] := range_keep (range_keep MA.out HV.out.1) HK.out.2.2.2.2
      have X4 : Hid ((((C.set 41 (.slice (some ⟨gD, 0, none⟩) t.Dl.length cD)).set 47 (.slice (some ⟨gH, 0, none⟩) t.Hsl.length cH)).set 48 (.slice (some ⟨gU, 0, none⟩) t.Ul.length cU)).length = 61) := by show _ = _; rw [List.length_set, List.length_set, List.length_set]; exact CL.out
      clear hi
      go_wp2_with first
        | (refine wpList_load_midT rfl 26 _ rfl 0 0 rfl [.int .u8 165, .int .u8 90, .int .u8 0, .int .u8 0, .int .u8 0, .int .u8 0, .int .u8 0, .int .u8 0, .int .u8 0, .int .u8 0, .int .u8 0, .int .u8 0, .int .u8 0, .int .u8 0, .int .u8 0, .int .u8 0, .int .u8 0, .int .u8 0, .int .u8 0, .int .u8 0] _ rA Tryd.underlying26 rfl size_ad ?_)
        | (at_builtin; refine wpList_append_rw (B := W11.heap.size) (n := t.El.length) (v := u5) (xs := flatC enC es) (g := wr.heap.size) (p := 0) (m := 2) (news := me2) 21 48 28 41 Tryd.underlying28 rI_e (by decide) rfl _ _ rfl rfl rfl (HK.out.2.2.1.alloc _) me2_len (.inr rfl) (fun e => by cases e) me2_new me2_one (by have := NB.out; unfold maxLen; omega) (by have := NB.out; omega) (by have := HK.out.2.2.2.2.size; rw [World.size_alloc]; omega) ?_; intro v2 W13 o2 g2 p2; have B13 : Below W11.heap.size W11 W13 := (HK.out.2.2.2.2.alloc HK.out.2.2.2.2.size _).grown g2 (by have := HK.out.2.2.2.2.size; rw [World.size_alloc]; omega) (fun k hk => (HK.out.2.2.1.lt k hk).1); have ky : Hid (∀ j, j < t.El.length → KyM W13 (es.getD j zEn) (t.El.getD j zEn) ∧ W11.heap.size ≤ (es.getD j zEn).b) := (fun j hj => ⟨⟨(HK.out.2.2.2.1 j hj).1.adr, (HK.out.2.2.2.1 j hj).1.ks, (HK.out.2.2.2.1 j hj).1.a, (HK.out.2.2.2.1 j hj).1.o, (HK.out.2.2.2.1 j hj).1.c, range_grown (range_keep (HK.out.2.2.2.1 j hj).1.r ((Below.refl _ _).alloc (Nat.le_refl _) _)) g2 (fun e => (HK.out.2.2.2.1 j hj).2.1 e)⟩, (HK.out.2.2.2.1 j hj).2.2⟩); obtain ⟨gE, cE2, e2, hcE, hbE, hltE, lE⟩ := own_at o2 (by omega); subst e2; have cE3 : (t.El.length : Int) ≤ (cE2 : Int) := (by omega); have HE : Hid (W13.rangeAt gE 0 (flatC enC (es ++ [mkE, mkE])) ∧ W11.heap.size ≤ gE ∧ t.El.length + 2 ≤ cE2) := ⟨(by rw [flatC_app]; exact lE), hbE, hcE⟩; clear o2 g2 p2 hbE hltE lE hcE rA)
        | (refine wpList_load_cellT rfl 28 _ rfl b1 42 rfl (.slice t.Ea t.El.length t.Ec) _ (F1.out _ _ (range_keep HV.out.2.1 B13)).E Tryd.underlying28 rfl ?_)
        | (refine wpList_store1T rfl 28 _ _ rfl b3 42 (.slice (some ⟨gE, 0, none⟩) t.El.length cE2) (((C.set 41 (.slice (some ⟨gD, 0, none⟩) t.Dl.length cD)).set 47 (.slice (some ⟨gH, 0, none⟩) t.Hsl.length cH)).set 48 (.slice (some ⟨gU, 0, none⟩) t.Ul.length cU)) rfl rfl rfl rfl size_1e (range_keep HV.out.2.2.2.1 B13) (by rw [X4.out]; exact there_keepB HV.out.2.2.2.2.1 B13) (by rw [X4.out]; decide) ?_; intro W14 u9 r9 t9)
        | (refine wpList_load_midT rfl 32 _ rfl b3 0 rfl ((((C.set 41 (.slice (some ⟨gD, 0, none⟩) t.Dl.length cD)).set 47 (.slice (some ⟨gH, 0, none⟩) t.Hsl.length cH)).set 48 (.slice (some ⟨gU, 0, none⟩) t.Ul.length cU)).set 42 (.slice (some ⟨gE, 0, none⟩) t.El.length cE2)) _ r9 Tryd.underlying32 rfl (by rw [List.length_set, X4.out]; exact size_txT) ?_)
        | (refine wpList_storeT rfl 32 _ _ rfl b2 ((((C.set 41 (.slice (some ⟨gD, 0, none⟩) t.Dl.length cD)).set 47 (.slice (some ⟨gH, 0, none⟩) t.Hsl.length cH)).set 48 (.slice (some ⟨gU, 0, none⟩) t.Ul.length cU)).set 42 (.slice (some ⟨gE, 0, none⟩) t.El.length cE2)) rfl rfl (by rw [List.length_set, X4.out]; exact there_same (there_keepB HV.out.2.2.1 B13) (u9.block _ n23.out)) (by rw [List.length_set, X4.out]; exact size_txT) (UO.out gE cE2) ?_; intro W15 v9 r10 t10)
      have e61 : (((((C.set 41 (.slice (some ⟨gD, 0, none⟩) t.Dl.length cD)).set 47 (.slice (some ⟨gH, 0, none⟩) t.Hsl.length cH)).set 48 (.slice (some ⟨gU, 0, none⟩) t.Ul.length cU)).set 42 (.slice (some ⟨gE, 0, none⟩) t.El.length cE2))).length = 61 := by rw [List.length_set, X4.out]
      have ee := txC_sets (t := t) TO.out gD cD gH cH gU cU gE cE2 es HK.out.2.1
      rw [← HC0.out] at ee
      rw [ee] at r10 e61
      have ld := run_loadVar_mid (P := Tryd.prog) W15 b2 0 32 _ _ r10 Tryd.underlying32 rfl (by rw [e61]; exact size_txT)
      have hv := HV.out
      have hl3 := L3.out
      have k14 : ∀ k, b3 < k → W15.heap[k]? = W13.heap[k]? := fun k hk => (v9.block k (by omega)).trans (u9.block k (by omega))
      have B15 : Below w.heap.size w W15 := v9.below hl3.2.1 (u9.below hl3.1 (hv.1.trans (B13.mono hv.1.size)))
      refine bodyPost_ret (v := .agg (txC { t with Da := some ⟨gD, 0, none⟩, Db := gD, Do := 0, Dc := cD, Hsa := some ⟨gH, 0, none⟩, Hsb := gH, Hso := 0, Hsc := cH, Ua := some ⟨gU, 0, none⟩, Ub := gU, Uo := 0, Uc := cU, Ea := some ⟨gE, 0, none⟩, Eb := gE, Eo := 0, Ec := cE2, El := es }).toArray) ?_ rfl ⟨_, rfl, ⟨⟨rfl, rfl, rfl, rfl, rfl, rfl⟩, ⟨rfl, rfl, rfl, rfl, rfl, rfl, rfl, rfl⟩, ⟨rfl, rfl, rfl, hcD, (hv.2.2.2.2.2.1.1.keep B13).same (k14 _ nD3.out)⟩, ⟨rfl, rfl, rfl, hcH, range_same (range_keep hv.2.2.2.2.2.1.2.1 B13) (k14 _ nH3.out)⟩, ⟨rfl, rfl, rfl, hcU, range_same (range_keep hv.2.2.2.2.2.1.2.2 B13) (k14 _ nU3.out)⟩, ⟨HK.out.2.1, rfl, rfl, HE.out.2.2, range_same HE.out.1 (k14 _ (Nat.lt_of_lt_of_le hv.2.2.2.2.2.2 HE.out.2.1))⟩, fun i hi => ?_⟩, B15, Nat.le_of_lt (Nat.lt_of_le_of_lt hl3.1 nD3.out), Nat.le_of_lt (Nat.lt_of_le_of_lt hl3.1 nH3.out), Nat.le_of_lt (Nat.lt_of_le_of_lt hl3.1 nU3.out), Nat.le_trans hv.1.size HE.out.2.1, fun i hi => Nat.le_trans hv.1.size (ky.out i hi).2, nDH.out, nDU.out, Nat.lt_of_lt_of_le hgD.out HE.out.2.1, fun i hi => Nat.lt_of_lt_of_le hgD.out (ky.out i hi).2⟩
      · clear HV HK HE
        simp [results, Tryd.results27, asAddr, ld, Act.put]
      · have kk := ky.out i hi
        exact ⟨kk.1.adr, kk.1.ks, kk.1.a, kk.1.o, kk.1.c, range_same kk.1.r (k14 _ (Nat.lt_of_lt_of_le hv.2.2.2.2.2.2 kk.2))⟩
    · have hlt : i < t.El.length := by omega
      have hlt' : (i : Int) < (t.El.length : Int) := by omega
      have eA : t.Ea = some ⟨t.Eb, t.Eo, none⟩ := by
        rcases GE.out.2.1 with h | h
        · rw [h] at hlt; exact absurd hlt (Nat.not_lt_zero _)
        · exact h
      rw [eA] at cE
      have G1 : Hid (EnG w (t.El.getD i zEn) ∧ w.rangeAt t.Eb (t.Eo + i * 21) (enC (t.El.getD i zEn))) := GE.out.2.2 i hlt
      have KC : Hid (∀ W, Below W11.heap.size W11 W → Calls Tryd.prog 46 #[.slice (t.El.getD i zEn).a (t.El.getD i zEn).ks.length (t.El.getD i zEn).c] W fun e w' => ∃ g cap, e = .returned (.slice (some ⟨g, 0, none⟩) (t.El.getD i zEn).ks.length cap) ∧ (t.El.getD i zEn).ks.length + 2 ≤ cap ∧ W.heap.size ≤ g ∧ g < w'.heap.size ∧ w'.rangeAt g 0 (flatC hC ((t.El.getD i zEn).ks ++ [mkHs, mkHs])) ∧ Below W.heap.size W w') := fun W BW => KE.out i hlt W (HV.out.1.trans (BW.mono HV.out.1.size))
      obtain ⟨x, hx⟩ : ∃ x, t.El.getD i zEn = x := ⟨_, rfl⟩
      have HX : Hid (t.El.getD i zEn = x) := hx
      rw [hx] at G1 KC
      obtain ⟨a0, a1, a2, a3, a4, a5, a6, a7, a8, a9, a10, a11, a12, a13, a14, a15, a16, a17, a18, a19, ha⟩ := list_20 G1.out.1.1.1
      have HA : Hid (x.adr = [a0, a1, a2, a3, a4, a5, a6, a7, a8, a9, a10, a11, a12, a13, a14, a15, a16, a17, a18, a19]) := ha
      have RA : Hid (∀ W, Below W11.heap.size W11 W → W.rangeAt t.Eb (t.Eo + i * 21) [.int .u8 a0, .int .u8 a1, .int .u8 a2, .int .u8 a3, .int .u8 a4, .int .u8 a5, .int .u8 a6, .int .u8 a7, .int .u8 a8, .int .u8 a9, .int .u8 a10, .int .u8 a11, .int .u8 a12, .int .u8 a13, .int .u8 a14, .int .u8 a15, .int .u8 a16, .int .u8 a17, .int .u8 a18, .int .u8 a19] ∧ W.cell? ⟨t.Eb, t.Eo + i * 21 + 20, none⟩ = some (.slice x.a x.ks.length x.c) ∧ W.cell? ⟨b1, 42, none⟩ = some (.slice (some ⟨t.Eb, t.Eo, none⟩) t.El.length t.Ec)) := fun W BW => by
        have := range_app.1 (range_keep G1.out.2 (HV.out.1.trans (BW.mono HV.out.1.size)))
        rw [hC_len, G1.out.1.1.1, HA.out] at this
        refine ⟨this.1, this.2 0 _ rfl, ?_⟩
        have h := (F1.out _ _ (range_keep HV.out.2.1 BW)).E
        rw [eA] at h
        exact h
      have B0 : Hid (Below W11.heap.size W11 wr) := HK.out.2.2.2.2
      clear h8 hi hx ha eA G1
      generalize x.a = xa at *
      generalize hn3 : x.ks.length = n3 at *
      have HN3 : Hid (x.ks.length = n3) := hn3
      clear hn3
      generalize x.c = xc at *
      go_wp2_with fail
      refine wp_region_held_drew (S := fun w' => Below W11.heap.size W11 w') (by kernel_rfl) (B0.out.drew) (fun hHeld => ?_)
      refine wpAnyH_takeT (i := 0) (oi := _) (v := u5) 38 rfl (by kernel_rfl) (by kernel_rfl) (by kernel_rfl) (by kernel_rfl) (fun _ _ _ h => h) (Or.inl ⟨by kernel_rfl, ?_⟩) (by assumption) ?_
      · intro wq hSw
        have _ := hSw
        go_simp
      simp only [Act.put, List.setIfInBounds_toArray, List.set_cons_succ, List.set_cons_zero]
      refine wpAnyH_takeT (i := 1) (oi := _) (v := .pointer (some ⟨b1, 42, none⟩)) 39 rfl (by kernel_rfl) (by kernel_rfl) (by kernel_rfl) (by kernel_rfl) (fun _ _ _ h => h) (Or.inl ⟨by kernel_rfl, ?_⟩) (by assumption) ?_
      · intro wq hSw
        have _ := hSw
        go_simp
      simp only [Act.put, List.setIfInBounds_toArray, List.set_cons_succ, List.set_cons_zero]
      refine wpAnyH_takeT (i := 2) (oi := _) (v := .slice (some ⟨t.Eb, t.Eo, none⟩) t.El.length t.Ec) 40 rfl (by kernel_rfl) (by kernel_rfl) (by kernel_rfl) (by kernel_rfl) (fun _ _ _ h => h) (Or.inl ⟨by kernel_rfl, ?_⟩) (by assumption) ?_
      · intro wq hSw
        have gg := (RA.out wq hSw).2.2
        go_simp
      simp only [Act.put, List.setIfInBounds_toArray, List.set_cons_succ, List.set_cons_zero]
      refine wpAnyH_takeT (i := 3) (oi := _) (v := .int .i64 (i : Int)) 41 rfl (by kernel_rfl) (by kernel_rfl) (by kernel_rfl) (by kernel_rfl) (fun _ _ _ h => h) (Or.inl ⟨by kernel_rfl, ?_⟩) (by assumption) ?_
      · intro wq hSw
        have _ := hSw
        go_simp
      simp only [Act.put, List.setIfInBounds_toArray, List.set_cons_succ, List.set_cons_zero]
      refine wpAnyH_takeT (i := 4) (oi := _) (v := .pointer (some ⟨t.Eb, t.Eo + i * 21, none⟩)) 42 rfl (by kernel_rfl) (by kernel_rfl) (by kernel_rfl) (by kernel_rfl) (fun _ _ _ h => h) (Or.inl ⟨by kernel_rfl, ?_⟩) (by assumption) ?_
      · intro wq hSw
        have _ := hSw
        go_simp
      simp only [Act.put, List.setIfInBounds_toArray, List.set_cons_succ, List.set_cons_zero]
      refine wpAnyH_takeT (i := 5) (oi := _) (v := .pointer (some ⟨t.Eb, t.Eo + i * 21, none⟩)) 43 rfl (by kernel_rfl) (by kernel_rfl) (by kernel_rfl) (by kernel_rfl) (fun _ _ _ h => h) (Or.inl ⟨by kernel_rfl, ?_⟩) (by assumption) ?_
      · intro wq hSw
        have _ := hSw
        go_simp
      simp only [Act.put, List.setIfInBounds_toArray, List.set_cons_succ, List.set_cons_zero]
      refine wpAnyH_takeT (i := 6) (oi := _) (v := .agg #[.int .u8 a0, .int .u8 a1, .int .u8 a2, .int .u8 a3, .int .u8 a4, .int .u8 a5, .int .u8 a6, .int .u8 a7, .int .u8 a8, .int .u8 a9, .int .u8 a10, .int .u8 a11, .int .u8 a12, .int .u8 a13, .int .u8 a14, .int .u8 a15, .int .u8 a16, .int .u8 a17, .int .u8 a18, .int .u8 a19]) 44 rfl (by kernel_rfl) (by kernel_rfl) (by kernel_rfl) (by kernel_rfl) (fun _ _ _ h => h) (Or.inl ⟨by kernel_rfl, ?_⟩) (by assumption) ?_
      · intro wq hSw
        exact yields_midT 26 _ rfl t.Eb (t.Eo + i * 21) rfl [.int .u8 a0, .int .u8 a1, .int .u8 a2, .int .u8 a3, .int .u8 a4, .int .u8 a5, .int .u8 a6, .int .u8 a7, .int .u8 a8, .int .u8 a9, .int .u8 a10, .int .u8 a11, .int .u8 a12, .int .u8 a13, .int .u8 a14, .int .u8 a15, .int .u8 a16, .int .u8 a17, .int .u8 a18, .int .u8 a19] _ (RA.out wq hSw).1 Tryd.underlying26 rfl size_ad
      simp only [Act.put, List.setIfInBounds_toArray, List.set_cons_succ, List.set_cons_zero]
      refine wpAnyH_takeT (i := 7) (oi := _) (v := .pointer (some ⟨b1, 42, none⟩)) 45 rfl (by kernel_rfl) (by kernel_rfl) (by kernel_rfl) (by kernel_rfl) (fun _ _ _ h => h) (Or.inl ⟨by kernel_rfl, ?_⟩) (by assumption) ?_
      · intro wq hSw
        have _ := hSw
        go_simp
      simp only [Act.put, List.setIfInBounds_toArray, List.set_cons_succ, List.set_cons_zero]
      refine wpAnyH_takeT (i := 8) (oi := _) (v := .slice (some ⟨t.Eb, t.Eo, none⟩) t.El.length t.Ec) 46 rfl (by kernel_rfl) (by kernel_rfl) (by kernel_rfl) (by kernel_rfl) (fun _ _ _ h => h) (Or.inl ⟨by kernel_rfl, ?_⟩) (by assumption) ?_
      · intro wq hSw
        have gg := (RA.out wq hSw).2.2
        go_simp
      simp only [Act.put, List.setIfInBounds_toArray, List.set_cons_succ, List.set_cons_zero]
      refine wpAnyH_takeT (i := 9) (oi := _) (v := .int .i64 (i : Int)) 47 rfl (by kernel_rfl) (by kernel_rfl) (by kernel_rfl) (by kernel_rfl) (fun _ _ _ h => h) (Or.inl ⟨by kernel_rfl, ?_⟩) (by assumption) ?_
      · intro wq hSw
        have _ := hSw
        go_simp
      simp only [Act.put, List.setIfInBounds_toArray, List.set_cons_succ, List.set_cons_zero]
      refine wpAnyH_takeT (i := 10) (oi := _) (v := .pointer (some ⟨t.Eb, t.Eo + i * 21, none⟩)) 48 rfl (by kernel_rfl) (by kernel_rfl) (by kernel_rfl) (by kernel_rfl) (fun _ _ _ h => h) (Or.inl ⟨by kernel_rfl, ?_⟩) (by assumption) ?_
      · intro wq hSw
        have _ := hSw
        go_simp
      simp only [Act.put, List.setIfInBounds_toArray, List.set_cons_succ, List.set_cons_zero]
      refine wpAnyH_takeT (i := 11) (oi := _) (v := .pointer (some ⟨t.Eb, t.Eo + i * 21 + 20, none⟩)) 49 rfl (by kernel_rfl) (by kernel_rfl) (by kernel_rfl) (by kernel_rfl) (fun _ _ _ h => h) (Or.inl ⟨by kernel_rfl, ?_⟩) (by assumption) ?_
      · intro wq hSw
        have _ := hSw
        go_simp
      simp only [Act.put, List.setIfInBounds_toArray, List.set_cons_succ, List.set_cons_zero]
      refine wpAnyH_takeT (i := 12) (oi := _) (v := .slice xa n3 xc) 50 rfl (by kernel_rfl) (by kernel_rfl) (by kernel_rfl) (by kernel_rfl) (fun _ _ _ h => h) (Or.inl ⟨by kernel_rfl, ?_⟩) (by assumption) ?_
      · intro wq hSw
        have gg := (RA.out wq hSw).2.1
        go_simp
      simp only [Act.put, List.setIfInBounds_toArray, List.set_cons_succ, List.set_cons_zero]
      clear hHeld
      refine wpAnyH_ready (rs := [13]) (by kernel_rfl) (by simp) ?_
      refine AllReadyH.cons rfl (fun K hK => ?_) AllReadyH.nil
      go_simp
      go_wp2_with (go_at_call 46; refine (KC.out _ (by first | exact B0.out | exact B0.out.drew)).mono ?_; rintro e y0 ⟨gk1, ck1, rfl, hck, hg1, hg2, hrk, hb⟩)
      have By : Below wr.heap.size wr y0 := ((Below.refl _ _).drew).trans (hb.mono (Nat.le_refl _))
      have B1 : Below W11.heap.size W11 y0 := B0.out.trans (By.mono B0.out.size)
      refine hK.out _ _ B1 (fun hHeld => ?_)
      have HY : Hid (Below wr.heap.size wr y0 ∧ n3 + 2 ≤ ck1 ∧ wr.heap.size ≤ gk1 ∧ gk1 < y0.heap.size ∧ y0.rangeAt gk1 0 (flatC hC (x.ks ++ [mkHs, mkHs]))) := ⟨By, hck, hg1, hg2, hrk⟩
      clear hK K hb hck hg1 hg2 hrk By KC
      refine wpAnyH_takeT (i := 14) (oi := _) (v := .agg #[.int .u8 a0, .int .u8 a1, .int .u8 a2, .int .u8 a3, .int .u8 a4, .int .u8 a5, .int .u8 a6, .int .u8 a7, .int .u8 a8, .int .u8 a9, .int .u8 a10, .int .u8 a11, .int .u8 a12, .int .u8 a13, .int .u8 a14, .int .u8 a15, .int .u8 a16, .int .u8 a17, .int .u8 a18, .int .u8 a19, .slice (some ⟨gk1, 0, none⟩) n3 ck1]) 52 rfl (by kernel_rfl) (by kernel_rfl) (by kernel_rfl) (by kernel_rfl) (fun _ _ _ h => h) (Or.inl ⟨by kernel_rfl, ?_⟩) (by assumption) ?_
      · intro wq hSw
        exact yields_en rfl rfl rfl
      simp only [Act.put, List.setIfInBounds_toArray, List.set_cons_succ, List.set_cons_zero]
      clear hHeld
      refine wpAnyH_ready (rs := [15]) (by kernel_rfl) (by simp) ?_
      refine AllReadyH.cons rfl (fun K hK => ?_) AllReadyH.nil
      go_simp
      go_wp2_with fail
      refine kworldT (fun U => Below y0.heap.size y0 U ∧ U.rangeAt y0.heap.size 0 [.int .u8 a0, .int .u8 a1, .int .u8 a2, .int .u8 a3, .int .u8 a4, .int .u8 a5, .int .u8 a6, .int .u8 a7, .int .u8 a8, .int .u8 a9, .int .u8 a10, .int .u8 a11, .int .u8 a12, .int .u8 a13, .int .u8 a14, .int .u8 a15, .int .u8 a16, .int .u8 a17, .int .u8 a18, .int .u8 a19, .slice (some ⟨gk1, 0, none⟩) n3 ck1]) ⟨(Below.refl _ _).alloc (Nat.le_refl _) _, new_range⟩ ?_
      rintro U ⟨BU, rU⟩
      have BV : Below W11.heap.size W11 U := B1.trans (BU.mono B1.size)
      refine hK.out _ _ BV (fun hHeld => ?_)
      clear hK K
      clear hHeld
      refine wpAnyH_ready (rs := [16]) (by kernel_rfl) (by simp) ?_
      refine AllReadyH.cons rfl (fun K hK => ?_) AllReadyH.nil
      refine (if_pos (by kernel_rfl)).mpr ?_
      refine wp_append_rw (B := W11.heap.size) (n := i) (v := u5) (xs := flatC enC es) (g := y0.heap.size) (p := 0) (m := 1) (news := [.int .u8 a0, .int .u8 a1, .int .u8 a2, .int .u8 a3, .int .u8 a4, .int .u8 a5, .int .u8 a6, .int .u8 a7, .int .u8 a8, .int .u8 a9, .int .u8 a10, .int .u8 a11, .int .u8 a12, .int .u8 a13, .int .u8 a14, .int .u8 a15, .int .u8 a16, .int .u8 a17, .int .u8 a18, .int .u8 a19, .slice (some ⟨gk1, 0, none⟩) n3 ck1]) 21 48 28 41 Tryd.underlying28 rI_e (by decide) (.tmp 38) (.tmp 53) rfl rfl rfl (row_keep (row_keep HK.out.2.2.1 HY.out.1) BU) rfl (.inr rfl) (fun e => by cases e) rU (by intro u hu; simp only [List.mem_cons, List.not_mem_nil, or_false] at hu; rcases hu with h | h | h | h | h | h | h | h | h | h | h | h | h | h | h | h | h | h | h | h | h <;> (subst h; rfl)) (by have := NB.out; unfold maxLen; omega) (by have := NB.out; omega) BV.size ?_
      intro v' W13 o3 g3 p3
      have BW : Below W11.heap.size W11 W13 := BV.grown g3 BV.size (fun k hk => (HK.out.2.2.1.lt k hk).1)
      refine hK.out _ _ BW (fun hHeld => ?_)
      have REL : Hid (∃ es' : List En, es'.length = i + 1 ∧ W13.ownsRow W11.heap.size 41 21 v' (i + 1) (flatC enC es') ∧ (∀ j, j < i + 1 → KyM W13 (es'.getD j zEn) (t.El.getD j zEn) ∧ v'.ownBlock ≠ some (es'.getD j zEn).b ∧ W11.heap.size ≤ (es'.getD j zEn).b)) := by
        have ox := HK.out.2.2.1.lt
        have ow : ∀ k, u5.ownBlock = some k → k < wr.heap.size := fun k hk => (ox k hk).2
        have s1 := HY.out.1.size
        have s2 := BU.size
        refine ⟨es ++ [⟨[a0, a1, a2, a3, a4, a5, a6, a7, a8, a9, a10, a11, a12, a13, a14, a15, a16, a17, a18, a19], some ⟨gk1, 0, none⟩, gk1, 0, ck1, x.ks⟩], by simp [HK.out.2.1], ?_, fun j hj => ?_⟩
        · rw [flatC_app]
          have e1 : flatC enC [⟨[a0, a1, a2, a3, a4, a5, a6, a7, a8, a9, a10, a11, a12, a13, a14, a15, a16, a17, a18, a19], some ⟨gk1, 0, none⟩, gk1, 0, ck1, x.ks⟩] = [.int .u8 a0, .int .u8 a1, .int .u8 a2, .int .u8 a3, .int .u8 a4, .int .u8 a5, .int .u8 a6, .int .u8 a7, .int .u8 a8, .int .u8 a9, .int .u8 a10, .int .u8 a11, .int .u8 a12, .int .u8 a13, .int .u8 a14, .int .u8 a15, .int .u8 a16, .int .u8 a17, .int .u8 a18, .int .u8 a19, .slice (some ⟨gk1, 0, none⟩) n3 ck1] := by rw [← HN3.out]; rfl
          rw [e1]
          exact o3
        · by_cases c : j < i
          · rw [getD_app (by rw [HK.out.2.1]; exact c)]
            obtain ⟨k1, k2, k3⟩ := HK.out.2.2.2.1 j c
            have lb : (es.getD j zEn).b < wr.heap.size := range_lt k1.r (flat2_pos _)
            refine ⟨⟨k1.adr, k1.ks, k1.a, k1.o, k1.c, range_grown (range_keep (range_keep k1.r HY.out.1) BU) g3 (fun e => k2 e)⟩, fun e => ?_, k3⟩
            rcases p3 with h | h
            · rw [h] at e; exact k2 e
            · rw [h] at e; have := Option.some.inj e; omega
          · obtain rfl : j = i := by omega
            have e0 : (es ++ [(⟨[a0, a1, a2, a3, a4, a5, a6, a7, a8, a9, a10, a11, a12, a13, a14, a15, a16, a17, a18, a19], some ⟨gk1, 0, none⟩, gk1, 0, ck1, x.ks⟩ : En)]).getD j zEn = ⟨[a0, a1, a2, a3, a4, a5, a6, a7, a8, a9, a10, a11, a12, a13, a14, a15, a16, a17, a18, a19], some ⟨gk1, 0, none⟩, gk1, 0, ck1, x.ks⟩ := by
              have := getD_appR (z := zEn) (L := es) (M := [(⟨[a0, a1, a2, a3, a4, a5, a6, a7, a8, a9, a10, a11, a12, a13, a14, a15, a16, a17, a18, a19], some ⟨gk1, 0, none⟩, gk1, 0, ck1, x.ks⟩ : En)]) 0
              rw [HK.out.2.1] at this
              exact this
            rw [e0, HX.out]
            have hy := HY.out
            refine ⟨⟨HA.out.symm, rfl, rfl, rfl, by show x.ks.length + 2 ≤ ck1; rw [HN3.out]; exact hy.2.1, range_grown (range_keep hy.2.2.2.2 BU) g3 (fun e => ?_)⟩, fun e => ?_, ?_⟩
            · have h5 : gk1 < wr.heap.size := ow gk1 e
              have := hy.2.2.1; omega
            · rcases p3 with h | h
              · rw [h] at e
                have h5 : gk1 < wr.heap.size := ow gk1 e
                have := hy.2.2.1; omega
              · rw [h] at e
                have h5 : U.heap.size = gk1 := Option.some.inj e
                have := hy.2.2.2.1; omega
            · have := hy.2.2.1; have := B0.out.size; show W11.heap.size ≤ gk1; omega
      clear hK K o3 g3 p3 BV rU BU HY B1
      refine wpAnyH_takeT (i := 17) (oi := _) (v := v') 5 rfl (by kernel_rfl) (by kernel_rfl) (by kernel_rfl) (by kernel_rfl) (fun _ _ _ h => h) (Or.inl ⟨by kernel_rfl, ?_⟩) (by assumption) ?_
      · intro wq hSw
        have _ := hSw
        go_simp
      simp only [Act.put, List.setIfInBounds_toArray]
      refine wpAnyH_done (by kernel_rfl) ?_ _
      clear hHeld
      go_wp2
      go_roundg (t.El.length - (i + 1))
      case measure => have := HK.out.1; omega
      case rel =>
        obtain ⟨es', q1, q2, q3⟩ := REL.out
        exact ⟨i + 1, es', rfl, hlt, by go_num, q1, q2, q3, BW⟩
end Go.Proofs.YtllfmlgnemkklaaDoor.tq
