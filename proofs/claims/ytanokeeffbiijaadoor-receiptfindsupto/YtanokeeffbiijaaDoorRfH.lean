import Derived.Test.YtanokeeffbiijaaDoorRfF
import Derived.Test.YtanokeeffbiijaaDoorRfG
import Derived.Test.YtanokeeffbiijaaDoorRcH
import Derived.Test.YtanokeeffbiijaaDoorRcD
/- waybilllaw17.twin: logs in new memory, with marks. -/
namespace Go.Proofs.YtanokeeffbiijaaDoor.tq
open Go.RowKit Go.Sort
/-- 'copy' where an element takes s cells, into a row whose cells are anything. -/
theorem run_copy_wideF {P : Program} (w : World) (dT sT ty elem : TypeId) (s g o dLen dCap : Nat) (ad : Addr) (sp : Option Addr) (sLen sCap : Nat) (cur : Array Value) (t : TypeId) (cs : List Value) (n : Nat)
    (hu : P.underlying dT = some (.slice elem)) (hs : (P.info? elem).map (·.size) = some s)
    (hg : w.heap[g]? = some (.cells cur t (0, 0))) (hn : n = Nat.min sLen dLen) (hc : cs.length = n * s) (hp : sp = some ad ∨ (sp = none ∧ cs = []))
    (hsrc : ∀ j v, cs[j]? = some v → w.cell? (ad.add j) = some v) (hfit : o + cs.length ≤ cur.size) (h1 : ∀ v ∈ cs, v.oneCell' = true) :
    (Builtin.copy_ #[dT, sT] ty #[.slice (some ⟨g, o, none⟩) dLen dCap, .slice sp sLen sCap]).run P w =
      .ok (goInt n) (w.setRow g (cur.toList.take o ++ cs ++ cur.toList.drop (o + cs.length)).toArray) := by
  have hl := run_loadCells_list (P := P) w ad cs hsrc
  have hst := run_storeCells_at P g o t cs 0 cur w hg (by simpa using hfit) h1
  cases hq : P.info? elem with
  | none => simp [hq] at hs
  | some i =>
    have hi : i.size = s := by simpa [hq] using hs
    rw [hc] at hl
    rcases hp with rfl | ⟨rfl, rfl⟩
    · simp [Builtin.copy_, run_underlying hu, Builtin.lenOf, Builtin.firstCells, sizeOf, typeInfo, hq, hi, ← hn, hl, hst]
    · simp only [Nat.add_zero, List.append_nil, List.length_nil] at hst
      simp [Builtin.copy_, run_underlying hu, Builtin.lenOf, Builtin.firstCells, sizeOf, typeInfo, hq, ← hn, hst]
theorem wpList_copy_wideF {P : Program} {w : World} {ops : Array Oper} {rest : List Oper} {o : Oper} {a : Act} {Q : Exit → Act → World → Prop} (hgd : o.guard = none) (d x : Operand) (dT sT : TypeId)
    (ho : o.op = .call { callee := .builtin .copy, args := #[d, x], argTypes := #[dT, sT] }) (elem : TypeId) (s : Nat) (hu : P.underlying dT = some (.slice elem)) (hsz : (P.info? elem).map (·.size) = some s)
    (g dLen dCap : Nat) (ad : Addr) (sp : Option Addr) (sLen sCap : Nat) (hd : a.eval d = .slice (some ⟨g, 0, none⟩) dLen dCap) (hs : a.eval x = .slice sp sLen sCap)
    (cur : Array Value) (t : TypeId) (hg : w.heap[g]? = some (.cells cur t (0, 0))) (cs : List Value) (n : Nat) (hn : n = Nat.min sLen dLen) (hc : cs.length = n * s) (hp : sp = some ad ∨ (sp = none ∧ cs = []))
    (hsrc : ∀ j v, cs[j]? = some v → w.cell? (ad.add j) = some v) (hfit : cs.length ≤ cur.size) (h1 : ∀ v ∈ cs, v.oneCell' = true) (B : Nat) (w0 : World) (hb : Below B w0 w) (hBg : B ≤ g)
    (h : ∀ w', w'.there g 0 cur.size → w'.rangeAt g 0 cs → Below B w0 w' → w'.heap.size = w.heap.size → wpList P ops Q rest (a.put o.dst (goInt n)) w') : wpList P ops Q (o :: rest) a w := by
  refine wpList_plain hgd fun K hK => ?_
  have hrun := run_copy_wideF (P := P) w dT sT o.type elem s g 0 dLen dCap ad sp sLen sCap cur t cs n hu hsz hg hn hc hp hsrc (by simpa using hfit) h1
  unfold Oper.wp
  simp [execOp, ho, resolve, invoke, builtin, hd, hs, hrun, Result.andThen]
  have e := setRow_heap w g cur (cs ++ cur.toList.drop cs.length).toArray t _ hg
  have es : (w.setRow g (cs ++ cur.toList.drop cs.length).toArray).heap.size = w.heap.size := by simp
  have b9 := below_setRow hb hBg (cs ++ cur.toList.drop cs.length).toArray
  generalize (w.setRow g (cs ++ cur.toList.drop cs.length).toArray) = w9 at *
  refine hK _ _ (h _ (fun j hj => ⟨?_, ?_⟩) (fun j v hv => ?_) b9 es)
  · rw [Nat.zero_add, cell_of_row _ _ j _ _ _ e]
    have hl : j < (cs ++ cur.toList.drop cs.length).length := by simp only [List.length_append, List.length_drop, Array.length_toList]; omega
    simp only [List.getElem?_toArray]
    rw [List.getElem?_eq_getElem hl]; rfl
  · rw [Nat.zero_add]; exact frozen_of_row _ _ j _ _ e
  · rw [Nat.zero_add, cell_of_row _ _ j _ _ _ e]
    simp only [List.getElem?_toArray]
    rw [List.getElem?_append_left (List.getElem?_eq_some_iff.1 hv).1]; exact hv
theorem wp_storeO {P : Program} {op : Oper} {a : Act} {w : World} {K : Act → World → Prop} {Q : Exit → Act → World → Prop} (ty : TypeId) (x y : Operand) (ho : op.op = .store ty x y) (b o : Nat) (cs : List Value) (hx : a.eval x = .pointer (some ⟨b, o, none⟩)) (hy : a.eval y = .agg cs.toArray)
    (ht : w.there b o cs.length) (hi : (P.info? ty).map (·.size) = some cs.length) (h1 : ∀ u ∈ cs, u.oneCell' = true)
    (h : ∀ W, But w W b → W.rangeAt b o cs → (∀ (o' : Nat) (X : List Value), w.rangeAt b o' X → (o' + X.length ≤ o ∨ o + cs.length ≤ o') → W.rangeAt b o' X) → (∀ o' m, w.there b o' m → W.there b o' m) → K (a.put op.dst undef) W) : op.wp P a w K Q := by
  refine wp_store_mid ty x y ho b o cs.toArray hx hy (by simpa using ht) (by simpa using hi) (all_oneCell_toArray h1) (h _ (but_sets _ _ _) (World.rangeAt_setCells_same _ _ _ _ (by simpa using ht)) (fun o' X hX hd => World.rangeAt_setCells_apart hX _ _ _ (.inr hd)) fun o' m hm j hj => ⟨?_, by rw [World.frozen?_setCells]; exact (hm j hj).2⟩)
  by_cases c : o ≤ o' + j ∧ o' + j < o + cs.length
  · have hj2 : o' + j - o < cs.length := by omega
    have := World.rangeAt_setCells_same w b o cs (by simpa using ht) (o' + j - o) _ (List.getElem?_eq_getElem hj2)
    rw [show o + (o' + j - o) = o' + j by omega] at this
    rw [this]; rfl
  · obtain ⟨v, hv⟩ := Option.isSome_iff_exists.1 (hm j hj).1
    have h1 : w.rangeAt b (o' + j) [v] := fun k u hk => by
      have : k = 0 := by have := (List.getElem?_eq_some_iff.1 hk).1; simpa using this
      subst this
      simp at hk; subst hk; simpa using hv
    have h2 := World.rangeAt_setCells_apart h1 b o cs (.inr (by simp; omega)) 0 v rfl
    rw [Nat.add_zero] at h2
    rw [h2]; rfl
/-- The mark of a hash; of a log. -/
def mC3 : List Int := 195 :: List.replicate 31 0
def mC2 : List Int := 195 :: List.replicate 19 0
def mC3L : Lg := ⟨mC2, none, 0, 0, 0, [], none, 0, 0, 0, []⟩
theorem mC3L_len : (lgC mC3L).length = 22 := rfl
/-- A log of a twin. -/
structure LgW (W : World) (e x : Lg) : Prop where
  adr : e.adr = x.adr
  Tl : e.Tl = x.Tl
  Dl : e.Dl = x.Dl
  T : e.Ta = some ⟨e.Tb, 0, none⟩ ∧ e.To = 0 ∧ e.Tc = x.Tl.length + 1 ∧ W.rangeAt e.Tb 0 (flatC hC (x.Tl ++ [mC3]))
  D : e.Da = some ⟨e.Db, 0, none⟩ ∧ e.Do = 0 ∧ e.Dc = x.Dl.length + 70 ∧ Rw8 W e.Db (lentL x.Dl)
theorem LgW.keep {W W' : World} {e x : Lg} (h : LgW W e x) (B : Below W.heap.size W W') : LgW W' e x := ⟨h.adr, h.Tl, h.Dl, ⟨h.T.1, h.T.2.1, h.T.2.2.1, range_keep h.T.2.2.2 B⟩, ⟨h.D.1, h.D.2.1, h.D.2.2.1, h.D.2.2.2.keep B⟩⟩
theorem LgW.same {W W' : World} {e x : Lg} (h : LgW W e x) (n1 : W'.heap[e.Tb]? = W.heap[e.Tb]?) (n2 : W'.heap[e.Db]? = W.heap[e.Db]?) : LgW W' e x := ⟨h.adr, h.Tl, h.Dl, ⟨h.T.1, h.T.2.1, h.T.2.2.1, range_same h.T.2.2.2 n1⟩, ⟨h.D.1, h.D.2.1, h.D.2.2.1, n2.trans h.D.2.2.2⟩⟩
def LwP (n : Nat) (e : Lg) : Prop := n ≤ e.Tb ∧ n ≤ e.Db
/-- A twin, as it is laid. -/
structure TwL (W : World) (g : Nat) (us ls : List Lg) : Prop where
  len : us.length = ls.length
  lt : g < W.heap.size
  at_ : ∀ j, j < ls.length → W.rangeAt g (j * 22) (lgC (us.getD j zLg)) ∧ LgW W (us.getD j zLg) (ls.getD j zLg) ∧ LwP (g + 1) (us.getD j zLg)
  last : W.rangeAt g (ls.length * 22) (lgC mC3L)
theorem LgG.src {W : World} {a : Option Addr} {b p c : Nat} {ks : List (List Int)} (h : KsG W a b p c ks) : ∃ ad : Addr, (a = some ad ∨ (a = none ∧ flatC hC ks = [])) ∧ ∀ (V : World), V.rangeAt b p (flatC hC ks) → ∀ j v, (flatC hC ks)[j]? = some v → V.cell? (ad.add j) = some v := by
  rcases h.2.1 with e | e
  · subst e
    cases a with
    | none => exact ⟨⟨0, 0, none⟩, .inr ⟨rfl, rfl⟩, fun V _ j v hv => by simp [flatC] at hv⟩
    | some ad => exact ⟨ad, .inl rfl, fun V _ j v hv => by simp [flatC] at hv⟩
  · exact ⟨⟨b, p, none⟩, .inl e, fun V hr j v hv => by rw [Addr.add_mid]; exact hr j v hv⟩
theorem flag_of {ls : List Lg} {i : Nat} {W : World} {a : Option Addr} {b p c : Nat} (h : LsG W a b p c ls) (hi : i < ls.length) : LgG W (ls.getD i zLg) ∧ W.rangeAt b (p + i * 22) (hC (ls.getD i zLg).adr) ∧ W.cell? ⟨b, p + i * 22 + 20, none⟩ = some (.slice (ls.getD i zLg).Ta (ls.getD i zLg).Tl.length (ls.getD i zLg).Tc) ∧ W.cell? ⟨b, p + i * 22 + 21, none⟩ = some (.slice (ls.getD i zLg).Da (ls.getD i zLg).Dl.length (ls.getD i zLg).Dc) := ⟨(h.2.2 i hi).1, lg_parts (h.2.2 i hi).1.adr.1 (h.2.2 i hi).2⟩
set_option maxRecDepth 100000 in
set_option maxHeartbeats 16000000 in
theorem twin_any {a : Option Addr} {b p c : Nat} {ls : List Lg} (hn : ls.length < 100000000) (hb : ∀ i, i < ls.length → BdL (ls.getD i zLg)) (w : World) (hG : LsG w a b p c ls) :
    Calls Tryd.prog 5 #[.slice a ls.length c] w fun e w' => ∃ us, e = .returned (.slice (some ⟨w.heap.size, 0, none⟩) ls.length (ls.length + 1)) ∧ TwL w' w.heap.size us ls ∧ Below w.heap.size w w' := by
  obtain ⟨n, en⟩ : ∃ n, n = ls.length := ⟨_, rfl⟩
  have n1 : (n : Int) < 100000000 := by omega
  have HN : Hid (ls.length = n ∧ n < 100000000) := ⟨en.symm, by omega⟩
  have HB : Hid (∀ i, i < n → BdL (ls.getD i zLg)) := fun i hi => hb i (by omega)
  have GR : Hid (∀ V, Below w.heap.size w V → LsG V a b p c ls) := fun V BV => hG.keep BV
  rw [← en]
  clear hn hb hG en
  go_enter Tryd.func5, Tryd.ntmps5
  refine wp_seq_k fun K0 h0 => ?_
  have H0 : Hid _ := h0
  clear h0
  go_wp2
  refine H0.out _ _ ?_
  clear H0 K0
  refine wp_seq_k fun K1 h1 => ?_
  have H1 : Hid _ := h1
  clear h1
  go_wp2_with (refine wpList_make_row (k := 22) (bytes := 72) w Tryd.underlying22 rI_g rfl _ _ rfl _ _ _ _ (n + 1) rfl rfl (by omega) (by omega) (by have := HN.out.2; omega) (by have := HN.out.2; omega) ?_; intro cs hcs)
  refine H1.out _ _ ?_
  clear H1 K1
  have HT : Hid ((w.alloc (.cells cs 44)).there w.heap.size 0 ((n + 1) * 22) ∧ Below w.heap.size w (w.alloc (.cells cs 44)) ∧ w.heap.size < (w.alloc (.cells cs 44)).heap.size) := ⟨there_newR hcs.symm, (Below.refl _ _).alloc (Nat.le_refl _) _, by simp⟩
  generalize w.alloc (.cells cs 44) = W1 at *
  clear hcs cs
  refine wp_seq_k fun K2 h2 => ?_
  have H2 : Hid _ := h2
  clear h2
  have m9 : (n : Int) < (n : Int) + 1 := by omega
  go_wp2_with (refine wpList_storeO rfl 44 _ _ rfl w.heap.size (n * 22) (lgC mC3L) rfl rfl (by rw [mC3L_len]; exact there_part HT.out.1 (by omega)) (by rw [mC3L_len]; exact size_lg) (lgC_one _) ?_; intro W2 u9 r9 ap tk)
  refine H2.out _ _ ?_
  clear H2 K2
  have HS : Hid (Below w.heap.size w W2 ∧ (W2.there w.heap.size 0 ((n + 1) * 22) ∧ w.heap.size < W2.heap.size) ∧ W2.rangeAt w.heap.size (n * 22) (lgC mC3L)) := ⟨u9.below (Nat.le_refl _) HT.out.2.1, ⟨tk _ _ HT.out.1, by rw [u9.size]; exact HT.out.2.2⟩, r9⟩
  clear HT u9 r9 ap tk
  go_wp2_with fail
  go_loopg [4] n (fun k iv wr => ∃ (i : Nat) (us : List Lg), k = n - i ∧ i ≤ n ∧ iv = .int .i64 i ∧ us.length = i ∧ Below w.heap.size w wr ∧ (wr.there w.heap.size 0 ((n + 1) * 22) ∧ w.heap.size < wr.heap.size) ∧ wr.rangeAt w.heap.size (n * 22) (lgC mC3L) ∧ ∀ j, j < i → wr.rangeAt w.heap.size (j * 22) (lgC (us.getD j zLg)) ∧ LgW wr (us.getD j zLg) (ls.getD j zLg) ∧ LwP (w.heap.size + 1) (us.getD j zLg))
  case atStart => exact ⟨0, [], rfl, Nat.zero_le _, rfl, rfl, HS.out.1, HS.out.2.1, HS.out.2.2, fun j hj => absurd hj (Nat.not_lt_zero _)⟩
  case round =>
    clear HS
    obtain ⟨i, us, hk, hi, rfl, hl, B, ht, hr, hq⟩ := hrel
    have HK : Hid (gk = n - i ∧ us.length = i ∧ Below w.heap.size w wr ∧ (wr.there w.heap.size 0 ((n + 1) * 22) ∧ w.heap.size < wr.heap.size) ∧ wr.rangeAt w.heap.size (n * 22) (lgC mC3L) ∧ ∀ j, j < i → wr.rangeAt w.heap.size (j * 22) (lgC (us.getD j zLg)) ∧ LgW wr (us.getD j zLg) (ls.getD j zLg) ∧ LwP (w.heap.size + 1) (us.getD j zLg)) := ⟨hk, hl, B, ht, hr, hq⟩
    clear hk hl B ht hr hq
    by_cases h8 : i = n
    · subst h8
      have c9 : (i : Int) ≤ (i : Int) + 1 := by omega
      clear hi
      go_wp2
      simp [bodyPost, results, Tryd.results5, go_sem]
      have hk := HK.out
      exact ⟨⟨us, ⟨by rw [hk.2.1, HN.out.1], hk.2.2.2.1.2, fun j hj => hk.2.2.2.2.2 j (by rw [HN.out.1] at hj; exact hj), by rw [HN.out.1]; exact hk.2.2.2.2.1⟩⟩, hk.2.2.1⟩
    · have hlt : i < n := by omega
      have hlt' : (i : Int) < (n : Int) := by omega
      obtain rfl := (GR.out _ HK.out.2.2.1).cons (by have := HN.out.1; omega)
      have FL : Hid (∀ V, Below w.heap.size w V → LgG V (ls.getD i zLg) ∧ V.rangeAt b (p + i * 22) (hC (ls.getD i zLg).adr) ∧ V.cell? ⟨b, p + i * 22 + 20, none⟩ = some (.slice (ls.getD i zLg).Ta (ls.getD i zLg).Tl.length (ls.getD i zLg).Tc) ∧ V.cell? ⟨b, p + i * 22 + 21, none⟩ = some (.slice (ls.getD i zLg).Da (ls.getD i zLg).Dl.length (ls.getD i zLg).Dc)) := fun V BV => flag_of (GR.out V BV) (by rw [HN.out.1]; exact hlt)
      have BX := HB.out i hlt
      have FLA : Hid (∀ j, j < n → (ls.getD j zLg).adr.length = 20) := fun j hj => ((GR.out _ HK.out.2.2.1).2.2 j (by rw [HN.out.1]; exact hj)).1.adr.1
      have HX0 : Hid (∀ us' : List Lg, us'.getD i zLg = us'.getD i zLg) := fun _ => rfl
      obtain ⟨x, hx⟩ : ∃ x, ls.getD i zLg = x := ⟨_, rfl⟩
      have HX : Hid (ls.getD i zLg = x) := hx
      rw [hx] at FL BX
      clear hx h8 hi HX0
      have gx := (FL.out wr HK.out.2.2.1).1
      obtain ⟨ad, hp, hs⟩ := LgG.src gx.T
      have HP : Hid ((x.Ta = some ad ∨ (x.Ta = none ∧ flatC hC x.Tl = [])) ∧ ∀ (V : World), V.rangeAt x.Tb x.To (flatC hC x.Tl) → ∀ j v, (flatC hC x.Tl)[j]? = some v → V.cell? (ad.add j) = some v) := ⟨hp, hs⟩
      have TL : Hid (∀ V, Below wr.heap.size wr V → V.rangeAt x.Tb x.To (flatC hC x.Tl) ∧ (flatC hC x.Tl).length = x.Tl.length * 32 ∧ LgG V x) := fun V BV => ⟨range_keep gx.T.flat BV, gx.T.flen, gx.keep BV⟩
      obtain ⟨a0, a1, a2, a3, a4, a5, a6, a7, a8, a9, a10, a11, a12, a13, a14, a15, a16, a17, a18, a19, ha⟩ := list_20R gx.adr.1
      have HA : Hid (x.adr = [a0, a1, a2, a3, a4, a5, a6, a7, a8, a9, a10, a11, a12, a13, a14, a15, a16, a17, a18, a19]) := ha
      have HD : Hid (∀ V, Below w.heap.size w V → Calls Tryd.prog 16 #[.slice x.Da x.Dl.length x.Dc] V fun e w' => e = .returned (.slice (some ⟨V.heap.size, 0, none⟩) x.Dl.length (x.Dl.length + 70)) ∧ Rw8 w' V.heap.size (lentL x.Dl) ∧ Below V.heap.size V w') := fun V BV => rlent_any (by have := BX.2; omega) (FL.out V BV).1.D.2.1 V (FL.out V BV).1.D.2.2.1
      have N9 : Hid (x.Tl.length < 1000000000) := BX.1
      have B0 : Hid (Below w.heap.size w wr) := HK.out.2.2.1
      clear gx hp hs ha BX HB GR
      generalize x.Ta = xa at *
      generalize hn3 : x.Tl.length = m at *
      have HN3 : Hid (x.Tl.length = m) := hn3
      clear hn3
      generalize x.Tc = xc at *
      generalize x.Da = ya at *
      generalize hn4 : x.Dl.length = k4 at *
      have HN4 : Hid (x.Dl.length = k4) := hn4
      clear hn4
      generalize x.Dc = yc at *
      have m1 : (m : Int) < 1000000000 := by have := N9.out; omega
      have m2 : (m : Int) < (m : Int) + 1 := by omega
      have m3 : (m : Int) ≤ (m : Int) + 1 := by omega
      have c0 := (FL.out wr B0.out).2.2.1
      go_wp2_with first
        | (refine wpList_make_row (k := 32) (bytes := 32) wr Tryd.underlying27 rI_h rfl _ _ rfl _ _ _ _ (m + 1) rfl rfl (by omega) (by omega) (by omega) (by omega) ?_; intro cs hcs; refine wpList_worldA (fun W => W.heap[wr.heap.size]? = some (.cells cs 30 (0, 0)) ∧ Below wr.heap.size wr W ∧ W.heap.size = wr.heap.size + 1) ⟨heap_newM _ _, (Below.refl _ _).alloc (Nat.le_refl _) _, World.size_alloc _ _⟩ ?_; intro W5 h5; have H5 : Hid (W5.heap[wr.heap.size]? = some (.cells cs 30 (0, 0)) ∧ Below wr.heap.size wr W5 ∧ W5.heap.size = wr.heap.size + 1 ∧ cs.size = (m + 1) * 32) := ⟨h5.1, h5.2.1, h5.2.2, hcs⟩; clear h5 hcs c0; have c0 := (FL.out W5 (B0.out.trans (H5.out.2.1.mono B0.out.size))).2.2.1)
        | (refine wpList_copy_wideF rfl _ _ 27 27 rfl 30 32 Tryd.underlying27 size_hs wr.heap.size (m + 1) (m + 1) ad xa m xc rfl rfl cs 30 H5.out.1 (flatC hC x.Tl) m (Nat.min_eq_left (by omega)).symm (TL.out _ (Below.refl _ _)).2.1 HP.out.1 (HP.out.2 _ (TL.out _ H5.out.2.1).1) (by rw [(TL.out _ (Below.refl _ _)).2.1, H5.out.2.2.2]; omega) (hs_one _) wr.heap.size wr H5.out.2.1 (Nat.le_refl _) ?_; intro W6 t6 r6 b6 s6; clear c0; have c0 := (FL.out W6 (B0.out.trans (b6.mono B0.out.size))).2.2.1)
        | (refine wpList_storeO rfl 30 _ _ rfl wr.heap.size (m * 32) (hC mC3) rfl rfl (there_part t6 (by rw [H5.out.2.2.2, hC_len]; show m * 32 + 32 ≤ _; omega)) size_hs (hC_one _) ?_; intro W7 u7 r7 ap7 tk7; clear c0; have B7 : Hid (Below wr.heap.size wr W7 ∧ W7.rangeAt wr.heap.size 0 (flatC hC (x.Tl ++ [mC3])) ∧ W7.heap.size = wr.heap.size + 1) := ⟨u7.below (Nat.le_refl _) b6, (by rw [flatC_app, range_app, (TL.out _ (Below.refl _ _)).2.1, Nat.zero_add]; exact ⟨ap7 _ _ r6 (.inl (by rw [(TL.out _ (Below.refl _ _)).2.1]; omega)), by rw [flatC, flatC, List.append_nil]; exact r7⟩), by rw [u7.size, s6]; exact H5.out.2.2.1⟩; clear u7 r7 ap7 tk7 t6 r6 b6 s6)
      clear H5 HP TL
      have B07 : Below w.heap.size w W7 := B0.out.trans (B7.out.1.mono B0.out.size)
      have bi : Hid (i < n) := hlt
      have hlt5 : (i : Int) < (n : Int) + 1 := by omega
      refine wp_region_held_drew (S := fun w' => Below w.heap.size w w') (by kernel_rfl) B07.drew (fun hHeld => ?_)
      refine wpAnyH_takeT (i := 0) (oi := _) (v := .slice (some ⟨w.heap.size, 0, none⟩) (n + 1) (n + 1)) 46 rfl (by kernel_rfl) (by kernel_rfl) (by kernel_rfl) (by kernel_rfl) (fun _ _ _ h => h) (Or.inl ⟨by kernel_rfl, ?_⟩) (by assumption) ?_
      · intro wq hSw
        have _ := hSw
        go_simp
      simp only [Act.put, List.setIfInBounds_toArray, List.set_cons_succ, List.set_cons_zero]
      refine wpAnyH_takeT (i := 1) (oi := _) (v := .int .i64 (i : Int)) 47 rfl (by kernel_rfl) (by kernel_rfl) (by kernel_rfl) (by kernel_rfl) (fun _ _ _ h => h) (Or.inl ⟨by kernel_rfl, ?_⟩) (by assumption) ?_
      · intro wq hSw
        have _ := hSw
        go_simp
      simp only [Act.put, List.setIfInBounds_toArray, List.set_cons_succ, List.set_cons_zero]
      refine wpAnyH_takeT (i := 2) (oi := _) (v := .slice (some ⟨b, p, none⟩) n c) 48 rfl (by kernel_rfl) (by kernel_rfl) (by kernel_rfl) (by kernel_rfl) (fun _ _ _ h => h) (Or.inl ⟨by kernel_rfl, ?_⟩) (by assumption) ?_
      · intro wq hSw
        have _ := hSw
        go_simp
      simp only [Act.put, List.setIfInBounds_toArray, List.set_cons_succ, List.set_cons_zero]
      refine wpAnyH_takeT (i := 3) (oi := _) (v := .int .i64 (i : Int)) 49 rfl (by kernel_rfl) (by kernel_rfl) (by kernel_rfl) (by kernel_rfl) (fun _ _ _ h => h) (Or.inl ⟨by kernel_rfl, ?_⟩) (by assumption) ?_
      · intro wq hSw
        have _ := hSw
        go_simp
      simp only [Act.put, List.setIfInBounds_toArray, List.set_cons_succ, List.set_cons_zero]
      refine wpAnyH_takeT (i := 4) (oi := _) (v := .pointer (some ⟨b, p + i * 22, none⟩)) 50 rfl (by kernel_rfl) (by kernel_rfl) (by kernel_rfl) (by kernel_rfl) (fun _ _ _ h => h) (Or.inl ⟨by kernel_rfl, ?_⟩) (by assumption) ?_
      · intro wq hSw
        have _ := hSw
        go_simp
      simp only [Act.put, List.setIfInBounds_toArray, List.set_cons_succ, List.set_cons_zero]
      refine wpAnyH_takeT (i := 5) (oi := _) (v := .pointer (some ⟨b, p + i * 22, none⟩)) 51 rfl (by kernel_rfl) (by kernel_rfl) (by kernel_rfl) (by kernel_rfl) (fun _ _ _ h => h) (Or.inl ⟨by kernel_rfl, ?_⟩) (by assumption) ?_
      · intro wq hSw
        have _ := hSw
        go_simp
      simp only [Act.put, List.setIfInBounds_toArray, List.set_cons_succ, List.set_cons_zero]
      refine wpAnyH_takeT (i := 6) (oi := _) (v := .agg #[.int .u8 a0, .int .u8 a1, .int .u8 a2, .int .u8 a3, .int .u8 a4, .int .u8 a5, .int .u8 a6, .int .u8 a7, .int .u8 a8, .int .u8 a9, .int .u8 a10, .int .u8 a11, .int .u8 a12, .int .u8 a13, .int .u8 a14, .int .u8 a15, .int .u8 a16, .int .u8 a17, .int .u8 a18, .int .u8 a19]) 52 rfl (by kernel_rfl) (by kernel_rfl) (by kernel_rfl) (by kernel_rfl) (fun _ _ _ h => h) (Or.inl ⟨by kernel_rfl, ?_⟩) (by assumption) ?_
      · intro wq hSw
        exact yields_midT 38 _ rfl b (p + i * 22) rfl [.int .u8 a0, .int .u8 a1, .int .u8 a2, .int .u8 a3, .int .u8 a4, .int .u8 a5, .int .u8 a6, .int .u8 a7, .int .u8 a8, .int .u8 a9, .int .u8 a10, .int .u8 a11, .int .u8 a12, .int .u8 a13, .int .u8 a14, .int .u8 a15, .int .u8 a16, .int .u8 a17, .int .u8 a18, .int .u8 a19] _ (by have q := (FL.out wq hSw).2.1; rw [HA.out] at q; exact q) Tryd.underlying38 rfl size_ad
      simp only [Act.put, List.setIfInBounds_toArray, List.set_cons_succ, List.set_cons_zero]
      refine wpAnyH_takeT (i := 7) (oi := _) (v := .slice (some ⟨wr.heap.size, 0, none⟩) (m + 1) (m + 1)) 53 rfl (by kernel_rfl) (by kernel_rfl) (by kernel_rfl) (by kernel_rfl) (fun _ _ _ h => h) (Or.inl ⟨by kernel_rfl, ?_⟩) (by assumption) ?_
      · intro wq hSw
        have _ := hSw
        go_simp
      simp only [Act.put, List.setIfInBounds_toArray, List.set_cons_succ, List.set_cons_zero]
      refine wpAnyH_takeT (i := 8) (oi := _) (v := .slice (some ⟨b, p, none⟩) n c) 54 rfl (by kernel_rfl) (by kernel_rfl) (by kernel_rfl) (by kernel_rfl) (fun _ _ _ h => h) (Or.inl ⟨by kernel_rfl, ?_⟩) (by assumption) ?_
      · intro wq hSw
        have _ := hSw
        go_simp
      simp only [Act.put, List.setIfInBounds_toArray, List.set_cons_succ, List.set_cons_zero]
      refine wpAnyH_takeT (i := 9) (oi := _) (v := .int .i64 (i : Int)) 55 rfl (by kernel_rfl) (by kernel_rfl) (by kernel_rfl) (by kernel_rfl) (fun _ _ _ h => h) (Or.inl ⟨by kernel_rfl, ?_⟩) (by assumption) ?_
      · intro wq hSw
        have _ := hSw
        go_simp
      simp only [Act.put, List.setIfInBounds_toArray, List.set_cons_succ, List.set_cons_zero]
      refine wpAnyH_takeT (i := 10) (oi := _) (v := .pointer (some ⟨b, p + i * 22, none⟩)) 56 rfl (by kernel_rfl) (by kernel_rfl) (by kernel_rfl) (by kernel_rfl) (fun _ _ _ h => h) (Or.inl ⟨by kernel_rfl, ?_⟩) (by assumption) ?_
      · intro wq hSw
        have _ := hSw
        go_simp
      simp only [Act.put, List.setIfInBounds_toArray, List.set_cons_succ, List.set_cons_zero]
      refine wpAnyH_takeT (i := 11) (oi := _) (v := .pointer (some ⟨b, p + i * 22 + 20, none⟩)) 57 rfl (by kernel_rfl) (by kernel_rfl) (by kernel_rfl) (by kernel_rfl) (fun _ _ _ h => h) (Or.inl ⟨by kernel_rfl, ?_⟩) (by assumption) ?_
      · intro wq hSw
        have _ := hSw
        go_simp
      simp only [Act.put, List.setIfInBounds_toArray, List.set_cons_succ, List.set_cons_zero]
      refine wpAnyH_takeT (i := 12) (oi := _) (v := .slice xa m xc) 58 rfl (by kernel_rfl) (by kernel_rfl) (by kernel_rfl) (by kernel_rfl) (fun _ _ _ h => h) (Or.inl ⟨by kernel_rfl, ?_⟩) (by assumption) ?_
      · intro wq hSw
        have gg := (FL.out wq hSw).2.2.1
        go_simp
      simp only [Act.put, List.setIfInBounds_toArray, List.set_cons_succ, List.set_cons_zero]
      refine wpAnyH_takeT (i := 13) (oi := _) (v := .int .i64 (m : Int)) 59 rfl (by kernel_rfl) (by kernel_rfl) (by kernel_rfl) (by kernel_rfl) (fun _ _ _ h => h) (Or.inl ⟨by kernel_rfl, ?_⟩) (by assumption) ?_
      · intro wq hSw
        have _ := hSw
        go_simp
      simp only [Act.put, List.setIfInBounds_toArray, List.set_cons_succ, List.set_cons_zero]
      refine wpAnyH_takeT (i := 14) (oi := _) (v := .slice (some ⟨wr.heap.size, 0, none⟩) m (m + 1)) 60 rfl (by kernel_rfl) (by kernel_rfl) (by kernel_rfl) (by kernel_rfl) (fun _ _ _ h => h) (Or.inl ⟨by kernel_rfl, ?_⟩) (by assumption) ?_
      · intro wq hSw
        have _ := hSw
        go_simp
      simp only [Act.put, List.setIfInBounds_toArray, List.set_cons_succ, List.set_cons_zero]
      refine wpAnyH_takeT (i := 15) (oi := _) (v := .slice (some ⟨b, p, none⟩) n c) 61 rfl (by kernel_rfl) (by kernel_rfl) (by kernel_rfl) (by kernel_rfl) (fun _ _ _ h => h) (Or.inl ⟨by kernel_rfl, ?_⟩) (by assumption) ?_
      · intro wq hSw
        have _ := hSw
        go_simp
      simp only [Act.put, List.setIfInBounds_toArray, List.set_cons_succ, List.set_cons_zero]
      refine wpAnyH_takeT (i := 16) (oi := _) (v := .int .i64 (i : Int)) 62 rfl (by kernel_rfl) (by kernel_rfl) (by kernel_rfl) (by kernel_rfl) (fun _ _ _ h => h) (Or.inl ⟨by kernel_rfl, ?_⟩) (by assumption) ?_
      · intro wq hSw
        have _ := hSw
        go_simp
      simp only [Act.put, List.setIfInBounds_toArray, List.set_cons_succ, List.set_cons_zero]
      refine wpAnyH_takeT (i := 17) (oi := _) (v := .pointer (some ⟨b, p + i * 22, none⟩)) 63 rfl (by kernel_rfl) (by kernel_rfl) (by kernel_rfl) (by kernel_rfl) (fun _ _ _ h => h) (Or.inl ⟨by kernel_rfl, ?_⟩) (by assumption) ?_
      · intro wq hSw
        have _ := hSw
        go_simp
      simp only [Act.put, List.setIfInBounds_toArray, List.set_cons_succ, List.set_cons_zero]
      refine wpAnyH_takeT (i := 18) (oi := _) (v := .pointer (some ⟨b, p + i * 22 + 21, none⟩)) 64 rfl (by kernel_rfl) (by kernel_rfl) (by kernel_rfl) (by kernel_rfl) (fun _ _ _ h => h) (Or.inl ⟨by kernel_rfl, ?_⟩) (by assumption) ?_
      · intro wq hSw
        have _ := hSw
        go_simp
      simp only [Act.put, List.setIfInBounds_toArray, List.set_cons_succ, List.set_cons_zero]
      refine wpAnyH_takeT (i := 19) (oi := _) (v := .slice ya k4 yc) 65 rfl (by kernel_rfl) (by kernel_rfl) (by kernel_rfl) (by kernel_rfl) (fun _ _ _ h => h) (Or.inl ⟨by kernel_rfl, ?_⟩) (by assumption) ?_
      · intro wq hSw
        have gg := (FL.out wq hSw).2.2.2
        go_simp
      simp only [Act.put, List.setIfInBounds_toArray, List.set_cons_succ, List.set_cons_zero]
      clear hHeld
      refine wpAnyH_ready (rs := [20]) (by kernel_rfl) (by simp) ?_
      refine AllReadyH.cons rfl (fun K hK => ?_) AllReadyH.nil
      go_simp
      go_wp2_with (go_at_call 16; refine (HD.out _ (by first | exact B07 | exact B07.drew)).mono ?_; rintro e y0 ⟨rfl, rD, hb⟩)
      have hy : Hid (Below W7.heap.size W7 y0 ∧ Rw8 y0 W7.heap.size (lentL x.Dl)) := ⟨((Below.refl _ _).drew).trans (hb.mono (Nat.le_refl _)), rD⟩
      refine hK.out _ _ (B07.trans (hy.out.1.mono B07.size)) (fun hHeld => ?_)
      clear hK K hb rD HD
      refine wpAnyH_takeT (i := 21) (oi := _) (v := .agg #[.int .u8 a0, .int .u8 a1, .int .u8 a2, .int .u8 a3, .int .u8 a4, .int .u8 a5, .int .u8 a6, .int .u8 a7, .int .u8 a8, .int .u8 a9, .int .u8 a10, .int .u8 a11, .int .u8 a12, .int .u8 a13, .int .u8 a14, .int .u8 a15, .int .u8 a16, .int .u8 a17, .int .u8 a18, .int .u8 a19, .slice (some ⟨wr.heap.size, 0, none⟩) m (m + 1), .slice (some ⟨W7.heap.size, 0, none⟩) k4 (k4 + 70)]) 67 rfl (by kernel_rfl) (by kernel_rfl) (by kernel_rfl) (by kernel_rfl) (fun _ _ _ h => h) (Or.inl ⟨by kernel_rfl, ?_⟩) (by assumption) ?_
      · intro wq hSw
        exact yields_lg rfl rfl rfl rfl
      simp only [Act.put, List.setIfInBounds_toArray, List.set_cons_succ, List.set_cons_zero]
      refine wpAnyH_takeT (i := 22) (oi := _) (v := .pointer (some ⟨w.heap.size, i * 22, none⟩)) 68 rfl (by kernel_rfl) (by kernel_rfl) (by kernel_rfl) (by kernel_rfl) (fun _ _ _ h => h) (Or.inl ⟨by kernel_rfl, ?_⟩) (by assumption) ?_
      · intro wq hSw
        have _ := hSw
        go_simp
      simp only [Act.put, List.setIfInBounds_toArray, List.set_cons_succ, List.set_cons_zero]
      clear hHeld
      have By : Below wr.heap.size wr y0 := B7.out.1.trans (hy.out.1.mono B7.out.1.size)
      have THR : Hid (y0.there w.heap.size (i * 22) 22) := there_part (there_keepT HK.out.2.2.2.1.1 HK.out.2.2.2.1.2 By) (by have := bi.out; omega)
      obtain ⟨e, he⟩ : ∃ e : Lg, e = ⟨[a0, a1, a2, a3, a4, a5, a6, a7, a8, a9, a10, a11, a12, a13, a14, a15, a16, a17, a18, a19], some ⟨wr.heap.size, 0, none⟩, wr.heap.size, 0, m + 1, x.Tl, some ⟨W7.heap.size, 0, none⟩, W7.heap.size, 0, k4 + 70, x.Dl⟩ := ⟨_, rfl⟩
      have E1 : Hid (#[.int .u8 a0, .int .u8 a1, .int .u8 a2, .int .u8 a3, .int .u8 a4, .int .u8 a5, .int .u8 a6, .int .u8 a7, .int .u8 a8, .int .u8 a9, .int .u8 a10, .int .u8 a11, .int .u8 a12, .int .u8 a13, .int .u8 a14, .int .u8 a15, .int .u8 a16, .int .u8 a17, .int .u8 a18, .int .u8 a19, .slice (some ⟨wr.heap.size, 0, none⟩) m (m + 1), .slice (some ⟨W7.heap.size, 0, none⟩) k4 (k4 + 70)] = (lgC e).toArray) := by
        show _ = _
        rw [he, ← HN3.out, ← HN4.out]; rfl
      have EL : Hid ((lgC e).length = 22) := by show _ = _; rw [he]; rfl
      rw [E1.out]
      refine wpAnyH_ready (rs := [23]) (by kernel_rfl) (by simp) ?_
      refine AllReadyH.cons rfl (fun K hK => ?_) AllReadyH.nil
      refine (if_pos (by kernel_rfl)).mpr ?_
      refine wp_storeO 44 _ _ rfl w.heap.size (i * 22) (lgC e) rfl rfl (by rw [EL.out]; exact THR.out) (by rw [EL.out]; exact size_lg) (lgC_one _) ?_
      intro W9 u9 r9 ap tk
      have B9 : Below w.heap.size w W9 := u9.below (Nat.le_refl _) (B07.trans (hy.out.1.mono B07.size))
      refine hK.out _ _ B9 (fun hHeld => ?_)
      have REL : Hid ((us ++ [e]).length = i + 1 ∧ Below w.heap.size w W9 ∧ (W9.there w.heap.size 0 ((n + 1) * 22) ∧ w.heap.size < W9.heap.size) ∧ W9.rangeAt w.heap.size (n * 22) (lgC mC3L) ∧ ∀ j, j < i + 1 → W9.rangeAt w.heap.size (j * 22) (lgC ((us ++ [e]).getD j zLg)) ∧ LgW W9 ((us ++ [e]).getD j zLg) (ls.getD j zLg) ∧ LwP (w.heap.size + 1) ((us ++ [e]).getD j zLg)) := by
        have hk := HK.out
        have s5 := By.size
        have s4 := hk.2.2.2.1.2
        have bi' := bi.out
        refine ⟨by rw [List.length_append, hk.2.1]; rfl, B9, ⟨tk _ _ (there_keepT hk.2.2.2.1.1 s4 By), by rw [u9.size]; omega⟩, ap _ _ (range_keep hk.2.2.2.2.1 By) (.inr (by rw [EL.out]; omega)), fun j hj => ?_⟩
        by_cases cj : j < i
        · rw [getD_app (by rw [hk.2.1]; exact cj)]
          obtain ⟨x1, x2, x3⟩ := hk.2.2.2.2.2 j cj
          have lj : (lgC (us.getD j zLg)).length = 22 := by
            have q := (FLA.out j (by omega))
            rw [lgC_len (by rw [x2.adr]; exact q)]
          have x5 := x2.keep By
          exact ⟨ap _ _ (range_keep x1 By) (.inl (by rw [lj]; omega)), x5.same (u9.block _ (by have := x3.1; omega)) (u9.block _ (by have := x3.2; omega)), x3⟩
        · obtain rfl : j = i := by omega
          have e0 : (us ++ [e]).getD j zLg = e := by
            have := getD_appR (z := zLg) (L := us) (M := [e]) 0
            rw [hk.2.1] at this
            exact this
          rw [e0, HX.out]
          refine ⟨r9, ?_, ?_⟩
          · have q7 := range_keep B7.out.2.1 hy.out.1
            have s7 := B7.out.2.2
            subst he
            refine ⟨HA.out.symm, rfl, rfl, ⟨rfl, rfl, by show m + 1 = _; rw [HN3.out], range_same q7 (u9.block _ (by show wr.heap.size ≠ _; omega))⟩, ⟨rfl, rfl, by show k4 + 70 = _; rw [HN4.out], (u9.block _ (by show W7.heap.size ≠ _; omega)).trans hy.out.2⟩⟩
          · have s7 := B7.out.2.2
            subst he
            exact ⟨by show _ ≤ wr.heap.size; omega, by show _ ≤ W7.heap.size; omega⟩
      clear hK K u9 r9 ap tk
      refine wpAnyH_done (by kernel_rfl) ?_ _
      clear hHeld
      go_wp2
      go_roundg (n - (i + 1))
      case measure => have := HK.out.1; omega
      case rel => exact ⟨i + 1, us ++ [e], rfl, by have := bi.out; omega, by go_num, REL.out⟩
end Go.Proofs.YtanokeeffbiijaaDoor.tq
