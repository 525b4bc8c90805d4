import Derived.Test.YtaefmdofchjofaaRxP
import Derived.Test.YtaefmdofchjofaaRsE
/- Layer 7: the program's copies. -/
namespace Go.Proofs.Ytaefmdofchjofaa
open Go.RowKit Go.Sort
set_option maxRecDepth 100000 in
set_option maxHeartbeats 4000000 in
theorem bclone_at {ad : Addr} {c : Nat} {X : List Int} (hl : X.length < 140737488355000) (w : World) (hz : ∀ W, Below w.heap.size w W → ∀ j u, (X.map (Value.int .u8))[j]? = some u → W.cell? (ad.add j) = some u) :
    Calls Try.prog 37 #[.slice (some ad) X.length c] w fun e w' => ∃ v, e = .returned v ∧ OwnB w.heap.size w' v X ∧ Below w.heap.size w w' := by
  obtain ⟨i0, hi, hz0, hz1, hz2⟩ := info_parts info_byte
  have sl := sl_some
  have HA : Hid (X.length < 140737488355000 ∧ ∀ W, Below w.heap.size w W → ∀ j u, (X.map (Value.int .u8))[j]? = some u → W.cell? (ad.add j) = some u) := ⟨hl, hz⟩
  obtain ⟨n, en⟩ : ∃ n, n = X.length := ⟨_, rfl⟩
  rw [← en]
  have EN : Hid (X.length = n) := en.symm
  clear en hl hz
  go_enter Try.func37, Try.ntmps37
  go_wp2_with (at_builtin; go_loud (refine wpList_append_own_at _ rfl _ _ 29 rfl w.heap.size 5 i0 (.int .u8 0) 1 1 Try.underlying29 hi hz0 hz1 hz2 rfl (by decide) _ 0 [] rfl (own_mt _ _ (Nat.le_refl _)).row ad n c (X.map (Value.int .u8)) rfl (by rw [List.length_map, EN.out, Nat.mul_one]) (HA.out.2 _ ((Below.refl _ _).alloc (Nat.le_refl _) _)) (fun u hu => by obtain ⟨y, _, rfl⟩ := List.mem_map.1 hu; rfl) (by unfold maxLen; have := HA.out.1; have := EN.out; omega) (by have := HA.out.1; have := EN.out; omega) (by simp) ?_); intro v' w3 hown' hgrow3 hnil3 hblk)
  go_ret
  refine ⟨_, rfl, ?_, ((Below.refl _ _).alloc (Nat.le_refl _) _).grown hgrow3 (by simp) (fun k hk => by have e : w.heap.size = k := Option.some.inj hk; omega)⟩
  rw [OwnB, EN.out]
  simpa using hown'
/-- bytes.Clone, of any bytes. -/
theorem bclone_all {X : List Int} {a : Option Addr} {g p c n : Nat} (hn : n = X.length) (hl : X.length < 140737488355000) (ha : Az a g p X) (w : World) (hz : Bz w g p X) :
    Calls Try.prog 37 #[.slice a n c] w fun e w' => ∃ v, e = .returned v ∧ OwnB w.heap.size w' v X ∧ Below w.heap.size w w' := by
  subst hn
  cases a with
  | none =>
    have e : X = [] := by
      rcases ha with e | e
      · exact e
      · cases e
    subst e
    refine (bclone_nil 0 c w).mono fun e w' h => ⟨_, h.1, OwnB.nil _ _, by rw [h.2]; exact Below.refl _ _⟩
  | some ad =>
    refine bclone_at hl w fun W hb j u hu => ?_
    have hj : j < X.length := by
      have := (List.getElem?_eq_some_iff.1 hu).1
      rwa [List.length_map] at this
    rcases ha with e | e
    · rw [e] at hj; exact absurd hj (Nat.not_lt_zero _)
    · obtain rfl : ad = ⟨g, p, none⟩ := Option.some.inj e
      exact src_bz (hz.keep hb) j u hu
theorem wpList_make_its (w : World) {ops : Array Oper} {rest : List Oper} {o : Oper} {a : Act} {Q : Exit → Act → World → Prop}
    (hg : o.guard = none) (l c : Operand) (hop : o.op = Op.makeSlice 46 l c)
    (kl kc : IntKind) (L C : Int) (m : Nat) (hl : a.eval l = .int kl L) (hc : a.eval c = .int kc C) (eL : L = (m : Int)) (eC : C = (m : Int)) (hm : m ≤ 1000000000000)
    (hK : ∀ cs : List Value, cs.length = m * 3 → ∀ w' : World, w'.ownsRow w.heap.size 48 3 (.slice (some ⟨w.heap.size, 0, none⟩) m m) m cs → Below w.heap.size w w' → w.heap.size < w'.heap.size → wpList Try.prog ops Q rest (a.put o.dst (.slice (some ⟨w.heap.size, 0, none⟩) m m)) w') :
    wpList Try.prog ops Q (o :: rest) a w := by
  subst eL eC
  obtain ⟨i, hi, hi2⟩ := Option.map_eq_some_iff.1 info_it
  simp only [Prod.mk.injEq] at hi2
  refine wpList_plain hg fun K hK' => ?_
  obtain ⟨w', hr, h1, h2⟩ := run_make_full (P := Try.prog) w w.heap.size 46 48 i _ 3 Try.underlying46 hi hi2.1 hi2.2.1 kl kc m (by rw [hi2.2.2]; omega) (by unfold maxLen; omega) (Nat.le_refl _)
  unfold Oper.wp
  simp [execOp, hop, hl, hc, hr, Result.andThen]
  refine hK' _ _ (hK _ h1.1 w' h1 ⟨h2.os, h2.tape, h2.output, h2.size, fun k hk => h2.block k hk (by simp)⟩ (World.ownsRow.lt h1 _ rfl).2)
theorem set3 : ∀ (A R : List Value) (u0 u1 u2 : Value), 3 ≤ R.length → (((A ++ R).set A.length u0).set (A.length + 1) u1).set (A.length + 1 + 1) u2 = A ++ [u0, u1, u2] ++ R.drop 3
  | [], r0 :: r1 :: r2 :: R, _, _, _, _ => rfl
  | [], [], _, _, _, h => absurd h (by simp)
  | [], [_], _, _, _, h => absurd h (by simp)
  | [], [_, _], _, _, _, h => absurd h (by simp)
  | a :: A, R, u0, u1, u2, h => by
    have := set3 A R u0 u1 u2 h
    simp only [List.cons_append, List.length_cons, List.set_cons_succ, this]
/-- Items that are being laid into a row. -/
def Of (B : Nat) (W : World) (g n : Nat) (ts : List Tr) (ps : List (Value × Value)) : Prop := ∃ Rs : List Value, ts.length ≤ n ∧ Rs.length = (n - ts.length) * 3 ∧ ps.length = ts.length ∧ W.ownsRow B 48 3 (.slice (some ⟨g, 0, none⟩) n n) n (itC ts ps ++ Rs) ∧ Ots W ts (fun k => B ≤ k ∧ k ≠ g) ps
theorem Of.keep {B : Nat} {W W' : World} {g n : Nat} {ts : List Tr} {ps : List (Value × Value)} (h : Of B W g n ts ps) (hb : Below W.heap.size W W') : Of B W' g n ts ps := by
  obtain ⟨Rs, h0, h1, h2, h3, h4⟩ := h
  exact ⟨Rs, h0, h1, h2, row_kept h3 fun k _ hk => hb.block k hk, Ots.of fun i hi => Ot.conv _ (fun k hk hs => ⟨hs, hb.block k hk⟩) (h4.at i hi)⟩
theorem Of.there {B : Nat} {W : World} {g n : Nat} {ts : List Tr} {ps : List (Value × Value)} (h : Of B W g n ts ps) (hn : ts.length < n) : W.there g (ts.length * 3) 3 := by
  obtain ⟨Rs, h0, h1, h2, h3, h4⟩ := h
  intro j hj
  refine ⟨?_, World.ownsRow.frozenAt h3 _⟩
  rw [World.ownsRow.cellAt h3 _ (by omega), List.getElem?_eq_getElem (by rw [h3.1]; omega)]; rfl
theorem Of.step {B : Nat} {W : World} {g n : Nat} {ts : List Tr} {ps : List (Value × Value)} {t : Tr} {d q : Value} (h : Of B W g n ts ps) (hn : ts.length < n) (ht : Ot W t (fun k => B ≤ k ∧ k ≠ g) d q) :
    Of B (W.setCells g (ts.length * 3) [.bool t.l, d, q]) g n (ts ++ [t]) (ps ++ [(d, q)]) ∧ W.grownBy (W.setCells g (ts.length * 3) [.bool t.l, d, q]) (some g) := by
  obtain ⟨Rs, h0, h1, h2, h3, h4⟩ := h
  have li := itC_len ts ps h2
  obtain ⟨s1, g1⟩ := World.ownsRow.stored h3 (ts.length * 3) (.bool t.l)
  obtain ⟨s2, g2⟩ := World.ownsRow.stored s1 (ts.length * 3 + 1) d
  obtain ⟨s3, g3⟩ := World.ownsRow.stored s2 (ts.length * 3 + 1 + 1) q
  have es := set3 (itC ts ps) Rs (.bool t.l) d q (by omega)
  rw [li] at es
  rw [es] at s3
  have hg : W.grownBy (W.setCells g (ts.length * 3) [.bool t.l, d, q]) (some g) := (g1.trans g2).trans g3
  have cv : ∀ k, k < W.heap.size → (B ≤ k ∧ k ≠ g) → (B ≤ k ∧ k ≠ g) ∧ (W.setCells g (ts.length * 3) [.bool t.l, d, q]).heap[k]? = W.heap[k]? := fun k hk h => ⟨h, hg.block k hk fun e => h.2 (Option.some.inj e)⟩
  refine ⟨⟨Rs.drop 3, by simp; omega, by rw [List.length_drop, List.length_append, h1]; show _ = (n - (ts.length + 1)) * 3; omega, by simp [h2], ?_, Ots.of fun i hi' => ?_⟩, hg⟩
  · rw [← itC_snoc ts ps t d q h2]; exact s3
  · rw [List.length_append] at hi'
    have l1 : ([t] : List Tr).length = 1 := rfl
    by_cases e : i = ts.length
    · subst e
      have e1 : (ts ++ [t]).getD ts.length zT = t := by simp [List.getD]
      have e2 : (ps ++ [(d, q)]).getD ts.length zV = (d, q) := by rw [← h2]; simp [List.getD]
      rw [e1, e2]
      exact Ot.conv _ cv ht
    · have hlt : i < ts.length := by omega
      have e1 : (ts ++ [t]).getD i zT = ts.getD i zT := by simp [List.getD, List.getElem?_append_left hlt]
      have e2 : (ps ++ [(d, q)]).getD i zV = ps.getD i zV := by simp [List.getD, List.getElem?_append_left (show i < ps.length by omega)]
      rw [e1, e2]
      exact Ot.conv _ cv (h4.at i hlt)
theorem Of.all {B : Nat} {W : World} {g n : Nat} {ts : List Tr} {ps : List (Value × Value)} (h : Of B W g n ts ps) (hn : ts.length = n) : Oe B W (.slice (some ⟨g, 0, none⟩) n n) ts ps := by
  obtain ⟨Rs, h0, h1, h2, h3, h4⟩ := h
  have e : Rs = [] := List.eq_nil_of_length_eq_zero (by omega)
  subst e hn
  rw [List.append_nil] at h3
  refine ⟨h2, h3, fun k e => (World.ownsRow.lt h3 k e).1, Ots.of fun i hi => Ot.conv _ (fun k _ hs => ⟨⟨hs.1, fun e => hs.2 (Option.some.inj e).symm⟩, rfl⟩) (h4.at i hi)⟩
set_option maxRecDepth 100000 in
set_option maxHeartbeats 8000000 in
/-- The program's copies, of any items. -/
theorem copies_any : ∀ (t : Tr) {a : Option Addr} {b o c : Nat} (_ : wtS t.ts < 4194304) (_ : t.ts = [] ∨ a = some ⟨b, o, none⟩) (w : World) (_ : Its w b o t.ts),
    Calls Try.prog 34 #[.slice a t.ts.length c] w fun e w' => ∃ v ps, e = .returned v ∧ Oe w.heap.size w' v t.ts ps ∧ Below w.heap.size w w' := by
  refine Tr.ind fun l X ts ih a b o c hn ha w hI => ?_
  show Calls Try.prog 34 #[.slice a ts.length c] w fun e w' => ∃ v ps, e = .returned v ∧ Oe w.heap.size w' v ts ps ∧ Below w.heap.size w w'
  by_cases h0 : ts = []
  · subst h0
    clear hn ha hI ih
    rw [List.length_nil]
    go_enter Try.func34, Try.ntmps34
    go_wp2
    simp [bodyPost, results, Try.results34, go_sem]
    exact ⟨⟨[], Oe.nil _ _⟩, Below.refl _ _⟩
  have HI : Hid (∀ W, Below w.heap.size w W → Its W b o ts) := fun W B => hI.keep B
  have HN : Hid (wtS ts < 4194304) := hn
  obtain rfl : a = some ⟨b, o, none⟩ := ha.resolve_left h0
  have IH : Hid (∀ t ∈ ts, ∀ {a : Option Addr} {b o c : Nat} (_ : wtS t.ts < 4194304) (_ : t.ts = [] ∨ a = some ⟨b, o, none⟩) (w : World) (_ : Its w b o t.ts), Calls Try.prog 34 #[.slice a t.ts.length c] w fun e w' => ∃ v ps, e = .returned v ∧ Oe w.heap.size w' v t.ts ps ∧ Below w.heap.size w w') := @ih
  have hl : (ts.length : Int) ≤ 4194304 := by have := len_wt ts; have : wtS ts < 4194304 := hn; omega
  have hp : ((ts.length : Int) == 0) = false := by
    have : ts.length ≠ 0 := fun e => h0 (List.eq_nil_of_length_eq_zero e)
    simp; omega
  clear hn ha hI ih h0
  go_enter Try.func34, Try.ntmps34
  go_wp2_with ((refine wpList_make_its _ rfl _ _ rfl _ _ _ _ ts.length rfl rfl rfl rfl (by omega) ?_); intro cs hcs W hW BW hsW)
  have OF0 : Of w.heap.size W w.heap.size ts.length [] [] := ⟨cs, Nat.zero_le _, by simpa using hcs, rfl, by simpa [itC] using hW, by rw [Ots]; trivial⟩
  clear hcs hW hp
  go_loopg [14] ts.length (fun k iv wr => ∃ (i : Nat) (ps : List (Value × Value)), k = ts.length - i ∧ i ≤ ts.length ∧ iv = .int .i64 (i : Int) ∧ Of w.heap.size wr w.heap.size ts.length (ts.take i) ps ∧ Below w.heap.size w wr ∧ w.heap.size < wr.heap.size)
  case atStart => exact ⟨0, [], rfl, Nat.zero_le _, rfl, by simpa using OF0, BW, hsW⟩
  case round =>
    clear OF0 BW hsW W cs
    obtain ⟨i, ps, hk, hi, rfl, OE, B, hsz⟩ := hrel
    have HK : Hid (gk = ts.length - i ∧ i ≤ ts.length) := ⟨hk, hi⟩
    clear hk
    by_cases h8 : i = ts.length
    · subst h8
      rw [List.take_length] at OE
      have OA := OE.all rfl
      clear HN IH HI HK hi OE
      generalize ts.length = m at *
      go_wp2
      simp [bodyPost, results, Try.results34, go_sem]
      exact ⟨⟨ps, OA⟩, B⟩
    · have hlt : i < ts.length := by omega
      have hlt' : (i : Int) < (ts.length : Int) := by omega
      obtain ⟨d, q, e1, e2⟩ := (HI.out wr B).at i hlt
      have hwt := wt_item hlt
      have e3 := take_snoc hlt
      have hmem := getT_mem hlt
      have hpart := wt_parts (ts.getD i zT)
      have hlen : (ts.take i).length = i := by rw [List.length_take]; omega
      generalize ts.getD i zT = t at *
      have R1 : Hid (wr.rangeAt b (o + i * 3) [.bool t.l, d, q]) := e1
      obtain ⟨a1, b1, o1, c1, a2, b2, o2, c2, rfl, f1, f2, f3, rfl, g1, g2, g3⟩ := e2.open
      have C1 : Hid (∀ W, Below wr.heap.size wr W → Calls Try.prog 37 #[.slice a1 t.X.length c1] W fun e w' => ∃ v, e = .returned v ∧ OwnB W.heap.size w' v t.X ∧ Below W.heap.size W w') := fun W B => bclone_all rfl (by have := HN.out; omega) f2 W (f3.keep B)
      have C2 : Hid (∀ W, Below wr.heap.size wr W → Calls Try.prog 34 #[.slice a2 t.ts.length c2] W fun e w' => ∃ v ps, e = .returned v ∧ Oe W.heap.size w' v t.ts ps ∧ Below W.heap.size W w') := fun W B => IH.out t hmem (by have := HN.out; omega) g2 W (g3.keep B)
      have EN : Hid (∀ d1 q1 (xs : World) (ps1 : List (Value × Value)), Below wr.heap.size wr xs → OwnB wr.heap.size xs d1 t.X → Oe wr.heap.size xs q1 t.ts ps1 → xs.there w.heap.size (i * 3) 3 ∧ Of w.heap.size (xs.setCells w.heap.size (i * 3) [.bool t.l, d1, q1]) w.heap.size ts.length (ts.take (i + 1)) (ps ++ [(d1, q1)]) ∧ xs.grownBy (xs.setCells w.heap.size (i * 3) [.bool t.l, d1, q1]) (some w.heap.size)) := fun d1 q1 xs ps1 hb o1 oe1 => by
        have OK := OE.keep hb
        have th := OK.there (by omega)
        rw [hlen] at th
        have lo : ∀ k, wr.heap.size ≤ k → w.heap.size ≤ k ∧ k ≠ w.heap.size := fun k hk => ⟨by omega, by omega⟩
        have st := OK.step (t := t) (d := d1) (q := q1) (by omega) (by
          cases t with
          | mk lt Xt tt => exact Ot.mk (row_base o1 fun _ _ => Nat.zero_le _) (fun k e => lo k (o1.lt k e).1) (Orow.conv (fun k _ hS => ⟨lo k hS, rfl⟩) oe1.row))
        rw [hlen, ← e3] at st
        exact ⟨th, st⟩
      clear e1 e2 hwt e3 hmem hpart f1 f2 f3 g1 g2 g3 IH HI h8 hi OE hlen
      obtain ⟨XL, hXL⟩ : ∃ n, n = t.X.length := ⟨_, rfl⟩
      obtain ⟨TL, hTL⟩ : ∃ n, n = t.ts.length := ⟨_, rfl⟩
      rw [← hXL] at C1 R1
      rw [← hTL] at C2 R1
      have HXL : Hid (t.X.length = XL ∧ t.ts.length = TL) := ⟨hXL.symm, hTL.symm⟩
      clear hXL hTL
      obtain ⟨lt, hlt2⟩ : ∃ lb, lb = t.l := ⟨_, rfl⟩
      rw [← hlt2] at R1 EN
      clear hlt2
      refine wp_seq_k fun K h => ?_
      have H5 : Hid _ := h
      clear h
      go_wp2_with fail
      refine H5.out _ _ ?_
      clear H5 K
      refine wp_seq_k fun K h => ?_
      have H5 : Hid _ := h
      clear h
      go_wp2_with fail
      refine H5.out _ _ ?_
      clear H5 K
      refine wp_seq_k fun K h => ?_
      have H5 : Hid _ := h
      clear h
      refine wp_block ?_
      refine wp_seq_k fun K h => ?_
      have H : Hid _ := h
      clear h
      go_wp2_with (refine wpList_load_mid rfl _ _ rfl b (o + i * 3) rfl _ _ R1.out Try.underlying48 rfl size_it ?_)
      refine H.out _ _ ?_
      clear H K R1
      refine wp_world (fun V => Below wr.heap.size wr V ∧ wr.heap.size < V.heap.size ∧ Bx V wr.heap.size lt (.slice a1 XL c1) (.slice a2 TL c2)) ⟨(Below.refl _ _).alloc (Nat.le_refl _) _, by simp, ⟨by simp [go_sem], by simp [go_sem], by simp [go_sem]⟩⟩ ?_
      rintro V ⟨BV, hVs, BXV⟩
      have HBX : Hid (Bx V wr.heap.size lt (.slice a1 XL c1) (.slice a2 TL c2)) := BXV
      clear BXV
      refine wp_region_held_drew (S := fun w' => Below w.heap.size w w' ∧ Bx w' wr.heap.size lt (.slice a1 XL c1) (.slice a2 TL c2)) (by kernel_rfl) ⟨(B.trans (BV.mono B.size)).drew, HBX.out.keep (Below.refl _ _).drew⟩ (fun hHeld => ?_)
      refine wpAnyH_takeD (i := 0) (oi := _) (v := .slice (some ⟨w.heap.size, 0, none⟩) ts.length ts.length) 19 rfl (by kernel_rfl) (by kernel_rfl) (by kernel_rfl) (by kernel_rfl) (fun _ _ _ h => h) (Or.inl ⟨by kernel_rfl, ?_⟩) (by assumption) ?_
      · intro wq hSw
        obtain ⟨x0, x1, x2⟩ := hSw.2
        go_simp
      simp only [Act.put, List.setIfInBounds_toArray, List.set_cons_succ, List.set_cons_zero]
      refine wpAnyH_takeD (i := 1) (oi := _) (v := .int .i64 (i : Int)) 20 rfl (by kernel_rfl) (by kernel_rfl) (by kernel_rfl) (by kernel_rfl) (fun _ _ _ h => h) (Or.inl ⟨by kernel_rfl, ?_⟩) (by assumption) ?_
      · intro wq hSw
        obtain ⟨x0, x1, x2⟩ := hSw.2
        go_simp
      simp only [Act.put, List.setIfInBounds_toArray, List.set_cons_succ, List.set_cons_zero]
      refine wpAnyH_takeD (i := 2) (oi := _) (v := .pointer (some ⟨wr.heap.size, 0, none⟩)) 21 rfl (by kernel_rfl) (by kernel_rfl) (by kernel_rfl) (by kernel_rfl) (fun _ _ _ h => h) (Or.inl ⟨by kernel_rfl, ?_⟩) (by assumption) ?_
      · intro wq hSw
        obtain ⟨x0, x1, x2⟩ := hSw.2
        go_simp
      simp only [Act.put, List.setIfInBounds_toArray, List.set_cons_succ, List.set_cons_zero]
      refine wpAnyH_takeD (i := 3) (oi := _) (v := .bool lt) 22 rfl (by kernel_rfl) (by kernel_rfl) (by kernel_rfl) (by kernel_rfl) (fun _ _ _ h => h) (Or.inl ⟨by kernel_rfl, ?_⟩) (by assumption) ?_
      · intro wq hSw
        obtain ⟨x0, x1, x2⟩ := hSw.2
        go_simp
      simp only [Act.put, List.setIfInBounds_toArray, List.set_cons_succ, List.set_cons_zero]
      refine wpAnyH_takeD (i := 4) (oi := _) (v := .pointer (some ⟨wr.heap.size, 1, none⟩)) 23 rfl (by kernel_rfl) (by kernel_rfl) (by kernel_rfl) (by kernel_rfl) (fun _ _ _ h => h) (Or.inl ⟨by kernel_rfl, ?_⟩) (by assumption) ?_
      · intro wq hSw
        obtain ⟨x0, x1, x2⟩ := hSw.2
        go_simp
      simp only [Act.put, List.setIfInBounds_toArray, List.set_cons_succ, List.set_cons_zero]
      refine wpAnyH_takeD (i := 5) (oi := _) (v := .slice a1 XL c1) 24 rfl (by kernel_rfl) (by kernel_rfl) (by kernel_rfl) (by kernel_rfl) (fun _ _ _ h => h) (Or.inl ⟨by kernel_rfl, ?_⟩) (by assumption) ?_
      · intro wq hSw
        obtain ⟨x0, x1, x2⟩ := hSw.2
        go_simp
      simp only [Act.put, List.setIfInBounds_toArray, List.set_cons_succ, List.set_cons_zero]
      refine wpAnyH_takeD (i := 7) (oi := _) (v := .pointer (some ⟨wr.heap.size, 2, none⟩)) 26 rfl (by kernel_rfl) (by kernel_rfl) (by kernel_rfl) (by kernel_rfl) (fun _ _ _ h => h) (Or.inl ⟨by kernel_rfl, ?_⟩) (by assumption) ?_
      · intro wq hSw
        obtain ⟨x0, x1, x2⟩ := hSw.2
        go_simp
      simp only [Act.put, List.setIfInBounds_toArray, List.set_cons_succ, List.set_cons_zero]
      refine wpAnyH_takeD (i := 8) (oi := _) (v := .slice a2 TL c2) 27 rfl (by kernel_rfl) (by kernel_rfl) (by kernel_rfl) (by kernel_rfl) (fun _ _ _ h => h) (Or.inl ⟨by kernel_rfl, ?_⟩) (by assumption) ?_
      · intro wq hSw
        obtain ⟨x0, x1, x2⟩ := hSw.2
        go_simp
      simp only [Act.put, List.setIfInBounds_toArray, List.set_cons_succ, List.set_cons_zero]
      refine wpAnyH_ready (rs := [6]) (by kernel_rfl) (by simp) ?_
      refine AllReadyH.cons rfl (fun K hK => ?_) AllReadyH.nil
      go_simp
      go_wp2_with (go_at_call 37; refine (C1.out _ (BV.drew)).mono ?_; rintro e y1 ⟨d1, rfl, O1, hy1⟩)
      refine hK.out _ _ (⟨hHeld.1.trans (hy1.mono hHeld.1.size), hHeld.2.keep hy1⟩) (fun hHeld => ?_)
      clear hK K
      obtain ⟨ad, gd, cd, rfl, _⟩ := O1.lies
      have hs1 : wr.heap.size < y1.heap.size := Nat.lt_of_lt_of_le hVs hy1.size
      have BY1 : Below wr.heap.size wr y1 := BV.drew.trans (hy1.mono BV.drew.size)
      refine wpAnyH_ready (rs := [9]) (by kernel_rfl) (by simp) ?_
      refine AllReadyH.cons rfl (fun K hK => ?_) AllReadyH.nil
      go_simp
      go_wp2_with (go_at_call 34; refine (C2.out _ BY1).mono ?_; rintro e y2 ⟨q1, ps1, rfl, O2, hy2⟩)
      refine hK.out _ _ (⟨hHeld.1.trans (hy2.mono hHeld.1.size), hHeld.2.keep hy2⟩) (fun hHeld => ?_)
      clear hK K
      obtain ⟨aq, gq, cq, rfl, _⟩ := O2.row.its
      have BY2 : Below wr.heap.size wr y2 := BY1.trans (hy2.mono BY1.size)
      have O1' := (O1.keep hy2).base BV.drew.size
      have O2' : ∃ ps1, Oe wr.heap.size y2 (.slice aq t.ts.length cq) t.ts ps1 := O2.row.oe fun k _ hk => Nat.le_trans BY1.size hk
      clear O1 O2 ps1
      obtain ⟨ps1, O2⟩ := O2'
      have E3 := EN.out _ _ y2 ps1 BY2 O1' O2
      rw [HXL.out.1, HXL.out.2] at E3
      rw [HXL.out.1, HXL.out.2]
      refine wpAnyH_takeD (i := 10) (oi := _) (v := .agg #[.bool lt, .slice ad XL cd, .slice aq TL cq]) 29 rfl (by kernel_rfl) (by kernel_rfl) (by kernel_rfl) (by kernel_rfl) (fun _ _ _ h => h) (Or.inl ⟨by kernel_rfl, ?_⟩) (by assumption) ?_
      · intro wq hSw
        obtain ⟨x0, x1, x2⟩ := hSw.2
        go_simp
      simp only [Act.put, List.setIfInBounds_toArray, List.set_cons_succ, List.set_cons_zero]
      refine wpAnyH_takeD (i := 11) (oi := _) (v := .pointer (some ⟨w.heap.size, i * 3, none⟩)) 30 rfl (by kernel_rfl) (by kernel_rfl) (by kernel_rfl) (by kernel_rfl) (fun _ _ _ h => h) (Or.inl ⟨by kernel_rfl, ?_⟩) (by assumption) ?_
      · intro wq hSw
        obtain ⟨x0, x1, x2⟩ := hSw.2
        go_simp
      simp only [Act.put, List.setIfInBounds_toArray, List.set_cons_succ, List.set_cons_zero]
      refine wpAnyH_ready (rs := [12]) (by kernel_rfl) (by simp) ?_
      refine AllReadyH.cons rfl (fun K hK => ?_) AllReadyH.nil
      refine wp_store_mid 48 _ _ rfl w.heap.size (i * 3) #[.bool lt, .slice ad XL cd, .slice aq TL cq] rfl rfl E3.1 size_it (by kernel_rfl) ?_
      obtain ⟨_, OF, hg⟩ := E3
      have hB4 : Below w.heap.size w (y2.setCells w.heap.size (i * 3) [.bool lt, .slice ad XL cd, .slice aq TL cq]) := ⟨hg.os.trans hHeld.1.os, hg.tape.trans hHeld.1.tape, hg.output.trans hHeld.1.output, Nat.le_trans hHeld.1.size hg.size, fun k hk => (hg.block k (Nat.lt_of_lt_of_le hk hHeld.1.size) fun e => by have := Option.some.inj e; omega).trans (hHeld.1.block k hk)⟩
      have hX4 : Bx (y2.setCells w.heap.size (i * 3) [.bool lt, .slice ad XL cd, .slice aq TL cq]) wr.heap.size lt (.slice a1 XL c1) (.slice a2 TL c2) := by
        have e := hg.block wr.heap.size (Nat.lt_of_lt_of_le hs1 hy2.size) fun e => by have := Option.some.inj e; omega
        obtain ⟨z0, z1, z2⟩ := hHeld.2
        exact ⟨by rw [World.cell?_of_block e]; exact z0, by rw [World.cell?_of_block e]; exact z1, by rw [World.cell?_of_block e]; exact z2⟩
      have hs4 : w.heap.size < (y2.setCells w.heap.size (i * 3) [.bool lt, .slice ad XL cd, .slice aq TL cq]).heap.size := Nat.lt_of_lt_of_le hsz (Nat.le_trans BY2.size hg.size)
      refine hK.out _ _ ⟨hB4, hX4⟩ (fun hHeld => ?_)
      clear hK K
      refine wpAnyH_done (by kernel_rfl) ?_ _
      simp only [Act.put]
      generalize y2.setCells w.heap.size (i * 3) [.bool lt, .slice ad XL cd, .slice aq TL cq] = y4 at *
      refine H5.out _ _ ?_
      clear H5
      go_wp2_with fail
      go_roundg (ts.length - (i + 1))
      case measure => have := HK.out.1; omega
      case rel => exact ⟨i + 1, _, rfl, hlt, by go_num, OF, hB4, hs4⟩
end Go.Proofs.Ytaefmdofchjofaa
