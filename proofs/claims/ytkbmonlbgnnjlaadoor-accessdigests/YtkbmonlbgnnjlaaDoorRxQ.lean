import Derived.Test.YtkbmonlbgnnjlaaDoorRxK
import Derived.Test.YtkbmonlbgnnjlaaDoorRsA
import Derived.Test.YtkbmonlbgnnjlaaDoorRjA
import Derived.Test.YtkbmonlbgnnjlaaDoorDivAny
/- Layer 7: the program's copies. -/
namespace Go.Proofs.YtkbmonlbgnnjlaaDoor
open Go.RowKit Go.Sort
set_option maxRecDepth 100000 in
set_option maxHeartbeats 4000000 in
theorem bclone_at {ad : Addr} {c : Nat} {X : List Int} (hl : X.length < 140737488355000) (w : World) (hz : ∀ W, Below w.heap.size w W → ∀ j u, (X.map (Value.int .u8))[j]? = some u → W.cell? (ad.add j) = some u) :
    Calls Tryd.prog 21 #[.slice (some ad) X.length c] w fun e w' => ∃ v, e = .returned v ∧ OwnB w.heap.size w' v X ∧ Below w.heap.size w w' := by
  obtain ⟨i0, hi, hz0, hz1, hz2⟩ := info_parts info_byte
  have sl := sl_some
  have HA : Hid (X.length < 140737488355000 ∧ ∀ W, Below w.heap.size w W → ∀ j u, (X.map (Value.int .u8))[j]? = some u → W.cell? (ad.add j) = some u) := ⟨hl, hz⟩
  obtain ⟨n, en⟩ : ∃ n, n = X.length := ⟨_, rfl⟩
  rw [← en]
  have EN : Hid (X.length = n) := en.symm
  clear en hl hz
  go_enter Tryd.func21, Tryd.ntmps21
  go_wp2_with (at_builtin; go_loud (refine wpList_append_own_at _ rfl _ _ 33 rfl w.heap.size 5 i0 (.int .u8 0) 1 1 Tryd.underlying33 hi hz0 hz1 hz2 rfl (by decide) _ 0 [] rfl (own_mt _ _ (Nat.le_refl _)).row ad n c (X.map (Value.int .u8)) rfl (by rw [List.length_map, EN.out, Nat.mul_one]) (HA.out.2 _ ((Below.refl _ _).alloc (Nat.le_refl _) _)) (fun u hu => by obtain ⟨y, _, rfl⟩ := List.mem_map.1 hu; rfl) (by unfold maxLen; have := HA.out.1; have := EN.out; omega) (by have := HA.out.1; have := EN.out; omega) (by simp) ?_); intro v' w3 hown' hgrow3 hnil3 hblk)
  go_ret
  refine ⟨_, rfl, ?_, ((Below.refl _ _).alloc (Nat.le_refl _) _).grown hgrow3 (by simp) (fun k hk => by have e : w.heap.size = k := Option.some.inj hk; omega)⟩
  rw [OwnB, EN.out]
  simpa using hown'
/-- bytes.Clone, of any bytes. -/
theorem bclone_all {X : List Int} {a : Option Addr} {g p c n : Nat} (hn : n = X.length) (hl : X.length < 140737488355000) (ha : Az a g p X) (w : World) (hz : Bz w g p X) :
    Calls Tryd.prog 21 #[.slice a n c] w fun e w' => ∃ v, e = .returned v ∧ OwnB w.heap.size w' v X ∧ Below w.heap.size w w' := by
  subst hn
  cases a with
  | none =>
    have e : X = [] := by
      rcases ha with e | e
      · exact e
      · cases e
    subst e
    refine (bclone_nil 0 c w).mono fun e w' h => ⟨_, h.1, OwnB.nil _ _, by rw [h.2]; exact Below.refl _ _⟩
  | some ad =>
    refine bclone_at hl w fun W hb j u hu => ?_
    have hj : j < X.length := by
      have := (List.getElem?_eq_some_iff.1 hu).1
      rwa [List.length_map] at this
    rcases ha with e | e
    · rw [e] at hj; exact absurd hj (Nat.not_lt_zero _)
    · obtain rfl : ad = ⟨g, p, none⟩ := Option.some.inj e
      exact src_bz (hz.keep hb) j u hu
theorem wpList_make_its (w : World) {ops : Array Oper} {rest : List Oper} {o : Oper} {a : Act} {Q : Exit → Act → World → Prop}
    (hg : o.guard = none) (l c : Operand) (hop : o.op = Op.makeSlice 37 l c)
    (kl kc : IntKind) (L C : Int) (m : Nat) (hl : a.eval l = .int kl L) (hc : a.eval c = .int kc C) (eL : L = (m : Int)) (eC : C = (m : Int)) (hm : m ≤ 1000000000000)
    (hK : ∀ cs : List Value, cs.length = m * 3 → ∀ w' : World, w'.ownsRow w.heap.size 39 3 (.slice (some ⟨w.heap.size, 0, none⟩) m m) m cs → Below w.heap.size w w' → w.heap.size < w'.heap.size → wpList Tryd.prog ops Q rest (a.put o.dst (.slice (some ⟨w.heap.size, 0, none⟩) m m)) w') :
    wpList Tryd.prog ops Q (o :: rest) a w := by
  subst eL eC
  obtain ⟨i, hi, hi2⟩ := Option.map_eq_some_iff.1 info_it
  simp only [Prod.mk.injEq] at hi2
  refine wpList_plain hg fun K hK' => ?_
  obtain ⟨w', hr, h1, h2⟩ := run_make_full (P := Tryd.prog) w w.heap.size 37 39 i _ 3 Tryd.underlying37 hi hi2.1 hi2.2.1 kl kc m (by rw [hi2.2.2]; omega) (by unfold maxLen; omega) (Nat.le_refl _)
  unfold Oper.wp
  simp [execOp, hop, hl, hc, hr, Result.andThen]
  refine hK' _ _ (hK _ h1.1 w' h1 ⟨h2.os, h2.tape, h2.output, h2.size, fun k hk => h2.block k hk (by simp)⟩ (World.ownsRow.lt h1 _ rfl).2)
theorem set3 : ∀ (A R : List Value) (u0 u1 u2 : Value), 3 ≤ R.length → (((A ++ R).set A.length u0).set (A.length + 1) u1).set (A.length + 1 + 1) u2 = A ++ [u0, u1, u2] ++ R.drop 3
  | [], r0 :: r1 :: r2 :: R, _, _, _, _ => rfl
  | [], [], _, _, _, h => absurd h (by simp)
  | [], [_], _, _, _, h => absurd h (by simp)
  | [], [_, _], _, _, _, h => absurd h (by simp)
  | a :: A, R, u0, u1, u2, h => by
    have := set3 A R u0 u1 u2 h
    simp only [List.cons_append, List.length_cons, List.set_cons_succ, this]
/-- Items that are being laid into a row. -/
def Of (B : Nat) (W : World) (g n : Nat) (ts : List Tr) (ps : List (Value × Value)) : Prop := ∃ Rs : List Value, ts.length ≤ n ∧ Rs.length = (n - ts.length) * 3 ∧ ps.length = ts.length ∧ W.ownsRow B 39 3 (.slice (some ⟨g, 0, none⟩) n n) n (itC ts ps ++ Rs) ∧ Ots W ts (fun k => B ≤ k ∧ k ≠ g) ps
theorem Of.keep {B : Nat} {W W' : World} {g n : Nat} {ts : List Tr} {ps : List (Value × Value)} (h : Of B W g n ts ps) (hb : Below W.heap.size W W') : Of B W' g n ts ps := by
  obtain ⟨Rs, h0, h1, h2, h3, h4⟩ := h
  exact ⟨Rs, h0, h1, h2, row_kept h3 fun k _ hk => hb.block k hk, Ots.of fun i hi => Ot.conv _ (fun k hk hs => ⟨hs, hb.block k hk⟩) (h4.at i hi)⟩
theorem Of.there {B : Nat} {W : World} {g n : Nat} {ts : List Tr} {ps : List (Value × Value)} (h : Of B W g n ts ps) (hn : ts.length < n) : W.there g (ts.length * 3) 3 := by
  obtain ⟨Rs, h0, h1, h2, h3, h4⟩ := h
  intro j hj
  refine ⟨?_, World.ownsRow.frozenAt h3 _⟩
  rw [World.ownsRow.cellAt h3 _ (by omega), List.getElem?_eq_getElem (by rw [h3.1]; omega)]; rfl
theorem Of.step {B : Nat} {W : World} {g n : Nat} {ts : List Tr} {ps : List (Value × Value)} {t : Tr} {d q : Value} (h : Of B W g n ts ps) (hn : ts.length < n) (ht : Ot W t (fun k => B ≤ k ∧ k ≠ g) d q) :
    Of B (W.setCells g (ts.length * 3) [.bool t.l, d, q]) g n (ts ++ [t]) (ps ++ [(d, q)]) ∧ W.grownBy (W.setCells g (ts.length * 3) [.bool t.l, d, q]) (some g) := by
  obtain ⟨Rs, h0, h1, h2, h3, h4⟩ := h
  have li := itC_len ts ps h2
  obtain ⟨s1, g1⟩ := World.ownsRow.stored h3 (ts.length * 3) (.bool t.l)
  obtain ⟨s2, g2⟩ := World.ownsRow.stored s1 (ts.length * 3 + 1) d
  obtain ⟨s3, g3⟩ := World.ownsRow.stored s2 (ts.length * 3 + 1 + 1) q
  have es := set3 (itC ts ps) Rs (.bool t.l) d q (by omega)
  rw [li] at es
  rw [es] at s3
  have hg : W.grownBy (W.setCells g (ts.length * 3) [.bool t.l, d, q]) (some g) := (g1.trans g2).trans g3
  have cv : ∀ k, k < W.heap.size → (B ≤ k ∧ k ≠ g) → (B ≤ k ∧ k ≠ g) ∧ (W.setCells g (ts.length * 3) [.bool t.l, d, q]).heap[k]? = W.heap[k]? := fun k hk h => ⟨h, hg.block k hk fun e => h.2 (Option.some.inj e)⟩
  refine ⟨⟨Rs.drop 3, by simp; omega, by rw [List.length_drop, List.length_append, h1]; show _ = (n - (ts.length + 1)) * 3; omega, by simp [h2], ?_, Ots.of fun i hi' => ?_⟩, hg⟩
  · rw [← itC_snoc ts ps t d q h2]; exact s3
  · rw [List.length_append] at hi'
    have l1 : ([t] : List Tr).length = 1 := rfl
    by_cases e : i = ts.length
    · subst e
      have e1 : (ts ++ [t]).getD ts.length zT = t := by simp [List.getD]
      have e2 : (ps ++ [(d, q)]).getD ts.length zV = (d, q) := by rw [← h2]; simp [List.getD]
      rw [e1, e2]
      exact Ot.conv _ cv ht
    · have hlt : i < ts.length := by omega
      have e1 : (ts ++ [t]).getD i zT = ts.getD i zT := by simp [List.getD, List.getElem?_append_left hlt]
      have e2 : (ps ++ [(d, q)]).getD i zV = ps.getD i zV := by simp [List.getD, List.getElem?_append_left (show i < ps.length by omega)]
      rw [e1, e2]
      exact Ot.conv _ cv (h4.at i hlt)
theorem Of.all {B : Nat} {W : World} {g n : Nat} {ts : List Tr} {ps : List (Value × Value)} (h : Of B W g n ts ps) (hn : ts.length = n) : Oe B W (.slice (some ⟨g, 0, none⟩) n n) ts ps := by
  obtain ⟨Rs, h0, h1, h2, h3, h4⟩ := h
  have e : Rs = [] := List.eq_nil_of_length_eq_zero (by omega)
  subst e hn
  rw [List.append_nil] at h3
  refine ⟨h2, h3, fun k e => (World.ownsRow.lt h3 k e).1, Ots.of fun i hi => Ot.conv _ (fun k _ hs => ⟨⟨hs.1, fun e => hs.2 (Option.some.inj e).symm⟩, rfl⟩) (h4.at i hi)⟩
set_option maxRecDepth 100000 in
set_option maxHeartbeats 8000000 in
/-- The program's copies, of any items. -/
theorem copies_any : ∀ (t : Tr) {a : Option Addr} {b o c : Nat} (_ : wtS t.ts < 4194304) (_ : t.ts = [] ∨ a = some ⟨b, o, none⟩) (w : World) (_ : Its w b o t.ts),
    Calls Tryd.prog 19 #[.slice a t.ts.length c] w fun e w' => ∃ v ps, e = .returned v ∧ Oe w.heap.size w' v t.ts ps ∧ Below w.heap.size w w' := by
  refine Tr.ind fun l X ts ih a b o c hn ha w hI => ?_
  show Calls Tryd.prog 19 #[.slice a ts.length c] w fun e w' => ∃ v ps, e = .returned v ∧ Oe w.heap.size w' v ts ps ∧ Below w.heap.size w w'
  by_cases h0 : ts = []
  · subst h0
    clear hn ha hI ih
    rw [List.length_nil]
    go_enter Tryd.func19, Tryd.ntmps19
    go_wp2
    simp [bodyPost, results, Tryd.results19, go_sem]
    exact ⟨⟨[], Oe.nil _ _⟩, Below.refl _ _⟩
  have HI : Hid (∀ W, Below w.heap.size w W → Its W b o ts) := fun W B => hI.keep B
  have HN : Hid (wtS ts < 4194304) := hn
  obtain rfl : a = some ⟨b, o, none⟩ := ha.resolve_left h0
  have IH : Hid (∀ t ∈ ts, ∀ {a : Option Addr} {b o c : Nat} (_ : wtS t.ts < 4194304) (_ : t.ts = [] ∨ a = some ⟨b, o, none⟩) (w : World) (_ : Its w b o t.ts), Calls Tryd.prog 19 #[.slice a t.ts.length c] w fun e w' => ∃ v ps, e = .returned v ∧ Oe w.heap.size w' v t.ts ps ∧ Below w.heap.size w w') := @ih
  have hl : (ts.length : Int) ≤ 4194304 := by have := len_wt ts; have : wtS ts < 4194304 := hn; omega
  have hp : ((ts.length : Int) == 0) = false := by
    have : ts.length ≠ 0 := fun e => h0 (List.eq_nil_of_length_eq_zero e)
    simp; omega
  clear hn ha hI ih h0
  go_enter Tryd.func19, Tryd.ntmps19
  go_wp2_with ((refine wpList_make_its _ rfl _ _ rfl _ _ _ _ ts.length rfl rfl rfl rfl (by omega) ?_); intro cs hcs W hW BW hsW)
  have OF0 : Of w.heap.size W w.heap.size ts.length [] [] := ⟨cs, Nat.zero_le _, by simpa using hcs, rfl, by simpa [itC] using hW, by rw [Ots]; trivial⟩
  clear hcs hW hp
  go_loopg [14] ts.length (fun k iv wr => ∃ (i : Nat) (ps : List (Value × Value)), k = ts.length - i ∧ i ≤ ts.length ∧ iv = .int .i64 (i : Int) ∧ Of w.heap.size wr w.heap.size ts.length (ts.take i) ps ∧ Below w.heap.size w wr ∧ w.heap.size < wr.heap.size)
  case atStart => exact ⟨0, [], rfl, Nat.zero_le _, rfl, by simpa using OF0, BW, hsW⟩
  case round =>
    clear OF0 BW hsW W cs
    obtain ⟨i, ps, hk, hi, rfl, OE, B, hsz⟩ := hrel
    have HK : Hid (gk = ts.length - i ∧ i ≤ ts.length) := ⟨hk, hi⟩
    clear hk
    by_cases h8 : i = ts.length
    · subst h8
      rw [List.take_length] at OE
      have OA := OE.all rfl
      clear HN IH HI HK hi OE
      generalize ts.length = m at *
      go_wp2
      simp [bodyPost, results, Tryd.results19, go_sem]
      exact ⟨⟨ps, OA⟩, B⟩
    · have hlt : i < ts.length := by omega
      have hlt' : (i : Int) < (ts.length : Int) := by omega
      obtain ⟨d, q, e1, e2⟩ := (HI.out wr B).at i hlt
      have hwt := wt_item hlt
      have e3 := take_snoc hlt
      have hmem := getT_mem hlt
      have hpart := wt_parts (ts.getD i zT)
      have hlen : (ts.take i).length = i := by rw [List.length_take]; omega
      generalize ts.getD i zT = t at *
      have R1 : Hid (wr.rangeAt b (o + i * 3) [.bool t.l, d, q]) := e1
      obtain ⟨a1, b1, o1, c1, a2, b2, o2, c2, rfl, f1, f2, f3, rfl, g1, g2, g3⟩ := e2.open
      have C1 : Hid (∀ W, Below wr.heap.size wr W → Calls Tryd.prog 21 #[.slice a1 t.X.length c1] W fun e w' => ∃ v, e = .returned v ∧ OwnB W.heap.size w' v t.X ∧ Below W.heap.size W w') := fun W B => bclone_all rfl (by have := HN.out; omega) f2 W (f3.keep B)
      have C2 : Hid (∀ W, Below wr.heap.size wr W → Calls Tryd.prog 19 #[.slice a2 t.ts.length c2] W fun e w' => ∃ v ps, e = .returned v ∧ Oe W.heap.size w' v t.ts ps ∧ Below W.heap.size W w') := fun W B => IH.out t hmem (by have := HN.out; omega) g2 W (g3.keep B)
      have EN : Hid (∀ d1 q1 (xs : World) (ps1 : List (Value × Value)), Below wr.heap.size wr xs → OwnB wr.heap.size xs d1 t.X → Oe wr.heap.size xs q1 t.ts ps1 → xs.there w.heap.size (i * 3) 3 ∧ Of w.heap.size (xs.setCells w.heap.size (i * 3) [.bool t.l, d1, q1]) w.heap.size ts.length (ts.take (i + 1)) (ps ++ [(d1, q1)]) ∧ xs.grownBy (xs.setCells w.heap.size (i * 3) [.bool t.l, d1, q1]) (some w.heap.size)) := fun d1 q1 xs ps1 hb o1 oe1 => by
        have OK := OE.keep hb
        have th := OK.there (by omega)
        rw [hlen] at th
        have lo : ∀ k, wr.heap.size ≤ k → w.heap.size ≤ k ∧ k ≠ w.heap.size := fun k hk => ⟨by omega, by omega⟩
        have st := OK.step (t := t) (d := d1) (q := q1) (by omega) (by
          cases t with
          | mk lt Xt tt => exact Ot.mk (row_base o1 fun _ _ => Nat.zero_le _) (fun k e => lo k (o1.lt k e).1) (Orow.conv (fun k _ hS => ⟨lo k hS, rfl⟩) oe1.row))
        rw [hlen, ← e3] at st
        exact ⟨th, st⟩
      clear e1 e2 hwt e3 hmem hpart f1 f2 f3 g1 g2 g3 IH HI h8 hi OE hlen
      obtain ⟨XL, hXL⟩ : ∃ n, n = t.X.length := ⟨_, rfl⟩
      obtain ⟨TL, hTL⟩ : ∃ n, n = t.ts.length := ⟨_, rfl⟩
      rw [← hXL] at C1 R1
      rw [← hTL] at C2 R1
      have HXL : Hid (t.X.length = XL ∧ t.ts.length = TL) := ⟨hXL.symm, hTL.symm⟩
      clear hXL hTL
      obtain ⟨lt, hlt2⟩ : ∃ lb, lb = t.l := ⟨_, rfl⟩
      rw [← hlt2] at R1 EN
      clear hlt2
      refine wp_seq_k fun K h => ?_
      have H5 : Hid _ := h
      clear h
      go_wp2_with fail
      refine H5.out _ _ ?_
      clear H5 K
      refine wp_seq_k fun K h => ?_
      have H5 : Hid _ := h
      clear h
      go_wp2_with fail
      refine H5.out _ _ ?_
      clear H5 K
      refine wp_seq_k fun K h => ?_
      have H5 : Hid _ := h
      clear h
      refine wp_block ?_
      refine wp_seq_k fun K h => ?_
      have H : Hid _ := h
      clear h
      go_wp2_with (refine wpList_load_mid rfl _ _ rfl b (o + i * 3) rfl _ _ R1.out Tryd.underlying39 rfl size_it ?_)
      refine H.out _ _ ?_
      clear H K R1
      refine wp_world (fun V => Below wr.heap.size wr V ∧ wr.heap.size < V.heap.size ∧ Bx V wr.heap.size lt (.slice a1 XL c1) (.slice a2 TL c2)) ⟨(Below.refl _ _).alloc (Nat.le_refl _) _, by simp, ⟨by simp [go_sem], by simp [go_sem], by simp [go_sem]⟩⟩ ?_
      rintro V ⟨BV, hVs, BXV⟩
      have HBX : Hid (Bx V wr.heap.size lt (.slice a1 XL c1) (.slice a2 TL c2)) := BXV
      clear BXV
      refine wp_region_held_drew (S := fun w' => Below w.heap.size w w' ∧ Bx w' wr.heap.size lt (.slice a1 XL c1) (.slice a2 TL c2)) (by kernel_rfl) ⟨(B.trans (BV.mono B.size)).drew, HBX.out.keep (Below.refl _ _).drew⟩ (fun hHeld => ?_)
      refine wpAnyH_takeD (i := 0) (oi := _) (v := .slice (some ⟨w.heap.size, 0, none⟩) ts.length ts.length) 19 rfl (by kernel_rfl) (by kernel_rfl) (by kernel_rfl) (by kernel_rfl) (fun _ _ _ h => h) (Or.inl ⟨by kernel_rfl, ?_⟩) (by assumption) ?_
      · intro wq hSw
        obtain ⟨x0, x1, x2⟩ := hSw.2
        go_simp
      simp only [Act.put, List.setIfInBounds_toArray, List.set_cons_succ, List.set_cons_zero]
      refine wpAnyH_takeD (i := 1) (oi := _) (v := .int .i64 (i : Int)) 20 rfl (by kernel_rfl) (by kernel_rfl) (by kernel_rfl) (by kernel_rfl) (fun _ _ _ h => h) (Or.inl ⟨by kernel_rfl, ?_⟩) (by assumption) ?_
      · intro wq hSw
        obtain ⟨x0, x1, x2⟩ := hSw.2
        go_simp
      simp only [Act.put, List.setIfInBounds_toArray, List.set_cons_succ, List.set_cons_zero]
      refine wpAnyH_takeD (i := 2) (oi := _) (v := .pointer (some ⟨wr.heap.size, 0, none⟩)) 21 rfl (by kernel_rfl) (by kernel_rfl) (by kernel_rfl) (by kernel_rfl) (fun _ _ _ h => h) (Or.inl ⟨by kernel_rfl, ?_⟩) (by assumption) ?_
      · intro wq hSw
        obtain ⟨x0, x1, x2⟩ := hSw.2
        go_simp
      simp only [Act.put, List.setIfInBounds_toArray, List.set_cons_succ, List.set_cons_zero]
      refine wpAnyH_takeD (i := 3) (oi := _) (v := .bool lt) 22 rfl (by kernel_rfl) (by kernel_rfl) (by kernel_rfl) (by kernel_rfl) (fun _ _ _ h => h) (Or.inl ⟨by kernel_rfl, ?_⟩) (by assumption) ?_
      · intro wq hSw
        obtain ⟨x0, x1, x2⟩ := hSw.2
        go_simp
      simp only [Act.put, List.setIfInBounds_toArray, List.set_cons_succ, List.set_cons_zero]
      refine wpAnyH_takeD (i := 4) (oi := _) (v := .pointer (some ⟨wr.heap.size, 1, none⟩)) 23 rfl (by kernel_rfl) (by kernel_rfl) (by kernel_rfl) (by kernel_rfl) (fun _ _ _ h => h) (Or.inl ⟨by kernel_rfl, ?_⟩) (by assumption) ?_
      · intro wq hSw
        obtain ⟨x0, x1, x2⟩ := hSw.2
        go_simp
      simp only [Act.put, List.setIfInBounds_toArray, List.set_cons_succ, List.set_cons_zero]
      refine wpAnyH_takeD (i := 5) (oi := _) (v := .slice a1 XL c1) 24 rfl (by kernel_rfl) (by kernel_rfl) (by kernel_rfl) (by kernel_rfl) (fun _ _ _ h => h) (Or.inl ⟨by kernel_rfl, ?_⟩) (by assumption) ?_
      · intro wq hSw
        obtain ⟨x0, x1, x2⟩ := hSw.2
        go_simp
      simp only [Act.put, List.setIfInBounds_toArray, List.set_cons_succ, List.set_cons_zero]
      refine wpAnyH_takeD (i := 7) (oi := _) (v := .pointer (some ⟨wr.heap.size, 2, none⟩)) 26 rfl (by kernel_rfl) (by kernel_rfl) (by kernel_rfl) (by kernel_rfl) (fun _ _ _ h => h) (Or.inl ⟨by kernel_rfl, ?_⟩) (by assumption) ?_
      · intro wq hSw
        obtain ⟨x0, x1, x2⟩ := hSw.2
        go_simp
      simp only [Act.put, List.setIfInBounds_toArray, List.set_cons_succ, List.set_cons_zero]
      refine wpAnyH_takeD (i := 8) (oi := _) (v := .slice a2 TL c2) 27 rfl (by kernel_rfl) (by kernel_rfl) (by kernel_rfl) (by kernel_rfl) (fun _ _ _ h => h) (Or.inl ⟨by kernel_rfl, ?_⟩) (by assumption) ?_
      · intro wq hSw
        obtain ⟨x0, x1, x2⟩ := hSw.2
        go_simp
      simp only [Act.put, List.setIfInBounds_toArray, List.set_cons_succ, List.set_cons_zero]
      refine wpAnyH_ready (rs := [6]) (by kernel_rfl) (by simp) ?_
      refine AllReadyH.cons rfl (fun K hK => ?_) AllReadyH.nil
      go_simp
      go_wp2_with (go_at_call 21; refine (C1.out _ (BV.drew)).mono ?_; rintro e y1 ⟨d1, rfl, O1, hy1⟩)
      refine hK.out _ _ (⟨hHeld.1.trans (hy1.mono hHeld.1.size), hHeld.2.keep hy1⟩) (fun hHeld => ?_)
      clear hK K
      obtain ⟨ad, gd, cd, rfl, _⟩ := O1.lies
      have hs1 : wr.heap.size < y1.heap.size := Nat.lt_of_lt_of_le hVs hy1.size
      have BY1 : Below wr.heap.size wr y1 := BV.drew.trans (hy1.mono BV.drew.size)
      refine wpAnyH_ready (rs := [9]) (by kernel_rfl) (by simp) ?_
      refine AllReadyH.cons rfl (fun K hK => ?_) AllReadyH.nil
      go_simp
      go_wp2_with (go_at_call 19; refine (C2.out _ BY1).mono ?_; rintro e y2 ⟨q1, ps1, rfl, O2, hy2⟩)
      refine hK.out _ _ (⟨hHeld.1.trans (hy2.mono hHeld.1.size), hHeld.2.keep hy2⟩) (fun hHeld => ?_)
      clear hK K
      obtain ⟨aq, gq, cq, rfl, _⟩ := O2.row.its
      have BY2 : Below wr.heap.size wr y2 := BY1.trans (hy2.mono BY1.size)
      have O1' := (O1.keep hy2).base BV.drew.size
      have O2' : ∃ ps1, Oe wr.heap.size y2 (.slice aq t.ts.length cq) t.ts ps1 := O2.row.oe fun k _ hk => Nat.le_trans BY1.size hk
      clear O1 O2 ps1
      obtain ⟨ps1, O2⟩ := O2'
      have E3 := EN.out _ _ y2 ps1 BY2 O1' O2
      rw [HXL.out.1, HXL.out.2] at E3
      rw [HXL.out.1, HXL.out.2]
      refine wpAnyH_takeD (i := 10) (oi := _) (v := .agg #[.bool lt, .slice ad XL cd, .slice aq TL cq]) 29 rfl (by kernel_rfl) (by kernel_rfl) (by kernel_rfl) (by kernel_rfl) (fun _ _ _ h => h) (Or.inl ⟨by kernel_rfl, ?_⟩) (by assumption) ?_
      · intro wq hSw
        obtain ⟨x0, x1, x2⟩ := hSw.2
        go_simp
      simp only [Act.put, List.setIfInBounds_toArray, List.set_cons_succ, List.set_cons_zero]
      refine wpAnyH_takeD (i := 11) (oi := _) (v := .pointer (some ⟨w.heap.size, i * 3, none⟩)) 30 rfl (by kernel_rfl) (by kernel_rfl) (by kernel_rfl) (by kernel_rfl) (fun _ _ _ h => h) (Or.inl ⟨by kernel_rfl, ?_⟩) (by assumption) ?_
      · intro wq hSw
        obtain ⟨x0, x1, x2⟩ := hSw.2
        go_simp
      simp only [Act.put, List.setIfInBounds_toArray, List.set_cons_succ, List.set_cons_zero]
      refine wpAnyH_ready (rs := [12]) (by kernel_rfl) (by simp) ?_
      refine AllReadyH.cons rfl (fun K hK => ?_) AllReadyH.nil
      refine wp_store_mid 39 _ _ rfl w.heap.size (i * 3) #[.bool lt, .slice ad XL cd, .slice aq TL cq] rfl rfl E3.1 size_it (by kernel_rfl) ?_
      obtain ⟨_, OF, hg⟩ := E3
      have hB4 : Below w.heap.size w (y2.setCells w.heap.size (i * 3) [.bool lt, .slice ad XL cd, .slice aq TL cq]) := ⟨hg.os.trans hHeld.1.os, hg.tape.trans hHeld.1.tape, hg.output.trans hHeld.1.output, Nat.le_trans hHeld.1.size hg.size, fun k hk => (hg.block k (Nat.lt_of_lt_of_le hk hHeld.1.size) fun e => by have := Option.some.inj e; omega).trans (hHeld.1.block k hk)⟩
      have hX4 : Bx (y2.setCells w.heap.size (i * 3) [.bool lt, .slice ad XL cd, .slice aq TL cq]) wr.heap.size lt (.slice a1 XL c1) (.slice a2 TL c2) := by
        have e := hg.block wr.heap.size (Nat.lt_of_lt_of_le hs1 hy2.size) fun e => by have := Option.some.inj e; omega
        obtain ⟨z0, z1, z2⟩ := hHeld.2
        exact ⟨by rw [World.cell?_of_block e]; exact z0, by rw [World.cell?_of_block e]; exact z1, by rw [World.cell?_of_block e]; exact z2⟩
      have hs4 : w.heap.size < (y2.setCells w.heap.size (i * 3) [.bool lt, .slice ad XL cd, .slice aq TL cq]).heap.size := Nat.lt_of_lt_of_le hsz (Nat.le_trans BY2.size hg.size)
      refine hK.out _ _ ⟨hB4, hX4⟩ (fun hHeld => ?_)
      clear hK K
      refine wpAnyH_done (by kernel_rfl) ?_ _
      simp only [Act.put]
      generalize y2.setCells w.heap.size (i * 3) [.bool lt, .slice ad XL cd, .slice aq TL cq] = y4 at *
      refine H5.out _ _ ?_
      clear H5
      go_wp2_with fail
      go_roundg (ts.length - (i + 1))
      case measure => have := HK.out.1; omega
      case rel => exact ⟨i + 1, _, rfl, hlt, by go_num, OF, hB4, hs4⟩
end Go.Proofs.YtkbmonlbgnnjlaaDoor

/- Layer 7: the document's bound (level by level): it answers. -/
namespace Go.Proofs.YtkbmonlbgnnjlaaDoor
open Go.RowKit Go.Sort
/-- Items in a row of one's own whose texts and items lie in an older memory. -/
def Lv (w W : World) (v : Value) (L : List Tr) (ps : List (Value × Value)) : Prop := ps.length = L.length ∧ W.ownsRow w.heap.size 39 3 v L.length (itC L ps) ∧ ∀ i, i < L.length → It w (L.getD i zT) (ps.getD i zV).1 (ps.getD i zV).2
theorem Lv.nil (w W : World) : Lv w W (.slice none 0 0) [] [] := ⟨rfl, ⟨rfl, .inl ⟨rfl, rfl⟩⟩, fun _ hi => absurd hi (Nat.not_lt_zero _)⟩
theorem Lv.keep {w W W' : World} {v : Value} {L : List Tr} {ps : List (Value × Value)} (h : Lv w W v L ps) (hb : Below W.heap.size W W') : Lv w W' v L ps := ⟨h.1, row_kept h.2.1 fun k _ hk => hb.block k hk, h.2.2⟩
theorem Lv.grown {w W W' : World} {v : Value} {L : List Tr} {ps : List (Value × Value)} {row : Option Nat} (h : Lv w W v L ps) (hg : W.grownBy W' row) (hn : ∀ k, v.ownBlock = some k → row ≠ some k) : Lv w W' v L ps := ⟨h.1, row_kept h.2.1 fun k e hk => hg.block k hk fun q => hn k e q.symm, h.2.2⟩
theorem itC_app : ∀ (ts us : List Tr) (ps qs : List (Value × Value)), ps.length = ts.length → itC ts ps ++ itC us qs = itC (ts ++ us) (ps ++ qs)
  | [], _, [], _, _ => rfl
  | [], _, _ :: _, _, h => by simp at h
  | _ :: _, _, [], _, h => by simp at h
  | t :: ts, us, p :: ps, qs, h => by
    have := itC_app ts us ps qs (by simpa using h)
    simp only [itC, List.cons_append, this]
theorem itC_one : ∀ (ts : List Tr) (ps : List (Value × Value)) (_ : ∀ i, i < ts.length → (ps.getD i zV).1.oneCell' = true ∧ (ps.getD i zV).2.oneCell' = true), ∀ u ∈ itC ts ps, u.oneCell' = true
  | [], _, _, u, hu => by simp [itC] at hu
  | _ :: _, [], _, u, hu => by simp [itC] at hu
  | t :: ts, p :: ps, h, u, hu => by
    simp only [itC, List.mem_cons] at hu
    have h0 : p.1.oneCell' = true ∧ p.2.oneCell' = true := h 0 (by simp)
    rcases hu with rfl | rfl | rfl | hu
    · rfl
    · exact h0.1
    · exact h0.2
    · exact itC_one ts ps (fun i hi => h (i + 1) (by simpa using hi)) u hu
/-- The cells of items in a row. -/
theorem Its.cells {W : World} {b o : Nat} {ts : List Tr} (h : Its W b o ts) : ∃ ps : List (Value × Value), ps.length = ts.length ∧ W.rangeAt b o (itC ts ps) ∧ (∀ i, i < ts.length → It W (ts.getD i zT) (ps.getD i zV).1 (ps.getD i zV).2) := by
  induction ts generalizing o with
  | nil => exact ⟨[], rfl, fun j v hv => by simp [itC] at hv, fun i hi => absurd hi (Nat.not_lt_zero _)⟩
  | cons t ts ih =>
    rw [Its] at h
    obtain ⟨⟨d, q, h1, h2⟩, h3⟩ := h
    obtain ⟨ps, k1, k2, k3⟩ := ih h3
    refine ⟨(d, q) :: ps, by simp [k1], fun j v hv => ?_, fun i hi => ?_⟩
    · match j, hv with
      | 0, hv => exact h1 0 v hv
      | 1, hv => exact h1 1 v hv
      | 2, hv => exact h1 2 v hv
      | j + 3, hv =>
        have := k2 j v hv
        rw [show o + (j + 3) = o + 3 + j by omega]; exact this
    · match i, hi with
      | 0, _ => exact h2
      | i + 1, hi => exact k3 i (by simpa using hi)
theorem It.one {W : World} {t : Tr} {d q : Value} (h : It W t d q) : d.oneCell' = true ∧ q.oneCell' = true := by
  obtain ⟨_, _, _, _, _, _, _, _, rfl, _, _, _, rfl, _⟩ := h.open
  exact ⟨rfl, rfl⟩
/-- Some items more. -/
theorem Lv.app {w W : World} {v : Value} {L ts : List Tr} {ps : List (Value × Value)} {a : Option Addr} {b o c : Nat} {ty : TypeId} (h : Lv w W v L ps) (hI : Its w b o ts) (ha : ts = [] ∨ a = some ⟨b, o, none⟩) (hc : a = none → c = 0) (hB : Below w.heap.size w W) (hn : L.length + ts.length < 100000000000) :
    ∃ v' w' qs, (Builtin.append_ #[37, 37] ty #[v, .slice a ts.length c]).run Tryd.prog W = .ok v' w' ∧ Lv w w' v' (L ++ ts) qs ∧ W.grownBy w' v.ownBlock ∧ (v'.ownBlock = v.ownBlock ∨ v'.ownBlock = some W.heap.size) := by
  obtain ⟨i, hi, hi2⟩ := Option.map_eq_some_iff.1 info_it
  simp only [Prod.mk.injEq] at hi2
  obtain ⟨qs, k1, k2, k3⟩ := hI.cells
  by_cases h0 : ts = []
  · subst h0
    obtain rfl : qs = [] := List.eq_nil_of_length_eq_zero k1
    cases a with
    | none =>
      obtain rfl := hc rfl
      exact ⟨v, W, ps, run_append_owned_none (P := Tryd.prog) W w.heap.size 37 ty 39 i 3 Tryd.underlying37 hi v L.length _ h.2.1, by rw [List.append_nil]; exact h, World.grownBy.refl _ _, .inl rfl⟩
    | some ad =>
      obtain ⟨v', w', hr, h2, h3, _, h5⟩ := run_append_own_at (P := Tryd.prog) W w.heap.size 37 ty 39 i _ 3 56 Tryd.underlying37 hi hi2.1 hi2.2.1 hi2.2.2 rfl (by omega) v L.length _ h.2.1 ad 0 c [] rfl (fun j u hu => by simp at hu) (fun u hu => by cases hu) (by unfold maxLen; simp at hn; omega) (by simp at hn; omega) hB.size
      refine ⟨v', w', ps, hr, ⟨by simpa using h.1, by simpa using h2, by simpa using h.2.2⟩, h3, h5⟩
  · obtain rfl : a = some ⟨b, o, none⟩ := ha.resolve_left h0
    obtain ⟨v', w', hr, h2, h3, _, h5⟩ := run_append_own_at (P := Tryd.prog) W w.heap.size 37 ty 39 i _ 3 56 Tryd.underlying37 hi hi2.1 hi2.2.1 hi2.2.2 rfl (by omega) v L.length _ h.2.1 ⟨b, o, none⟩ ts.length c (itC ts qs) (itC_len _ _ k1) (fun j u hu => by
      rw [Addr.add_mid]; exact rangeT_keep k2 hB j u hu) (itC_one _ _ fun i hi => (k3 i hi).one) (by unfold maxLen; omega) (by omega) hB.size
    refine ⟨v', w', ps ++ qs, hr, ⟨by simp [h.1, k1], ?_, fun i hi => ?_⟩, h3, h5⟩
    · rw [← itC_app _ _ _ _ h.1, List.length_append]; exact h2
    · rw [List.length_append] at hi
      by_cases e : i < L.length
      · have e1 : (L ++ ts).getD i zT = L.getD i zT := by simp [List.getD, List.getElem?_append_left e]
        have e2 : (ps ++ qs).getD i zV = ps.getD i zV := by simp [List.getD, List.getElem?_append_left (show i < ps.length by have := h.1; omega)]
        rw [e1, e2]; exact h.2.2 i e
      · have e1 : (L ++ ts).getD i zT = ts.getD (i - L.length) zT := by simp [List.getD, List.getElem?_append_right (show L.length ≤ i by omega)]
        have e2 : (ps ++ qs).getD i zV = qs.getD (i - L.length) zV := by have := h.1; rw [List.getD, List.getElem?_append_right (show ps.length ≤ i by omega), this]; rfl
        rw [e1, e2]; exact k3 _ (by omega)
end Go.Proofs.YtkbmonlbgnnjlaaDoor

/- Layer 7: the statement's twin, room. -/
namespace Go.Proofs.YtkbmonlbgnnjlaaDoor
open Go.RowKit Go.Sort
theorem Oe.first {B : Nat} {W : World} {v : Value} {t : Tr} {ps : List (Value × Value)} (h : Oe B W v [t] ps) : ∃ g c d q, v = .slice (some ⟨g, 0, none⟩) 1 c ∧ Bx W g t.l d q ∧ Ot W t (fun k => B ≤ k) d q := by
  obtain ⟨h1, h2, h3, h4⟩ := h
  rcases h2.2 with ⟨_, h0⟩ | ⟨g, cap, cur, rfl, _⟩
  · cases h0
  · have hc := itC_at [t] ps h1 0 (by simp)
    have hl : ([t] : List Tr).length = 1 := rfl
    refine ⟨g, cap, _, _, rfl, ⟨(World.ownsRow.cellAt h2 0 (by omega)).trans hc.1, (World.ownsRow.cellAt h2 1 (by omega)).trans hc.2.1, (World.ownsRow.cellAt h2 2 (by omega)).trans hc.2.2⟩, Ot.conv _ (fun k _ hs => ⟨hs.1, rfl⟩) (h4.at 0 (by simp))⟩
theorem Bx.new {W : World} {t : TypeId} {l : Bool} {d q : Value} : Bx (W.alloc (.cells #[.bool l, d, q] t)) W.heap.size l d q := ⟨by simp [go_sem], by simp [go_sem], by simp [go_sem]⟩
theorem Bx.lt {W : World} {b : Nat} {l : Bool} {d q : Value} (h : Bx W b l d q) : b < W.heap.size := World.block_lt_of_cell? W _ h.1
theorem Its.one {W : World} {g : Nat} {t : Tr} {d q : Value} (h : Bx W g t.l d q) (hI : It W t d q) : Its W g 0 [t] := by
  rw [Its, Its]
  refine ⟨⟨d, q, fun j v hv => ?_, hI⟩, trivial⟩
  rw [Nat.zero_add]
  match j, hv with
  | 0, hv => simp at hv; subst hv; exact h.1
  | 1, hv => simp at hv; subst hv; exact h.2.1
  | 2, hv => simp at hv; subst hv; exact h.2.2
  | j + 3, hv => simp at hv
/-- What the statement's room answers: a tree with marks behind its text and its items. -/
def Rm (W : World) (t : Tr) (d q : Value) : Prop := It W t d q ∧ (∃ g, d = .slice (some ⟨g, 0, none⟩) t.X.length (t.X.length + 9) ∧ Bz W g 0 (t.X ++ List.replicate 9 165)) ∧ ∃ g c gm, q = .slice (some ⟨g, 0, none⟩) t.ts.length c ∧ t.ts.length + 1 ≤ c ∧ W.rangeAt g (t.ts.length * 3) [.bool false, .slice (some ⟨gm, 0, none⟩) 1 1, .slice none 0 0] ∧ Bz W gm 0 [164]
theorem Rm.keep {W W' : World} {t : Tr} {d q : Value} (h : Rm W t d q) (hb : Below W.heap.size W W') : Rm W' t d q := by
  obtain ⟨h1, ⟨g, h2, h3⟩, g', c, gm, k1, k2, k3, k4⟩ := h
  exact ⟨It.keep hb t h1, ⟨g, h2, h3.keep hb⟩, g', c, gm, k1, k2, rangeT_keep k3 hb, k4.keep hb⟩
theorem grown_set (w : World) (a : Addr) (v : Value) : w.grownBy (w.setCell a v) (some a.block) := ⟨rfl, rfl, rfl, by simp, fun k _ hk => heap_setCell_other _ _ _ _ fun e => hk (by rw [e])⟩
theorem Bx.grown {W W' : World} {b : Nat} {l : Bool} {d q : Value} {row : Option Nat} (h : Bx W b l d q) (hg : W.grownBy W' row) (hn : row ≠ some b) : Bx W' b l d q := by
  have e := hg.block b h.lt fun e => hn e.symm
  exact ⟨by rw [World.cell?_of_block e]; exact h.1, by rw [World.cell?_of_block e]; exact h.2.1, by rw [World.cell?_of_block e]; exact h.2.2⟩
theorem Fr3.grown {W W' : World} {b : Nat} {row : Option Nat} (h : Fr3 W b) (hb : b < W.heap.size) (hg : W.grownBy W' row) (hn : row ≠ some b) : Fr3 W' b := by
  have e := hg.block b hb fun e => hn e.symm
  exact ⟨by rw [World.frozen?_of_block e]; exact h.1, by rw [World.frozen?_of_block e]; exact h.2.1, by rw [World.frozen?_of_block e]; exact h.2.2⟩
theorem Orow.grown {W W' : World} {ts : List Tr} {S S' : Nat → Prop} {q : Value} {row : Option Nat} (h : Orow W ts S q) (hg : W.grownBy W' row) (hn : ∀ k, S k → row ≠ some k) (hs : ∀ k, S k → S' k) : Orow W' ts S' q := Orow.conv (fun k hk hS => ⟨hs k hS, hg.block k hk fun e => hn k hS e.symm⟩) h
end Go.Proofs.YtkbmonlbgnnjlaaDoor

/- Layer 7: the statement's stays, items. -/
namespace Go.Proofs.YtkbmonlbgnnjlaaDoor
open Go.RowKit Go.Sort
theorem Its.tree {W : World} {a : Option Addr} {b o c : Nat} {ts : List Tr} (l : Bool) (h : Its W b o ts) (hc : ts.length ≤ c ∧ (a = none → c = 0)) (ha : ts = [] ∨ a = some ⟨b, o, none⟩) : It W (.mk l [] ts) (.slice none 0 0) (.slice a ts.length c) := by
  rw [It]
  exact ⟨⟨none, 0, 0, 0, rfl, ⟨Nat.le_refl _, fun _ => rfl⟩, .inl rfl, fun i hi => absurd hi (Nat.not_lt_zero _)⟩, a, b, o, c, rfl, hc, ha, h⟩
end Go.Proofs.YtkbmonlbgnnjlaaDoor

/- Layer 7: what is read of an item. -/
namespace Go.Proofs.YtkbmonlbgnnjlaaDoor
open Go.RowKit Go.Sort
end Go.Proofs.YtkbmonlbgnnjlaaDoor

/- Layer 7: what is read of an item: texts of a length, numbers. -/
namespace Go.Proofs.YtkbmonlbgnnjlaaDoor
open Go.RowKit Go.Sort
/-- A number 0 in a block that may be written. -/
def Rz (W : World) (b : Nat) : Prop := W.cell? ⟨b, 0, none⟩ = some (.int .u64 0) ∧ W.cell? ⟨b, 1, none⟩ = some (.int .u64 0) ∧ W.cell? ⟨b, 2, none⟩ = some (.int .u64 0) ∧ W.cell? ⟨b, 3, none⟩ = some (.int .u64 0) ∧ W.frozen? ⟨b, 0, none⟩ = false ∧ W.frozen? ⟨b, 1, none⟩ = false ∧ W.frozen? ⟨b, 2, none⟩ = false ∧ W.frozen? ⟨b, 3, none⟩ = false
theorem Rz.keep {W w1 : World} {b : Nat} (x : Rz W b) (hlt : b < W.heap.size) (hb : Below W.heap.size W w1) : Rz w1 b := ⟨keepC hb x.1, keepC hb x.2.1, keepC hb x.2.2.1, keepC hb x.2.2.2.1, by rw [hb.frozen (p := ⟨b, 0, none⟩) hlt]; exact x.2.2.2.2.1, by rw [hb.frozen (p := ⟨b, 1, none⟩) hlt]; exact x.2.2.2.2.2.1, by rw [hb.frozen (p := ⟨b, 2, none⟩) hlt]; exact x.2.2.2.2.2.2.1, by rw [hb.frozen (p := ⟨b, 3, none⟩) hlt]; exact x.2.2.2.2.2.2.2⟩
end Go.Proofs.YtkbmonlbgnnjlaaDoor

/- Layer 7: RlpReads. -/
namespace Go.Proofs.YtkbmonlbgnnjlaaDoor
open Go.RowKit Go.Sort
theorem Rm.form {W : World} {t : Tr} {d q : Value} (h : Rm W t d q) : ∃ gr g c, d = .slice (some ⟨gr, 0, none⟩) t.X.length (t.X.length + 9) ∧ q = .slice (some ⟨g, 0, none⟩) t.ts.length c := by
  obtain ⟨_, ⟨gr, h1, _⟩, g, c, gm, h2, _⟩ := h
  exact ⟨gr, g, c, h1, h2⟩
theorem Rm.parts {W : World} {t : Tr} {gr g c n1 n2 n3 : Nat} (h : Rm W t (.slice (some ⟨gr, 0, none⟩) n1 n2) (.slice (some ⟨g, 0, none⟩) n3 c)) : Bz W gr 0 t.X ∧ (t.ts = [] ∨ some (⟨g, 0, none⟩ : Addr) = some ⟨g, 0, none⟩) ∧ Its W g 0 t.ts := by
  obtain ⟨hI, ⟨gr', h1, h2⟩, _⟩ := h
  injection h1 with h1 _ _
  injection h1 with h1
  injection h1 with h1 _ _
  subst h1
  obtain ⟨_, _, _, _, a2, b2, o2, c2, _, _, _, _, e2, _, k2, k3⟩ := hI.open
  injection e2 with e2 _ _
  subst e2
  rcases k2 with e | e
  · rw [e]; exact ⟨h2.front, .inl rfl, by rw [Its]; trivial⟩
  · injection e with e
    injection e with e1 e2 _
    subst e1 e2
    exact ⟨h2.front, .inr rfl, k3⟩
end Go.Proofs.YtkbmonlbgnnjlaaDoor

/- Layer 7: Text, Number, Small, List. -/
namespace Go.Proofs.YtkbmonlbgnnjlaaDoor
open Go.RowKit Go.Sort
theorem Ot.stored {w1 : World} {t : Tr} {d q : Value} {rb B : Nat} (hO : Ot w1 t (fun k => B ≤ k) d q) (hrb : rb < B) (u0 u1 u2 : Value) : Ot (((w1.setCell ⟨rb, 0, none⟩ u0).setCell ⟨rb, 1, none⟩ u1).setCell ⟨rb, 2, none⟩ u2) t (fun k => B ≤ k) d q := by
  have hne : ∀ k, B ≤ k → k ≠ rb := fun k hk e => by omega
  refine Ot.conv _ (fun k _ hk => ⟨hk, ?_⟩) hO
  rw [heap_setCell_other _ _ _ _ (hne k hk), heap_setCell_other _ _ _ _ (hne k hk), heap_setCell_other _ _ _ _ (hne k hk)]
theorem Ot.base {W : World} {t : Tr} {d q : Value} {B B' : Nat} (h : Ot W t (fun k => B ≤ k) d q) (hB : B' ≤ B) : Ot W t (fun k => B' ≤ k) d q := Ot.conv _ (fun _ _ hk => ⟨Nat.le_trans hB hk, rfl⟩) h
theorem ot_text {W : World} {B : Nat} {v : Value} {X : List Int} (h : OwnB B W v X) : Ot W (.mk false X []) (fun k => B ≤ k) v (.slice none 0 0) := Ot.mk (row_base h fun _ _ => Nat.zero_le _) (fun k e => (h.lt k e).1) (Orow.nil _ _)
theorem ot_list {W : World} {B : Nat} {v : Value} {ts : List Tr} {ps : List (Value × Value)} (h : Oe B W v ts ps) : Ot W (.mk true [] ts) (fun k => B ≤ k) (.slice none 0 0) v := Ot.mk (OwnB.nil _ _) (fun k e => by cases e) h.row
theorem below_three {w w1 : World} {rb : Nat} (B : Below w.heap.size w w1) (h : w.heap.size ≤ rb) (u0 u1 u2 : Value) : Below w.heap.size w (((w1.setCell ⟨rb, 0, none⟩ u0).setCell ⟨rb, 1, none⟩ u1).setCell ⟨rb, 2, none⟩ u2) :=
  ((B.setCell (by exact h) _).setCell (by exact h) _).setCell (by exact h) _
/-- A block of three cells that may be written. -/
def Rb3 (W : World) (b : Nat) : Prop := Bx W b false (.slice none 0 0) (.slice none 0 0) ∧ Fr3 W b
theorem Rb3.keep {W w1 : World} {b : Nat} (x : Rb3 W b) (hb : Below W.heap.size W w1) : Rb3 w1 b := ⟨x.1.keep hb, x.2.keep x.1.lt hb⟩
set_option maxRecDepth 100000 in
set_option maxHeartbeats 4000000 in
theorem text_any {X : List Int} {a : Option Addr} {b o c n : Nat} (hn : n = X.length) (hl : X.length < 16777216) (ha : Az a b o X) (w : World) (hz : Bz w b o X) :
    Calls Tryd.prog 9 #[.slice a n c] w fun e w' => ∃ d q, e = .returned (itV (.mk false X []) d q) ∧ Ot w' (.mk false X []) (fun k => w.heap.size ≤ k) d q ∧ Below w.heap.size w w' := by
  have C : Hid (∀ W, Below w.heap.size w W → Calls Tryd.prog 21 #[.slice a n c] W fun e w' => ∃ v, e = .returned v ∧ OwnB W.heap.size w' v X ∧ Below W.heap.size W w') := fun W B => bclone_all hn (by omega) ha W (hz.keep B)
  clear hl ha hz hn
  unfold itV
  go_enter Tryd.func9, Tryd.ntmps9
  go_wp2_with ((with_reducible refine (C.out _ ((Below.refl w.heap.size w).alloc (Nat.le_refl _) _)).mono ?_); rintro e1 w1 ⟨v, rfl, O1, hw⟩; (obtain ⟨⟨r0, r1, r2⟩, f0, f1, f2⟩ : Rb3 w1 (w.heap.size) := Rb3.keep ⟨⟨by simp [go_sem], by simp [go_sem], by simp [go_sem]⟩, by simp [go_sem], by simp [go_sem], by simp [go_sem]⟩ hw); (have B1 : Below w.heap.size w w1 := ((Below.refl w.heap.size w).alloc (Nat.le_refl _) _).trans (hw.mono (by simp))); (obtain ⟨av, gv1, cv, rfl, _⟩ := O1.lies))
  simp [bodyPost, results, Tryd.results9, go_sem, r0, r1, r2]
  exact ⟨_, _, ⟨rfl, rfl, rfl⟩, Ot.base (B := w.heap.size + 1) (Ot.stored (ot_text (O1.base (by simp))) (by omega) _ _ _) (by omega), below_three B1 (by omega) _ _ _⟩
set_option maxRecDepth 100000 in
set_option maxHeartbeats 4000000 in
theorem number_any {n : Int} (hn : Num n) (w : World) :
    Calls Tryd.prog 8 #[.agg #[.int .u64 (l0 n), .int .u64 (l1 n), .int .u64 (l2 n), .int .u64 (l3 n)]] w fun e w' => ∃ d q, e = .returned (itV (.mk false (stripL (putL n)) []) d q) ∧ Ot w' (.mk false (stripL (putL n)) []) (fun k => w.heap.size ≤ k) d q ∧ Below w.heap.size w w' := by
  have C : Hid (∀ W, Below w.heap.size w W → Calls Tryd.prog 20 #[.agg #[.int .u64 (l0 n), .int .u64 (l1 n), .int .u64 (l2 n), .int .u64 (l3 n)]] W fun e w' => ∃ v, e = .returned v ∧ OwnB W.heap.size w' v (stripL (putL n)) ∧ Below W.heap.size W w') := fun W _ => bytes_any hn W
  generalize stripL (putL n) = X at *
  clear hn
  unfold itV
  go_enter Tryd.func8, Tryd.ntmps8
  go_wp2_with ((with_reducible refine (C.out _ (((Below.refl w.heap.size w).alloc (Nat.le_refl _) _).alloc (by simp) _)).mono ?_); rintro e1 w1 ⟨v, rfl, O1, hw⟩; (obtain ⟨⟨r0, r1, r2⟩, f0, f1, f2⟩ : Rb3 w1 (w.heap.size + 1) := Rb3.keep ⟨⟨by simp [go_sem], by simp [go_sem], by simp [go_sem]⟩, by simp [go_sem], by simp [go_sem], by simp [go_sem]⟩ hw); (have B1 : Below w.heap.size w w1 := (((Below.refl w.heap.size w).alloc (Nat.le_refl _) _).alloc (by simp) _).trans (hw.mono (by simp; omega))); (obtain ⟨av, gv1, cv, rfl, _⟩ := O1.lies))
  simp [bodyPost, results, Tryd.results8, go_sem, r0, r1, r2]
  exact ⟨_, _, ⟨rfl, rfl, rfl⟩, Ot.base (B := w.heap.size + 1 + 1) (Ot.stored (ot_text (O1.base (by simp))) (by omega) _ _ _) (by omega), below_three B1 (by omega) _ _ _⟩
set_option maxRecDepth 100000 in
set_option maxHeartbeats 4000000 in
theorem rNumber_any {n : Int} (w : World) :
    Calls Tryd.prog 12 #[.agg #[.int .u64 (l0 n), .int .u64 (l1 n), .int .u64 (l2 n), .int .u64 (l3 n)]] w fun e w' => ∃ d q, e = .returned (itV (.mk false (stripL (putL n)) []) d q) ∧ Ot w' (.mk false (stripL (putL n)) []) (fun k => w.heap.size ≤ k) d q ∧ Below w.heap.size w w' := by
  have C : Hid (∀ W, Below w.heap.size w W → Calls Tryd.prog 24 #[.agg #[.int .u64 (l0 n), .int .u64 (l1 n), .int .u64 (l2 n), .int .u64 (l3 n)]] W fun e w' => ∃ v, e = .returned v ∧ OwnB W.heap.size w' v (stripL (putL n)) ∧ Below W.heap.size W w') := fun W _ => rbytes_any W
  generalize stripL (putL n) = X at *
  unfold itV
  go_enter Tryd.func12, Tryd.ntmps12
  go_wp2_with ((with_reducible refine (C.out _ (((Below.refl w.heap.size w).alloc (Nat.le_refl _) _).alloc (by simp) _)).mono ?_); rintro e1 w1 ⟨v, rfl, O1, hw⟩; (obtain ⟨⟨r0, r1, r2⟩, f0, f1, f2⟩ : Rb3 w1 (w.heap.size + 1) := Rb3.keep ⟨⟨by simp [go_sem], by simp [go_sem], by simp [go_sem]⟩, by simp [go_sem], by simp [go_sem], by simp [go_sem]⟩ hw); (have B1 : Below w.heap.size w w1 := (((Below.refl w.heap.size w).alloc (Nat.le_refl _) _).alloc (by simp) _).trans (hw.mono (by simp; omega))); (obtain ⟨av, gv1, cv, rfl, _⟩ := O1.lies))
  simp [bodyPost, results, Tryd.results12, go_sem, r0, r1, r2]
  exact ⟨_, _, ⟨rfl, rfl, rfl⟩, Ot.base (B := w.heap.size + 1 + 1) (Ot.stored (ot_text (O1.base (by simp))) (by omega) _ _ _) (by omega), below_three B1 (by omega) _ _ _⟩
set_option maxRecDepth 100000 in
set_option maxHeartbeats 4000000 in
theorem small_any {v : Int} (hv : Word v) (w : World) :
    Calls Tryd.prog 10 #[.int .u64 v] w fun e w' => ∃ d q, e = .returned (itV (.mk false (stripL (putL v)) []) d q) ∧ Ot w' (.mk false (stripL (putL v)) []) (fun k => w.heap.size ≤ k) d q ∧ Below w.heap.size w w' := by
  have hm : Num v := by obtain ⟨h1, h2⟩ := hv; exact ⟨h1, by omega⟩
  have D : Hid (∀ W : World, Calls Tryd.prog 22 #[.int .u64 v] W fun e w' => e = .returned (.agg #[.int .u64 (l0 v), .int .u64 (l1 v), .int .u64 (l2 v), .int .u64 (l3 v)]) ∧ Below W.heap.size W w') := fun W => from_any hv W
  have C : Hid (∀ W : World, Calls Tryd.prog 8 #[.agg #[.int .u64 (l0 v), .int .u64 (l1 v), .int .u64 (l2 v), .int .u64 (l3 v)]] W fun e w' => ∃ d q, e = .returned (.agg #[.bool false, d, q]) ∧ Ot w' (.mk false (stripL (putL v)) []) (fun k => W.heap.size ≤ k) d q ∧ Below W.heap.size W w') := fun W => number_any hm W
  clear hv hm
  generalize stripL (putL v) = X at *
  unfold itV
  go_enter Tryd.func10, Tryd.ntmps10
  go_wp2_with (first
    | ((with_reducible refine (D.out _).mono ?_); rintro e0 w0 ⟨rfl, hw0⟩; (have R0 : Rb3 w0 w.heap.size := Rb3.keep ⟨⟨by simp [go_sem], by simp [go_sem], by simp [go_sem]⟩, by simp [go_sem], by simp [go_sem], by simp [go_sem]⟩ hw0); (have B0 : Below w.heap.size w w0 := ((Below.refl w.heap.size w).alloc (Nat.le_refl _) _).trans (hw0.mono (by simp))))
    | ((with_reducible refine (C.out _).mono ?_); rintro e1 w1 ⟨dd, qq, rfl, O1, hw⟩; (have hsl := (Ot.it _ O1).slices); (obtain ⟨s1, s2, s3, s4, s5, s6, rfl, rfl⟩ := hsl); (obtain ⟨⟨r0, r1, r2⟩, f0, f1, f2⟩ := R0.keep hw); (have B1 := B0.trans (hw.mono B0.size))))
  simp [bodyPost, results, Tryd.results10, go_sem, r0, r1, r2]
  have hlt := R0.1.lt
  exact ⟨_, _, ⟨rfl, rfl, rfl⟩, Ot.base (B := w.heap.size + 1) (Ot.stored (Ot.base O1 (by omega)) (by omega) _ _ _) (by omega), below_three B1 (by omega) _ _ _⟩
set_option maxRecDepth 100000 in
set_option maxHeartbeats 4000000 in
theorem rSmall_any {v : Int} (hv : Word v) (w : World) :
    Calls Tryd.prog 14 #[.int .u64 v] w fun e w' => ∃ d q, e = .returned (itV (.mk false (stripL (putL v)) []) d q) ∧ Ot w' (.mk false (stripL (putL v)) []) (fun k => w.heap.size ≤ k) d q ∧ Below w.heap.size w w' := by
  have hm : Num v := by obtain ⟨h1, h2⟩ := hv; exact ⟨h1, by omega⟩
  have D : Hid (∀ W : World, Calls Tryd.prog 25 #[.int .u64 v] W fun e w' => e = .returned (.agg #[.int .u64 (l0 v), .int .u64 (l1 v), .int .u64 (l2 v), .int .u64 (l3 v)]) ∧ Below W.heap.size W w') := fun W => rfrom_any hv W
  have C : Hid (∀ W : World, Calls Tryd.prog 12 #[.agg #[.int .u64 (l0 v), .int .u64 (l1 v), .int .u64 (l2 v), .int .u64 (l3 v)]] W fun e w' => ∃ d q, e = .returned (.agg #[.bool false, d, q]) ∧ Ot w' (.mk false (stripL (putL v)) []) (fun k => W.heap.size ≤ k) d q ∧ Below W.heap.size W w') := fun W => rNumber_any W
  clear hv hm
  generalize stripL (putL v) = X at *
  unfold itV
  go_enter Tryd.func14, Tryd.ntmps14
  go_wp2_with (first
    | ((with_reducible refine (D.out _).mono ?_); rintro e0 w0 ⟨rfl, hw0⟩; (have R0 : Rb3 w0 w.heap.size := Rb3.keep ⟨⟨by simp [go_sem], by simp [go_sem], by simp [go_sem]⟩, by simp [go_sem], by simp [go_sem], by simp [go_sem]⟩ hw0); (have B0 : Below w.heap.size w w0 := ((Below.refl w.heap.size w).alloc (Nat.le_refl _) _).trans (hw0.mono (by simp))))
    | ((with_reducible refine (C.out _).mono ?_); rintro e1 w1 ⟨dd, qq, rfl, O1, hw⟩; (have hsl := (Ot.it _ O1).slices); (obtain ⟨s1, s2, s3, s4, s5, s6, rfl, rfl⟩ := hsl); (obtain ⟨⟨r0, r1, r2⟩, f0, f1, f2⟩ := R0.keep hw); (have B1 := B0.trans (hw.mono B0.size))))
  simp [bodyPost, results, Tryd.results14, go_sem, r0, r1, r2]
  have hlt := R0.1.lt
  exact ⟨_, _, ⟨rfl, rfl, rfl⟩, Ot.base (B := w.heap.size + 1) (Ot.stored (Ot.base O1 (by omega)) (by omega) _ _ _) (by omega), below_three B1 (by omega) _ _ _⟩
set_option maxRecDepth 100000 in
set_option maxHeartbeats 4000000 in
theorem list_any {ts : List Tr} {a : Option Addr} {b o c : Nat} (hl : wtS ts < 4194304) (ha : ts = [] ∨ a = some ⟨b, o, none⟩) (w : World) (hz : Its w b o ts) :
    Calls Tryd.prog 7 #[.slice a ts.length c] w fun e w' => ∃ d q, e = .returned (itV (.mk true [] ts) d q) ∧ Ot w' (.mk true [] ts) (fun k => w.heap.size ≤ k) d q ∧ Below w.heap.size w w' := by
  have C : Hid (∀ W, Below w.heap.size w W → Calls Tryd.prog 19 #[.slice a ts.length c] W fun e w' => ∃ v ps, e = .returned v ∧ Oe W.heap.size w' v ts ps ∧ Below W.heap.size W w') := fun W B => copies_any (.mk true [] ts) (by exact hl) ha W (hz.keep B)
  clear hl ha hz
  unfold itV
  go_enter Tryd.func7, Tryd.ntmps7
  go_wp2_with ((with_reducible refine (C.out _ ((Below.refl w.heap.size w).alloc (Nat.le_refl _) _)).mono ?_); rintro e1 w1 ⟨v, ps, rfl, O1, hw⟩; (obtain ⟨⟨r0, r1, r2⟩, f0, f1, f2⟩ : Rb3 w1 (w.heap.size) := Rb3.keep ⟨⟨by simp [go_sem], by simp [go_sem], by simp [go_sem]⟩, by simp [go_sem], by simp [go_sem], by simp [go_sem]⟩ hw); (have B1 : Below w.heap.size w w1 := ((Below.refl w.heap.size w).alloc (Nat.le_refl _) _).trans (hw.mono (by simp))); (obtain ⟨av, gv1, cv, rfl, _⟩ := O1.row.its))
  simp [bodyPost, results, Tryd.results7, go_sem, r0, r1, r2]
  exact ⟨_, _, ⟨rfl, rfl, rfl⟩, Ot.base (B := w.heap.size + 1) (Ot.stored (ot_list (O1.row.oe (fun k _ hk => by simpa using hk)).choose_spec) (by omega) _ _ _) (by omega), below_three B1 (by omega) _ _ _⟩
end Go.Proofs.YtkbmonlbgnnjlaaDoor

/- Layer 7: RlpMakes. -/
namespace Go.Proofs.YtkbmonlbgnnjlaaDoor
open Go.RowKit Go.Sort
end Go.Proofs.YtkbmonlbgnnjlaaDoor
