import Derived.Test.YtaefmdofchjofaaRxL
import Derived.Test.YtaefmdofchjofaaRjA
/- Layer 7: the document's Copy. -/
namespace Go.Proofs.Ytaefmdofchjofaa
open Go.RowKit Go.Sort
theorem info_it : (Try.prog.info? 48).map (fun i => (i.zero, i.size, i.bytes)) = some (some (.agg #[.bool false, .slice none 0 0, .slice none 0 0]), 3, 56) := by kernel_rfl
theorem It.open {W : World} {t : Tr} {d q : Value} (h : It W t d q) : ∃ a b o c a' b' o' c', d = .slice a t.X.length c ∧ (t.X.length ≤ c ∧ (a = none → c = 0)) ∧ Az a b o t.X ∧ Bz W b o t.X ∧ q = .slice a' t.ts.length c' ∧ (t.ts.length ≤ c' ∧ (a' = none → c' = 0)) ∧ (t.ts = [] ∨ a' = some ⟨b', o', none⟩) ∧ Its W b' o' t.ts := by
  cases t with
  | mk l X ts =>
    rw [It] at h
    obtain ⟨⟨a, b, o, c, h1, h2, h3, h4⟩, a', b', o', c', k1, k2, k3, k4⟩ := h
    exact ⟨a, b, o, c, a', b', o', c', h1, h2, h3, h4, k1, k2, k3, k4⟩
theorem Its.keep {W W' : World} {b o : Nat} {ts : List Tr} (h : Its W b o ts) (hb : Below W.heap.size W W') : Its W' b o ts := Its.of fun i hi => by
  obtain ⟨d, q, e1, e2⟩ := h.at i hi
  exact ⟨d, q, rangeT_keep e1 hb, It.keep hb _ e2⟩
theorem wt_parts (t : Tr) : wtT t = 1 + t.X.length + wtS t.ts := by cases t with | mk l X ts => rw [wtT]; rfl
/-- An append of one item, in a region that is drawn. -/
theorem wp_append_it {w : World} {o : Oper} {a : Act} {K : Act → World → Prop} {Q : Exit → Act → World → Prop} (s x : Operand) (ho : o.op = .call { callee := .builtin .append, args := #[s, x], argTypes := #[46, 46] })
    (base : Nat) (v : Value) (n : Nat) (xs : List Value) (hs : a.eval s = v) (hown : w.ownsRow base 48 3 v n xs)
    (g c : Nat) (u0 u1 u2 : Value) (hx : a.eval x = .slice (some ⟨g, 0, none⟩) 1 c) (hnews : w.cell? ⟨g, 0, none⟩ = some u0 ∧ w.cell? ⟨g, 1, none⟩ = some u1 ∧ w.cell? ⟨g, 2, none⟩ = some u2) (h1 : u0.oneCell' = true ∧ u1.oneCell' = true ∧ u2.oneCell' = true)
    (hn : n < 100000000000) (hbase : base ≤ w.heap.size)
    (h : ∀ v' w', w'.ownsRow base 48 3 v' (n + 1) (xs ++ [u0, u1, u2]) → w.grownBy w' v.ownBlock → (v'.ownBlock = v.ownBlock ∨ v'.ownBlock = some w.heap.size) → K (a.put o.dst v') w') : o.wp Try.prog a w K Q := by
  have hn1 : n + 1 ≤ maxLen := by unfold maxLen; omega
  obtain ⟨i, hi, hi2⟩ := Option.map_eq_some_iff.1 info_it
  simp only [Prod.mk.injEq] at hi2
  obtain ⟨v', w', hr, h2, h3, h4, h5⟩ := run_append_own_at (P := Try.prog) w base 46 o.type 48 i _ 3 56 Try.underlying46 hi hi2.1 hi2.2.1 hi2.2.2 rfl (by omega) v n xs hown ⟨g, 0, none⟩ 1 c [u0, u1, u2] rfl (fun j u hu => by
    rw [Addr.add_lit]
    match j, hu with
    | 0, hu => simp at hu; subst hu; exact hnews.1
    | 1, hu => simp at hu; subst hu; exact hnews.2.1
    | 2, hu => simp at hu; subst hu; exact hnews.2.2
    | j + 3, hu => simp at hu) (by simpa using h1) hn1 (by omega) hbase
  unfold Oper.wp execOp
  simp only [ho, resolve, invoke, builtin, Sem.run_bind, Sem.run_pure, Result.andThen_ok, List.map_toArray, List.map_cons, List.map_nil, hs, hx, hr]
  exact h v' w' h2 h3 h5
set_option maxRecDepth 100000 in
set_option maxHeartbeats 8000000 in
/-- The document's Copy, of any items. -/
theorem rCopy_any : ∀ (t : Tr) {a : Option Addr} {b o c : Nat} (_ : wtS t.ts < 4194304) (_ : t.ts = [] ∨ a = some ⟨b, o, none⟩) (w : World) (_ : Its w b o t.ts),
    Calls Try.prog 42 #[.slice a t.ts.length c] w fun e w' => ∃ v ps, e = .returned v ∧ Oe w.heap.size w' v t.ts ps ∧ Below w.heap.size w w' := by
  refine Tr.ind fun l X ts ih a b o c hn ha w hI => ?_
  show Calls Try.prog 42 #[.slice a ts.length c] w fun e w' => ∃ v ps, e = .returned v ∧ Oe w.heap.size w' v ts ps ∧ Below w.heap.size w w'
  have HI : Hid (∀ W, Below w.heap.size w W → Its W b o ts) := fun W B => hI.keep B
  have HN : Hid (wtS ts < 4194304 ∧ (ts = [] ∨ a = some ⟨b, o, none⟩)) := ⟨hn, ha⟩
  have IH : Hid (∀ t ∈ ts, ∀ {a : Option Addr} {b o c : Nat} (_ : wtS t.ts < 4194304) (_ : t.ts = [] ∨ a = some ⟨b, o, none⟩) (w : World) (_ : Its w b o t.ts), Calls Try.prog 42 #[.slice a t.ts.length c] w fun e w' => ∃ v ps, e = .returned v ∧ Oe w.heap.size w' v t.ts ps ∧ Below w.heap.size w w') := @ih
  have hl : (ts.length : Int) ≤ 4194304 := by have := len_wt ts; have : wtS ts < 4194304 := hn; omega
  clear hn ha hI ih
  go_enter Try.func42, Try.ntmps42
  go_wp2_with fail
  go_loopg [3, 4] ts.length (fun k ov iv wr => ∃ (i : Nat) (ps : List (Value × Value)), k = ts.length - i ∧ i ≤ ts.length ∧ iv = .int .i64 (i : Int) ∧ Oe w.heap.size wr ov (ts.take i) ps ∧ Below w.heap.size w wr)
  case atStart => exact ⟨0, [], rfl, Nat.zero_le _, rfl, by simpa using Oe.nil _ _, Below.refl _ _⟩
  case round =>
    obtain ⟨i, ps, hk, hi, rfl, OE, B⟩ := hrel
    have HK : Hid (gk = ts.length - i ∧ i ≤ ts.length) := ⟨hk, hi⟩
    clear hk
    by_cases h8 : i = ts.length
    · subst h8
      rw [List.take_length] at OE
      clear HN IH HI HK hi
      generalize ts.length = m at *
      go_wp2
      simp [bodyPost, results, Try.results42, go_sem]
      exact ⟨⟨ps, OE⟩, B⟩
    · have hlt : i < ts.length := by omega
      have hlt' : (i : Int) < (ts.length : Int) := by omega
      have ha : a = some ⟨b, o, none⟩ := by
        rcases HN.out.2 with e | e
        · rw [e] at hlt; exact absurd hlt (Nat.not_lt_zero _)
        · exact e
      subst ha
      obtain ⟨d, q, e1, e2⟩ := (HI.out wr B).at i hlt
      have hwt := wt_item hlt
      have e3 := take_snoc hlt
      have hmem := getT_mem hlt
      have hpart := wt_parts (ts.getD i zT)
      have hlen : (ts.take i).length = i := by rw [List.length_take]; omega
      generalize ts.getD i zT = t at *
      have R1 : Hid (wr.rangeAt b (o + i * 3) [.bool t.l, d, q]) := e1
      obtain ⟨a1, b1, o1, c1, a2, b2, o2, c2, rfl, f1, f2, f3, rfl, g1, g2, g3⟩ := e2.open
      have C1 : Hid (∀ W, Below wr.heap.size wr W → Calls Try.prog 40 #[.slice a1 t.X.length c1] W fun e w' => ∃ v, e = .returned v ∧ OwnB W.heap.size w' v t.X ∧ Below W.heap.size W w') := fun W B => r7bytes_any rfl (by have := HN.out.1; omega) f2 f1.2 W (f3.keep B)
      have C2 : Hid (∀ W, Below wr.heap.size wr W → Calls Try.prog 42 #[.slice a2 t.ts.length c2] W fun e w' => ∃ v ps, e = .returned v ∧ Oe W.heap.size w' v t.ts ps ∧ Below W.heap.size W w') := fun W B => IH.out t hmem (by have := HN.out.1; omega) g2 W (g3.keep B)
      have NX : Hid (ts.take (i + 1) = ts.take i ++ [t] ∧ (ts.take i).length = i ∧ (u3.ownBlock ≠ some wr.heap.size) ∧ wr.ownsRow w.heap.size 48 3 u3 i (itC (ts.take i) ps)) := ⟨e3, hlen, fun e => by have := (World.ownsRow.lt OE.2.1 _ e).2; omega, by have := OE.2.1; rw [hlen] at this; exact this⟩
      have EN : Hid (∀ x4 v' d1 q1 (xs : World) (ps1 : List (Value × Value)), Below wr.heap.size wr xs → OwnB wr.heap.size xs d1 t.X → Oe wr.heap.size xs q1 t.ts ps1 → x4.ownsRow w.heap.size 48 3 v' (i + 1) (itC (ts.take i) ps ++ [.bool t.l, d1, q1]) → xs.grownBy x4 u3.ownBlock → (v'.ownBlock = u3.ownBlock ∨ v'.ownBlock = some xs.heap.size) → Oe w.heap.size x4 v' (ts.take (i + 1)) (ps ++ [(d1, q1)])) := fun x4 v' d1 q1 xs ps1 hb o1 oe1 ho hg hv => by
        rw [e3]
        refine Oe.step (OE.keep hb) ?_ (Nat.le_trans B.size hb.size) (by rw [hlen]; exact ho) hg hv
        have lo : ∀ k, wr.heap.size ≤ k → w.heap.size ≤ k ∧ u3.ownBlock ≠ some k := fun k hk => ⟨Nat.le_trans B.size hk, fun e => by have := (World.ownsRow.lt OE.2.1 _ e).2; omega⟩
        cases t with
        | mk lt Xt tt => exact Ot.mk (row_base o1 fun _ _ => Nat.zero_le _) (fun k e => lo k (o1.lt k e).1) (Orow.conv (fun k _ hS => ⟨lo k hS, rfl⟩) oe1.row)
      clear e1 e2 hwt e3 hmem hpart f1 f2 f3 g1 g2 g3 IH HI h8 hi OE hlen
      obtain ⟨XL, hXL⟩ : ∃ n, n = t.X.length := ⟨_, rfl⟩
      obtain ⟨TL, hTL⟩ : ∃ n, n = t.ts.length := ⟨_, rfl⟩
      rw [← hXL] at C1 R1
      rw [← hTL] at C2 R1
      have HXL : Hid (t.X.length = XL ∧ t.ts.length = TL) := ⟨hXL.symm, hTL.symm⟩
      clear hXL hTL
      obtain ⟨lt, hlt2⟩ : ∃ lb, lb = t.l := ⟨_, rfl⟩
      rw [← hlt2] at R1 EN
      clear hlt2
      refine wp_seq_k fun K h => ?_
      have H5 : Hid _ := h
      clear h
      go_wp2_with fail
      refine H5.out _ _ ?_
      clear H5 K
      refine wp_seq_k fun K h => ?_
      have H5 : Hid _ := h
      clear h
      refine wp_block ?_
      refine wp_seq_k fun K h => ?_
      have H : Hid _ := h
      clear h
      go_wp2_with (refine wpList_load_mid rfl _ _ rfl b (o + i * 3) rfl _ _ R1.out Try.underlying48 rfl size_it ?_)
      refine H.out _ _ ?_
      clear H K R1
      refine wp_world (fun V => Below wr.heap.size wr V ∧ wr.heap.size < V.heap.size ∧ Bx V wr.heap.size lt (.slice a1 XL c1) (.slice a2 TL c2)) ⟨(Below.refl _ _).alloc (Nat.le_refl _) _, by simp, ⟨by simp [go_sem], by simp [go_sem], by simp [go_sem]⟩⟩ ?_
      rintro V ⟨BV, hVs, BXV⟩
      have HBX : Hid (Bx V wr.heap.size lt (.slice a1 XL c1) (.slice a2 TL c2)) := BXV
      clear BXV
      refine wp_region_held_drew (S := fun w' => Below w.heap.size w w' ∧ Bx w' wr.heap.size lt (.slice a1 XL c1) (.slice a2 TL c2)) (by kernel_rfl) ⟨(B.trans (BV.mono B.size)).drew, HBX.out.keep (Below.refl _ _).drew⟩ (fun hHeld => ?_)
      refine wpAnyH_takeD (i := 0) (oi := _) (v := u3) 16 rfl (by kernel_rfl) (by kernel_rfl) (by kernel_rfl) (by kernel_rfl) (fun _ _ _ h => h) (Or.inl ⟨by kernel_rfl, ?_⟩) (by assumption) ?_
      · intro wq hSw
        obtain ⟨x0, x1, x2⟩ := hSw.2
        go_simp
      simp only [Act.put, List.setIfInBounds_toArray, List.set_cons_succ, List.set_cons_zero]
      refine wpAnyH_takeD (i := 1) (oi := _) (v := .pointer (some ⟨wr.heap.size, 0, none⟩)) 17 rfl (by kernel_rfl) (by kernel_rfl) (by kernel_rfl) (by kernel_rfl) (fun _ _ _ h => h) (Or.inl ⟨by kernel_rfl, ?_⟩) (by assumption) ?_
      · intro wq hSw
        obtain ⟨x0, x1, x2⟩ := hSw.2
        go_simp
      simp only [Act.put, List.setIfInBounds_toArray, List.set_cons_succ, List.set_cons_zero]
      refine wpAnyH_takeD (i := 2) (oi := _) (v := .bool lt) 18 rfl (by kernel_rfl) (by kernel_rfl) (by kernel_rfl) (by kernel_rfl) (fun _ _ _ h => h) (Or.inl ⟨by kernel_rfl, ?_⟩) (by assumption) ?_
      · intro wq hSw
        obtain ⟨x0, x1, x2⟩ := hSw.2
        go_simp
      simp only [Act.put, List.setIfInBounds_toArray, List.set_cons_succ, List.set_cons_zero]
      refine wpAnyH_takeD (i := 3) (oi := _) (v := .pointer (some ⟨wr.heap.size, 1, none⟩)) 19 rfl (by kernel_rfl) (by kernel_rfl) (by kernel_rfl) (by kernel_rfl) (fun _ _ _ h => h) (Or.inl ⟨by kernel_rfl, ?_⟩) (by assumption) ?_
      · intro wq hSw
        obtain ⟨x0, x1, x2⟩ := hSw.2
        go_simp
      simp only [Act.put, List.setIfInBounds_toArray, List.set_cons_succ, List.set_cons_zero]
      refine wpAnyH_takeD (i := 4) (oi := _) (v := .slice a1 XL c1) 20 rfl (by kernel_rfl) (by kernel_rfl) (by kernel_rfl) (by kernel_rfl) (fun _ _ _ h => h) (Or.inl ⟨by kernel_rfl, ?_⟩) (by assumption) ?_
      · intro wq hSw
        obtain ⟨x0, x1, x2⟩ := hSw.2
        go_simp
      simp only [Act.put, List.setIfInBounds_toArray, List.set_cons_succ, List.set_cons_zero]
      refine wpAnyH_takeD (i := 6) (oi := _) (v := .pointer (some ⟨wr.heap.size, 2, none⟩)) 22 rfl (by kernel_rfl) (by kernel_rfl) (by kernel_rfl) (by kernel_rfl) (fun _ _ _ h => h) (Or.inl ⟨by kernel_rfl, ?_⟩) (by assumption) ?_
      · intro wq hSw
        obtain ⟨x0, x1, x2⟩ := hSw.2
        go_simp
      simp only [Act.put, List.setIfInBounds_toArray, List.set_cons_succ, List.set_cons_zero]
      refine wpAnyH_takeD (i := 7) (oi := _) (v := .slice a2 TL c2) 23 rfl (by kernel_rfl) (by kernel_rfl) (by kernel_rfl) (by kernel_rfl) (fun _ _ _ h => h) (Or.inl ⟨by kernel_rfl, ?_⟩) (by assumption) ?_
      · intro wq hSw
        obtain ⟨x0, x1, x2⟩ := hSw.2
        go_simp
      simp only [Act.put, List.setIfInBounds_toArray, List.set_cons_succ, List.set_cons_zero]
      refine wpAnyH_ready (rs := [5]) (by kernel_rfl) (by simp) ?_
      refine AllReadyH.cons rfl (fun K hK => ?_) AllReadyH.nil
      go_simp
      go_wp2_with (go_at_call 40; refine (C1.out _ (BV.drew)).mono ?_; rintro e y1 ⟨d1, rfl, O1, hy1⟩)
      refine hK.out _ _ (⟨hHeld.1.trans (hy1.mono hHeld.1.size), hHeld.2.keep hy1⟩) (fun hHeld => ?_)
      clear hK K
      obtain ⟨ad, gd, cd, rfl, _⟩ := O1.lies
      have hs1 : wr.heap.size < y1.heap.size := Nat.lt_of_lt_of_le hVs hy1.size
      have BY1 : Below wr.heap.size wr y1 := BV.drew.trans (hy1.mono BV.drew.size)
      refine wpAnyH_ready (rs := [8]) (by kernel_rfl) (by simp) ?_
      refine AllReadyH.cons rfl (fun K hK => ?_) AllReadyH.nil
      go_simp
      go_wp2_with (go_at_call 42; refine (C2.out _ BY1).mono ?_; rintro e y2 ⟨q1, ps1, rfl, O2, hy2⟩)
      refine hK.out _ _ (⟨hHeld.1.trans (hy2.mono hHeld.1.size), hHeld.2.keep hy2⟩) (fun hHeld => ?_)
      clear hK K
      obtain ⟨aq, gq, cq, rfl, _⟩ := O2.row.its
      have BY2 : Below wr.heap.size wr y2 := BY1.trans (hy2.mono BY1.size)
      have O1' := (O1.keep hy2).base BV.drew.size
      have O2' : ∃ ps1, Oe wr.heap.size y2 (.slice aq t.ts.length cq) t.ts ps1 := O2.row.oe fun k _ hk => Nat.le_trans BY1.size hk
      clear O1 O2 ps1
      obtain ⟨ps1, O2⟩ := O2'
      rw [HXL.out.1] at O1'
      rw [HXL.out.2] at O2
      rw [HXL.out.1, HXL.out.2]
      refine wpAnyH_takeD (i := 9) (oi := _) (v := .agg #[.bool lt, .slice ad XL cd, .slice aq TL cq]) 25 rfl (by kernel_rfl) (by kernel_rfl) (by kernel_rfl) (by kernel_rfl) (fun _ _ _ h => h) (Or.inl ⟨by kernel_rfl, ?_⟩) (by assumption) ?_
      · intro wq hSw
        obtain ⟨x0, x1, x2⟩ := hSw.2
        go_simp
      simp only [Act.put, List.setIfInBounds_toArray, List.set_cons_succ, List.set_cons_zero]
      refine wpAnyH_ready (rs := [10]) (by kernel_rfl) (by simp) ?_
      refine AllReadyH.cons rfl (fun K hK => ?_) AllReadyH.nil
      go_simp
      have hal := ((Below.refl y2.heap.size y2).alloc (Nat.le_refl _) (.cells #[.bool lt, .slice ad XL cd, .slice aq TL cq] 48))
      refine hK.out _ _ ⟨hHeld.1.trans (hal.mono hHeld.1.size), hHeld.2.keep hal⟩ (fun hHeld => ?_)
      clear hK K
      have hnw : (y2.alloc (.cells #[.bool lt, .slice ad XL cd, .slice aq TL cq] 48)).cell? ⟨y2.heap.size, 0, none⟩ = some (.bool lt) ∧ (y2.alloc (.cells #[.bool lt, .slice ad XL cd, .slice aq TL cq] 48)).cell? ⟨y2.heap.size, 1, none⟩ = some (.slice ad XL cd) ∧ (y2.alloc (.cells #[.bool lt, .slice ad XL cd, .slice aq TL cq] 48)).cell? ⟨y2.heap.size, 2, none⟩ = some (.slice aq TL cq) := ⟨by simp [go_sem], by simp [go_sem], by simp [go_sem]⟩
      have BY3 := BY2.trans (hal.mono BY2.size)
      have hs3 := hal.size
      have hs2 := hy2.size
      have O1a := O1'.keep hal
      have O2a := O2.keep hal
      have OV : World.ownsRow (y2.alloc (.cells #[.bool lt, .slice ad XL cd, .slice aq TL cq] 48)) w.heap.size 48 3 u3 i (itC (ts.take i) ps) := row_kept NX.out.2.2.2 fun k _ hk => BY3.block k hk
      generalize y2.alloc (.cells #[.bool lt, .slice ad XL cd, .slice aq TL cq] 48) = y3 at *
      generalize y2.heap.size = g3 at *
      refine wpAnyH_ready (rs := [11]) (by kernel_rfl) (by simp) ?_
      refine AllReadyH.cons rfl (fun K hK => ?_) AllReadyH.nil
      refine wp_append_it (.tmp 16) (.tmp 26) rfl w.heap.size u3 i (itC (ts.take i) ps) rfl OV g3 1 (.bool lt) (.slice ad XL cd) (.slice aq TL cq) rfl hnw ⟨rfl, rfl, rfl⟩ (by omega) (Nat.le_trans B.size BY3.size) ?_
      intro v' y4 ho hg hv
      have lo : ∀ k, u3.ownBlock = some k → w.heap.size ≤ k ∧ k < wr.heap.size := fun k e => World.ownsRow.lt NX.out.2.2.2 k e
      have hB4 : Below w.heap.size w y4 := ⟨hg.os.trans hHeld.1.os, hg.tape.trans hHeld.1.tape, hg.output.trans hHeld.1.output, Nat.le_trans hHeld.1.size hg.size, fun k hk => (hg.block k (Nat.lt_of_lt_of_le hk hHeld.1.size) fun e => by have := (lo k e.symm).1; omega).trans (hHeld.1.block k hk)⟩
      have hX4 : Bx y4 wr.heap.size lt (.slice a1 XL c1) (.slice a2 TL c2) := by
        have e := hg.block wr.heap.size (Nat.lt_of_lt_of_le hs1 (Nat.le_trans hs2 hs3)) fun e => NX.out.2.2.1 e.symm
        obtain ⟨z0, z1, z2⟩ := hHeld.2
        exact ⟨by rw [World.cell?_of_block e]; exact z0, by rw [World.cell?_of_block e]; exact z1, by rw [World.cell?_of_block e]; exact z2⟩
      have EO := EN.out y4 v' _ _ y3 ps1 BY3 (by have := O1a; exact this) O2a ho hg hv
      refine hK.out _ _ ⟨hB4, hX4⟩ (fun hHeld => ?_)
      clear hK K
      simp only [Act.put, List.setIfInBounds_toArray]
      refine wpAnyH_takeD (i := 12) (oi := _) (v := v') 3 rfl (by kernel_rfl) (by kernel_rfl) (by kernel_rfl) (by kernel_rfl) (fun _ _ _ h => h) (Or.inl ⟨by kernel_rfl, ?_⟩) (by assumption) ?_
      · intro wq hSw
        obtain ⟨x0, x1, x2⟩ := hSw.2
        go_simp
      simp only [Act.put]
      refine wpAnyH_done (by kernel_rfl) ?_ _
      refine H5.out _ _ ?_
      clear H5
      go_wp2_with fail
      go_roundg (ts.length - (i + 1))
      case measure => have := HK.out.1; omega
      case rel => exact ⟨i + 1, _, rfl, hlt, by go_num, EO, hB4⟩
end Go.Proofs.Ytaefmdofchjofaa
