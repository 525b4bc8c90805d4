import Derived.Test.YtahekhamhdfkdaaRdI
/- Layer 7: the law RlpStrict. -/
namespace Go.Proofs.Ytahekhamhdfkdaa
open Go.RowKit Go.Sort
theorem enc_zT : encT zT = [128] := by
  show encT (.mk false [] []) = _
  rw [encT]; rfl
theorem dec_80 : decP [128] = (0, zT) := by
  rw [← enc_zT]
  exact decP_enc (by show oddT (.mk false [] []) = false; rw [oddT, oddS]; rfl) (by show dpT (.mk false [] []) ≤ 1024; rw [dpT]; decide) (by rw [enc_zT]; decide)
theorem decP_zero {A : List Int} (e : (decP A).1 ≠ 0) : (decP A).2 = zT := by
  unfold decP at e ⊢
  split
  · rfl
  · rename_i k; rw [if_neg k] at e
    split
    · rfl
    · rename_i k2; rw [if_neg k2] at e
      split
      · rfl
      · rename_i k3; rw [if_neg k3] at e; exact absurd rfl e
theorem it_zT (W : World) : It W zT (.slice none 0 0) (.slice none 0 0) := Ot.it zT (S := fun _ => True) (Ot.mk (OwnB.nil _ _) (fun j x => by cases x) (Orow.nil _ _))
theorem byts_set {X : List Int} (h : Byts X) (i : Nat) {v : Int} (h0 : 0 ≤ v) (h1 : v < 256) : Byts (X.set i v) := fun j => by
  have := h j
  by_cases k : i = j
  · subst k
    by_cases hl : i < X.length
    · simp [List.getD, hl]; exact ⟨h0, h1⟩
    · simp [List.getD, hl]
  · simpa [List.getD, List.getElem?_set_ne k] using this
set_option maxRecDepth 100000 in
set_option maxHeartbeats 4000000 in
/-- Bytes that are refused. -/
theorem strict_bad {A : List Int} {a : Option Addr} {b o c : Nat} {n by1 : Int} (hA : Byts A) (hc : A.length ≤ c) (hnc : a = none → c = 0) (ha : Az a b o A) (w : World) (h : Bz w b o A) (hd : (decP A).1 ≠ 0) :
    Calls Try.prog 5 #[.slice a A.length c, .int .i64 n, .int .u8 by1] w fun e w' => e = .returned (.bool true) ∧ Below w.heap.size w w' := by
  have DZ : Hid (∀ W g, W.cell? ⟨g, 0, none⟩ = some (.int .u8 128) → Calls Try.prog 10 #[.slice (some ⟨g, 0, none⟩) 1 1] W fun e w' => ∃ d q, e = .returned (.tuple #[.agg #[.bool false, d, q], .int .i64 0]) ∧ It w' zT d q ∧ Below W.heap.size W w') := fun W g hc => by
    have r := Decode_any (A := [128]) (ba := some ⟨g, 0, none⟩) (b := g) (o := 0) (bc := 1) (fun i => by match i with | 0 => simp | i + 1 => simp) (by simp) (fun x => by cases x) (.inr rfl) W (fun i hi => by
      have : i = 0 := by simpa using hi
      subst this; exact hc)
    rw [dec_80] at r
    exact r.mono fun e w' ⟨d, q, h1, h2, h3⟩ => ⟨d, q, h1, Ot.it _ h2, h3⟩
  have SZ : Hid (∀ W d q, It W zT d q → Calls Try.prog 13 #[.agg #[.bool false, d, q], .agg #[.bool false, .slice none 0 0, .slice none 0 0]] W fun e w' => e = .returned (.bool true) ∧ Below W.heap.size W w') := fun W d q h1 => by
    have r := rSame_any zT zT (by show wtT (.mk false [] []) < _; rw [wtT, wtS]; decide) W h1 (it_zT W)
    rwa [eqT_yes rfl] at r
  have DA : Hid (∀ W, Below w.heap.size w W → Calls Try.prog 10 #[.slice a A.length c] W fun e w' => ∃ d q, e = .returned (.tuple #[itV (decP A).2 d q, .int .i64 (decP A).1]) ∧ It w' (decP A).2 d q ∧ Below W.heap.size W w') := fun W B => (Decode_any hA hc hnc ha W (h.keep B)).mono fun e w' ⟨d, q, h1, h2, h3⟩ => ⟨d, q, h1, Ot.it _ h2, h3⟩
  rw [decP_zero hd] at DA
  unfold itV at DA
  rw [show zT.l = false from rfl] at DA
  generalize (decP A).1 = de at *
  have b6 : (de == 0) = false := beq_false_of_ne hd
  have b7 : (de != 0) = true := bne_iff_ne.2 hd
  clear hA hc hnc ha h
  generalize A.length = m at *
  go_enter Try.func5, Try.ntmps5
  go_wp2_with fail
  with_reducible refine (DZ.out _ w.heap.size (by simp [go_sem])).mono ?_
  rintro e w1 ⟨d, q, rfl, I1, hb⟩
  have B : Below w.heap.size w w1 := ((Below.refl _ _).alloc (Nat.le_refl _) _).trans (hb.mono (by simp))
  clear hb
  obtain ⟨da, dn, dc, qa, qn, qc, rfl, rfl⟩ := I1.slices
  go_wp2_with fail
  refine calls_world (fun V => Below w.heap.size w V ∧ It V zT (.slice da dn dc) (.slice qa qn qc)) ⟨B.alloc B.size _, It.keep ((Below.refl _ _).alloc (Nat.le_refl _) _) _ I1⟩ ?_
  clear B I1
  rintro V1 ⟨B, I1⟩
  generalize w1.heap.size = gb1 at *
  clear w1
  with_reducible refine (SZ.out V1 _ _ I1).mono ?_
  rintro e w2 ⟨rfl, hb⟩
  replace B := B.trans (hb.mono B.size)
  clear hb I1 V1
  go_wp2_with fail
  with_reducible refine (DA.out w2 B).mono ?_
  rintro e w3 ⟨d, q, rfl, I3, hb⟩
  replace B := B.trans (hb.mono B.size)
  clear hb DA
  obtain ⟨ea, en, ec, fa, fn, fc, rfl, rfl⟩ := I3.slices
  go_wp2_with fail
  refine calls_world (fun V => Below w.heap.size w V ∧ It V zT (.slice ea en ec) (.slice fa fn fc)) ⟨B.alloc B.size _, It.keep ((Below.refl _ _).alloc (Nat.le_refl _) _) _ I3⟩ ?_
  clear B I3
  rintro V3 ⟨B, I3⟩
  with_reducible refine (SZ.out V3 _ _ I3).mono ?_
  rintro e w4 ⟨rfl, hb⟩
  replace B := B.trans (hb.mono B.size)
  go_wp2
  simp [bodyPost, results, Try.results5, go_sem]
  exact B
set_option maxRecDepth 100000 in
set_option maxHeartbeats 4000000 in
/-- Bytes that are taken. -/
theorem strict_good {A : List Int} {a : Option Addr} {b o c : Nat} {n by1 : Int} (hA : Byts A) (hl : A.length ≤ 1048576) (hc : A.length ≤ c) (hnc : a = none → c = 0) (ha : Az a b o A) (h0 : 0 ≤ by1) (h1 : by1 < 256) (w : World) (h : Bz w b o A) (hd : (decP A).1 = 0) :
    Calls Try.prog 5 #[.slice a A.length c, .int .i64 n, .int .u8 by1] w fun e w' => e = .returned (.bool true) ∧ Below w.heap.size w w' := by
  have DZ : Hid (∀ W g, W.cell? ⟨g, 0, none⟩ = some (.int .u8 128) → Calls Try.prog 10 #[.slice (some ⟨g, 0, none⟩) 1 1] W fun e w' => ∃ d q, e = .returned (.tuple #[.agg #[.bool false, d, q], .int .i64 0]) ∧ It w' zT d q ∧ Below W.heap.size W w') := fun W g hc => by
    have r := Decode_any (A := [128]) (ba := some ⟨g, 0, none⟩) (b := g) (o := 0) (bc := 1) (fun i => by match i with | 0 => simp | i + 1 => simp) (by simp) (fun x => by cases x) (.inr rfl) W (fun i hi => by
      have : i = 0 := by simpa using hi
      subst this; exact hc)
    rw [dec_80] at r
    exact r.mono fun e w' ⟨d, q, h1, h2, h3⟩ => ⟨d, q, h1, Ot.it _ h2, h3⟩
  have SZ : Hid (∀ W d q, It W zT d q → Calls Try.prog 13 #[.agg #[.bool false, d, q], .agg #[.bool false, .slice none 0 0, .slice none 0 0]] W fun e w' => e = .returned (.bool true) ∧ Below W.heap.size W w') := fun W d q h1 => by
    have r := rSame_any zT zT (by show wtT (.mk false [] []) < _; rw [wtT, wtS]; decide) W h1 (it_zT W)
    rwa [eqT_yes rfl] at r
  have DA : Hid (∀ W, Below w.heap.size w W → Calls Try.prog 10 #[.slice a A.length c] W fun e w' => ∃ d q, e = .returned (.tuple #[itV (decP A).2 d q, .int .i64 (decP A).1]) ∧ It w' (decP A).2 d q ∧ Below W.heap.size W w') := fun W B => (Decode_any hA hc hnc ha W (h.keep B)).mono fun e w' ⟨d, q, h1, h2, h3⟩ => ⟨d, q, h1, Ot.it _ h2, h3⟩
  have RO : Hid (∀ W, Below w.heap.size w W → Calls Try.prog 9 #[.slice a A.length c] W fun e w' => ∃ g, e = .returned (.slice (some ⟨g, 0, none⟩) A.length (A.length + 9)) ∧ W.heap.size ≤ g ∧ Bts w' g (A ++ List.replicate 9 165) ∧ Below W.heap.size W w') := fun W B => roomy7_any ha (by omega) W (h.keep B)
  have BZ : Hid (∀ (W : World) g, Bz W g 0 (A ++ List.replicate 9 165) → Bz W g 0 A) := fun W g hz i hi => by
    have := hz i (by simp; omega)
    rw [this]
    have e : (A ++ List.replicate 9 (165 : Int)).getD i 0 = A.getD i 0 := by
      rw [List.getD, List.getElem?_append_left hi]; rfl
    rw [e]
  obtain ⟨i1, i2, i3, i4, i5, i6⟩ := decP_inv hA (t := (decP A).2) (Prod.ext hd rfl)
  have er : errT (decP A).2 = 0 := by unfold errT; rw [i2, if_neg (by decide), if_neg (by omega)]
  have wt : wtT (decP A).2 < 4194304 := by omega
  have TW : Hid (∀ W d q, It W (decP A).2 d q → Calls Try.prog 18 #[itV (decP A).2 d q] W fun e w' => ∃ d' q', e = .returned (itV (decP A).2 d' q') ∧ It w' (decP A).2 d' q' ∧ Below W.heap.size W w') := fun W d q hI => (twin_any wt W hI).mono fun e w' ⟨d', q', h1, h2, h3⟩ => ⟨d', q', h1, Ot.it _ h2, h3⟩
  have EN : Hid (∀ W d q, It W (decP A).2 d q → Calls Try.prog 17 #[itV (decP A).2 d q] W fun e w' => ∃ v, e = .returned (.tuple #[v, .int .i64 0]) ∧ OwnB W.heap.size w' v A ∧ Below W.heap.size W w') := fun W d q hI => by
    have r := Encode_any wt W hI
    rw [encZ, er, if_pos rfl, i1] at r
    exact r
  have CK : Hid (∀ W d q, It W (decP A).2 d q → Calls Try.prog 21 #[itV (decP A).2 d q] W fun e w' => e = .returned (.int .i64 0) ∧ Below W.heap.size W w') := fun W d q hI => by
    have r := Check_any wt W hI
    rw [er] at r
    exact r
  have SM : Hid (∀ W v B, Below w.heap.size w W → OwnB B W v A → Calls Try.prog 14 #[.slice a A.length c, v] W fun e w' => e = .returned (.bool true) ∧ Below W.heap.size W w') := fun W v B bw ho => by
    obtain ⟨a2, g2, p2, c2, rfl, _, z2, _, y2⟩ := ho.tz
    have k := same7_any (c := c) (c' := c2) (X := A) (Z := A) (by omega) ha z2 W (h.keep bw) y2
    rw [decide_eq_true rfl] at k
    exact k
  have SB : Hid (∀ n0 : Nat, (n : Int) = n0 → n0 < A.length → by1 ≠ 0 → ∀ A', A' = A.set n0 ((A.getD n0 0 + by1) % 256) → (∀ W g, Bz W g 0 A' → Calls Try.prog 10 #[.slice (some ⟨g, 0, none⟩) A.length (A.length + 9)] W fun e w' => ∃ d q, e = .returned (.tuple #[.agg #[.bool (decP A').2.l, d, q], .int .i64 (decP A').1]) ∧ It w' (decP A').2 d q ∧ Below W.heap.size W w') ∧ ((decP A').1 = 0 → ∀ W d q d' q', It W (decP A').2 d q → It W (decP A).2 d' q' → Calls Try.prog 13 #[.agg #[.bool (decP A').2.l, d, q], .agg #[.bool (decP A).2.l, d', q']] W fun e w' => e = .returned (.bool false) ∧ Below W.heap.size W w')) := fun n0 e0 hn hb A' eA => by
    have l2 : A'.length = A.length := by rw [eA, List.length_set]
    have y := hA n0
    have hA' : Byts A' := by rw [eA]; exact byts_set hA _ (by omega) (by omega)
    refine ⟨fun W g hz => ?_, fun e2 W d q d' q' h1 h2 => ?_⟩
    · have r := Decode_any (A := A') (ba := some ⟨g, 0, none⟩) (bc := A.length + 9) hA' (by omega) (fun x => by cases x) (.inr rfl) W hz
      rw [l2] at r
      exact r.mono fun e w' ⟨d, q, h1, h2, h3⟩ => ⟨d, q, h1, Ot.it _ h2, h3⟩
    · have r := rSame_any _ _ (decP_wt hA') W h1 h2
      rw [eqT_no (fun x => by
        obtain ⟨k1, _⟩ := decP_inv hA' (t := (decP A').2) (Prod.ext e2 rfl)
        rw [x, i1] at k1
        have : A.getD n0 0 = A'.getD n0 0 := by rw [← k1]
        rw [eA] at this
        simp [List.getD, hn] at this
        simp [List.getD, hn] at y
        omega)] at r
      exact r
  have HBY : Hid (Byts A) := hA
  clear i1 i2 i3 i4 i5 i6 er wt hA hc hnc h
  rw [hd] at DA
  clear hd
  generalize hlen : A.length = m at *
  have HLEN : Hid (A.length = m) := hlen
  clear hlen
  generalize decP A = dp at *
  obtain ⟨de, t⟩ := dp
  unfold itV at DA TW EN CK
  simp only at DA TW EN CK SB
  generalize hlt : t.l = lt at *
  clear hlt
  go_enter Try.func5, Try.ntmps5
  go_wp2_with fail
  with_reducible refine (DZ.out _ w.heap.size (by simp [go_sem])).mono ?_
  rintro e w1 ⟨d, q, rfl, I1, hb⟩
  have B : Below w.heap.size w w1 := ((Below.refl _ _).alloc (Nat.le_refl _) _).trans (hb.mono (by simp))
  clear hb
  obtain ⟨da, dn, dc, qa, qn, qc, rfl, rfl⟩ := I1.slices
  go_wp2_with fail
  refine calls_world (fun V => Below w.heap.size w V ∧ It V zT (.slice da dn dc) (.slice qa qn qc)) ⟨B.alloc B.size _, It.keep ((Below.refl _ _).alloc (Nat.le_refl _) _) _ I1⟩ ?_
  clear B I1
  rintro V1 ⟨B, I1⟩
  generalize w1.heap.size = gb1 at *
  clear w1
  with_reducible refine (SZ.out V1 _ _ I1).mono ?_
  rintro e w2 ⟨rfl, hb⟩
  replace B := B.trans (hb.mono B.size)
  clear hb I1 V1
  go_wp2_with fail
  with_reducible refine (DA.out w2 B).mono ?_
  rintro e w3 ⟨d, q, rfl, I3, hb⟩
  replace B := B.trans (hb.mono B.size)
  clear hb DA
  obtain ⟨ea, en, ec, fa, fn, fc, rfl, rfl⟩ := I3.slices
  go_wp2_with fail
  refine calls_world (fun V => Below w.heap.size w V ∧ It V t (.slice ea en ec) (.slice fa fn fc) ∧ Bx V w3.heap.size lt (.slice ea en ec) (.slice fa fn fc)) ⟨B.alloc B.size _, It.keep ((Below.refl _ _).alloc (Nat.le_refl _) _) _ I3, Bx.new⟩ ?_
  clear B I3
  rintro V3 ⟨B, I3, X3⟩
  generalize w3.heap.size = b3 at *
  clear w3
  with_reducible refine (TW.out V3 _ _ I3).mono ?_
  rintro e w4 ⟨d4, q4, rfl, I4, hb⟩
  replace B := B.trans (hb.mono B.size)
  replace X3 := X3.keep hb
  replace I3 := It.keep hb _ I3
  clear hb
  go_wp2_with fail
  with_reducible refine (EN.out w4 _ _ I4).mono ?_
  rintro e w5 ⟨v5, rfl, O5, hb⟩
  replace B := B.trans (hb.mono B.size)
  replace X3 := X3.keep hb
  replace I3 := It.keep hb _ I3
  clear hb I4
  go_wp2_with fail
  with_reducible refine (SM.out w5 v5 _ B O5).mono ?_
  rintro e w6 ⟨rfl, hb⟩
  replace B := B.trans (hb.mono B.size)
  replace X3 := X3.keep hb
  replace I3 := It.keep hb _ I3
  clear hb
  obtain ⟨x0, x1, x2⟩ := X3
  go_wp2_with fail
  have X3 : Bx w6 b3 lt (.slice ea en ec) (.slice fa fn fc) := ⟨x0, x1, x2⟩
  clear x0 x1 x2
  with_reducible refine (TW.out w6 _ _ I3).mono ?_
  rintro e w7 ⟨d7, q7, rfl, I7, hb⟩
  replace B := B.trans (hb.mono B.size)
  replace X3 := X3.keep hb
  replace I3 := It.keep hb _ I3
  clear hb
  go_wp2_with fail
  with_reducible refine (CK.out w7 _ _ I7).mono ?_
  rintro e w8 ⟨rfl, hb⟩
  replace B := B.trans (hb.mono B.size)
  replace X3 := X3.keep hb
  replace I3 := It.keep hb _ I3
  clear hb
  by_cases k1 : n < 0
  · have b1 : decide (n < 0) = true := decide_eq_true k1
    go_wp2
    simp [bodyPost, results, Try.results5, go_sem]
    exact B
  by_cases k2 : (m : Int) ≤ n
  · have b1 : decide (n < 0) = false := decide_eq_false k1
    have b2 : decide ((m : Int) ≤ n) = true := decide_eq_true k2
    go_wp2
    simp [bodyPost, results, Try.results5, go_sem]
    exact B
  by_cases k3 : by1 = 0
  · have b1 : decide (n < 0) = false := decide_eq_false k1
    have b2 : decide ((m : Int) ≤ n) = false := decide_eq_false k2
    subst k3
    go_wp2
    simp [bodyPost, results, Try.results5, go_sem]
    exact B
  obtain ⟨n0, rfl⟩ : ∃ n0 : Nat, n = (n0 : Int) := ⟨n.toNat, by omega⟩
  have k4 : n0 < m := by omega
  obtain ⟨A', eA⟩ : ∃ A', A' = A.set n0 ((A.getD n0 0 + by1) % 256) := ⟨_, rfl⟩
  obtain ⟨DB, SF⟩ := SB.out n0 rfl k4 k3 A' eA
  have y0 := ha
  have HDB : Hid (∀ W g, Bz W g 0 A' → Calls Try.prog 10 #[.slice (some ⟨g, 0, none⟩) m (m + 9)] W fun e w' => ∃ d q, e = .returned (.tuple #[.agg #[.bool (decP A').2.l, d, q], .int .i64 (decP A').1]) ∧ It w' (decP A').2 d q ∧ Below W.heap.size W w') := DB
  have HSF : Hid ((decP A').1 = 0 → ∀ W d q d' q', It W (decP A').2 d q → It W t d' q' → Calls Try.prog 13 #[.agg #[.bool (decP A').2.l, d, q], .agg #[.bool lt, d', q']] W fun e w' => e = .returned (.bool false) ∧ Below W.heap.size W w') := SF
  clear DB SF SB
  generalize decP A' = dp2 at *
  obtain ⟨e2, t2⟩ := dp2
  simp only at HDB HSF
  generalize hlt2 : t2.l = lt2 at *
  clear hlt2
  have b1 : decide ((n0 : Int) < 0) = false := decide_eq_false (by omega)
  have b2 : decide ((m : Int) ≤ (n0 : Int)) = false := decide_eq_false k2
  have b3' : (by1 == 0) = false := beq_false_of_ne k3
  have k5 : (n0 : Int) < (m : Int) := by omega
  clear k1 k2
  go_wp2_with fail
  have l8 := X3.lt
  have B8 := B
  with_reducible refine (RO.out w8 B).mono ?_
  rintro e w9 ⟨g, rfl, hg, hz9, hb⟩
  have gb : g ≠ b3 := by omega
  have IB : Hid (∀ v, It (w9.setCell ⟨g, n0, none⟩ v) t (.slice ea en ec) (.slice fa fn fc)) := fun v => It.keep (hb.setCell hg v) _ I3
  replace B := B.trans (hb.mono B.size)
  replace X3 := X3.keep hb
  clear hb I3
  have gw : w.heap.size ≤ g := by have := B8.size; omega
  have ml := HLEN.out
  have cg : w9.cell? ⟨g, n0, none⟩ = some (.int .u8 (A.getD n0 0)) := by
    have := hz9.bz n0 (by rw [List.length_append]; omega)
    rw [Nat.zero_add] at this
    rw [this, List.getD, List.getElem?_append_left (by omega)]; rfl
  have fg : w9.frozen? ⟨g, n0, none⟩ = false := hz9.2 n0 (by rw [List.length_append]; omega)
  have BA : Hid (∀ u, u = (A.getD n0 0 + by1) % 256 → Bz (w9.setCell ⟨g, n0, none⟩ (.int .u8 u)) g 0 A') := fun u hu i hi => by
    rw [Nat.zero_add]
    have hi2 : i < A.length := by rw [eA, List.length_set] at hi; exact hi
    by_cases k : i = n0
    · subst k
      rw [eA, ← hu]
      simp [go_sem, cg, List.getD, hi2]
    · have c := hz9.bz i (by rw [List.length_append]; omega)
      rw [Nat.zero_add] at c
      have : (w9.setCell ⟨g, n0, none⟩ (.int .u8 u)).cell? ⟨g, i, none⟩ = w9.cell? ⟨g, i, none⟩ := by
        simp [go_sem]
      rw [this, c, eA]
      simp [List.getD, List.getElem?_append_left hi2, show n0 ≠ i from fun e => k e.symm]
  have yb : 0 ≤ A.getD n0 0 ∧ A.getD n0 0 < 256 := HBY.out n0
  clear hz9 eA ml
  generalize A.getD n0 0 = y at *
  have yb1 := yb.1
  have yb2 := yb.2
  clear yb
  go_wp2_with fail
  refine calls_world (fun V => Below w.heap.size w V ∧ Bx V b3 lt (.slice ea en ec) (.slice fa fn fc) ∧ It V t (.slice ea en ec) (.slice fa fn fc) ∧ Bz V g 0 A') ⟨B.setCell gw _, X3.grown (grown_set _ _ _) (fun x => gb (Option.some.inj x)), IB.out _, BA.out _ rfl⟩ ?_
  clear B X3 IB BA cg fg
  rintro V9 ⟨B, X3, I3, Z9⟩
  with_reducible refine (HDB.out V9 g Z9).mono ?_
  rintro e w10 ⟨d2, q2, rfl, I2, hb⟩
  replace B := B.trans (hb.mono B.size)
  replace X3 := X3.keep hb
  replace I3 := It.keep hb _ I3
  clear hb Z9
  obtain ⟨ga, gn, gc, ha', hn', hc', rfl, rfl⟩ := I2.slices
  by_cases k6 : e2 = 0
  · subst k6
    have l3 := X3.lt
    have SF := HSF.out rfl
    have HS2 : Hid (∀ W d q d' q', It W t2 d q → It W t d' q' → Calls Try.prog 13 #[.agg #[.bool lt2, d, q], .agg #[.bool lt, d', q']] W fun e w' => e = .returned (.bool false) ∧ Below W.heap.size W w') := SF
    clear SF HSF
    obtain ⟨x0, x1, x2⟩ := X3
    go_wp2_with fail
    refine calls_world (fun V => Below w.heap.size w V ∧ It V t (.slice ea en ec) (.slice fa fn fc) ∧ It V t2 (.slice ga gn gc) (.slice ha' hn' hc')) ⟨B.alloc B.size _, It.keep ((Below.refl _ _).alloc (Nat.le_refl _) _) _ I3, It.keep ((Below.refl _ _).alloc (Nat.le_refl _) _) _ I2⟩ ?_
    clear B I3 I2 x0 x1 x2
    rintro V10 ⟨B, I3, I2⟩
    with_reducible refine (HS2.out V10 _ _ _ _ I2 I3).mono ?_
    rintro e w11 ⟨rfl, hb⟩
    replace B := B.trans (hb.mono B.size)
    go_wp2
    simp [bodyPost, results, Try.results5, go_sem]
    exact B
  · have c6 : (e2 == 0) = false := beq_false_of_ne k6
    have c7 : (e2 != 0) = true := bne_iff_ne.2 k6
    go_wp2
    simp [bodyPost, results, Try.results5, go_sem]
    exact B.alloc B.size _
theorem strict_any {A : List Int} {a : Option Addr} {b o c : Nat} {n by1 : Int} (hA : Byts A) (hl : A.length ≤ 1048576) (hc : A.length ≤ c) (hnc : a = none → c = 0) (ha : Az a b o A) (h0 : 0 ≤ by1) (h1 : by1 < 256) (w : World) (h : Bz w b o A) :
    Calls Try.prog 5 #[.slice a A.length c, .int .i64 n, .int .u8 by1] w fun e w' => e = .returned (.bool true) ∧ Below w.heap.size w w' := by
  by_cases k : (decP A).1 = 0
  · exact strict_good hA hl hc hnc ha h0 h1 w h k
  · exact strict_bad hA hc hnc ha w h k
end Go.Proofs.Ytahekhamhdfkdaa
