import Derived.Test.YtahekhamhdfkdaaRdH
import Derived.Test.YtahekhamhdfkdaaRwC
import Derived.Test.YtahekhamhdfkdaaRxN
/- Layer 7: Decode's machine. -/
namespace Go.Proofs.Ytahekhamhdfkdaa
open Go.RowKit Go.Sort
theorem Dm.new7 (w0 : World) : Dm w0 (((w0.alloc (.cells #[.bool false, .slice none 0 0, .slice none 0 0] 26)).alloc (.cells #[.bool false, .int .i64 0, .int .i64 0] 67)).alloc (.cells #[.bool false, .slice none 0 0, .slice none 0 0] 26)) := by
  refine ⟨(((Below.refl _ _).alloc (Nat.le_refl _) _).alloc (by simp) _).alloc (by simp; omega) _, by simp, ⟨by simp [go_sem], by simp [go_sem], by simp [go_sem]⟩, fun j hj => ?_, fun j hj => ?_, fun j hj => ?_⟩ <;> (have : j = 0 ∨ j = 1 ∨ j = 2 := by omega) <;> rcases this with rfl | rfl | rfl <;> simp [go_sem]
set_option maxRecDepth 100000 in
set_option maxHeartbeats 8000000 in
/-- Decode, of any bytes. -/
theorem Decode_any {A : List Int} {ba : Option Addr} {b o bc : Nat} (hB : Byts A) (hc : A.length ≤ bc) (hnc : ba = none → bc = 0) (ha : Az ba b o A) (w0 : World) (hz : Bz w0 b o A) :
    Calls Try.prog 10 #[.slice ba A.length bc] w0 fun e w' => ∃ d q, e = .returned (.tuple #[itV (decP A).2 d q, .int .i64 (decP A).1]) ∧ Ot w' (decP A).2 (fun k => w0.heap.size ≤ k) d q ∧ Below w0.heap.size w0 w' := by
  obtain ⟨R, hR⟩ : ∃ R, R = decP A := ⟨_, rfl⟩
  rw [← hR]
  have HC : Hid (Byts A ∧ A.length ≤ bc ∧ (ba = none → bc = 0) ∧ Az ba b o A ∧ Bz w0 b o A ∧ R = decP A) := ⟨hB, hc, hnc, ha, hz, hR⟩
  clear hB hc hnc ha hz hR
  obtain ⟨bn, hbn⟩ : ∃ n, n = A.length := ⟨_, rfl⟩
  have HBN : Hid (bn = A.length) := hbn
  rw [← hbn]
  clear hbn
  go_enter Try.func10, Try.ntmps10
  go_wp2_with fail
  have DW : Hid (Dm w0 (((w0.alloc (.cells #[.bool false, .slice none 0 0, .slice none 0 0] 26)).alloc (.cells #[.bool false, .int .i64 0, .int .i64 0] 67)).alloc (.cells #[.bool false, .slice none 0 0, .slice none 0 0] 26))) := Dm.new7 w0
  by_cases k : 16777216 < bn
  · have k1 : (16777216 : Int) < (bn : Int) := by omega
    have RR : Hid (R = (2, zT)) := by
      show R = _
      rw [HC.out.2.2.2.2.2]
      unfold decP
      rw [if_pos (by rw [← HBN.out]; exact k)]
    refine wp_scope_many (fun n l a W => l = 0 ∧ JD A (.slice ba bn bc) w0 R n 0 a W) ?_ ?_
    · go_wp2_with fail
      go_step3
      exact ⟨0, rfl, 2, _, _, _, _, RR.out, ⟨_, _, _, _, _, _, _, _, _, _, _, _, _, _, _, _, _, _, _, _, _, _, _, _, _, _, _, _, _, _, _, _, _, _, _, _, _, _, _, _, _, _, _, _, _, _, _, _, _, _, _, _, _, _, _, _, _, _, _, _, _, _, _, _, _, _, _, _, _, _, _, _, _, _, _, _, _, _, _, _, _, _, _, _, _, _, _, _, _, _, _, _, _, rfl⟩, DW.out⟩
    · rintro n l a W ⟨rfl, e, sv, inn, pv, qv, h1, ⟨x11, x12, x13, x14, x15, x16, x17, x18, x19, x20, x21, x22, x23, x24, x25, x26, x27, x28, x29, x30, x31, x32, x33, x34, x35, x36, x37, x38, x39, x40, x41, x42, x43, x44, x45, x46, x47, x48, x49, x50, x51, x52, x53, x54, x55, x56, x57, x58, x59, x60, x61, x62, x63, x64, x65, x66, x67, x68, x69, x70, x71, x72, x73, x74, x75, x76, x77, x78, x79, x80, x81, x82, x83, x84, x85, x86, x87, x88, x89, x90, x91, x92, x93, x94, x95, x96, x97, x98, x99, x100, x101, x102, x103, rfl⟩, h3⟩
      exact (dec_brk w0 W h3 h1 x11 x12 x13 x14 x15 x16 x17 x18 x19 x20 x21 x22 x23 x24 x25 x26 x27 x28 x29 x30 x31 x32 x33 x34 x35 x36 x37 x38 x39 x40 x41 x42 x43 x44 x45 x46 x47 x48 x49 x50 x51 x52 x53 x54 x55 x56 x57 x58 x59 x60 x61 x62 x63 x64 x65 x66 x67 x68 x69 x70 x71 x72 x73 x74 x75 x76 x77 x78 x79 x80 x81 x82 x83 x84 x85 x86 x87 x88 x89 x90 x91 x92 x93 x94 x95 x96 x97 x98 x99 x100 x101 x102 x103).rest (by rfl) (by rfl)
  have HA : A.length ≤ 16777216 := by have := HBN.out; omega
  refine wp_scope_many (JD A (.slice ba bn bc) w0 R) ?_ ?_
  · refine wp_mono7 (Q := jumps (fun l a w => ∃ m, m < 4 * A.length + 5 ∧ JD A (.slice ba bn bc) w0 R m l a w) (bodyPost Try.prog Try.f10 (fun e w' => ∃ d q, e = .returned (.tuple #[itV R.2 d q, .int .i64 R.1]) ∧ Ot w' R.2 (fun k => w0.heap.size ≤ k) d q ∧ Below w0.heap.size w0 w'))) ?_ ?_
    · intro e a w h
      cases e <;> first | exact h | (obtain ⟨m, _, h⟩ := h; exact ⟨m, h⟩)
    · have k1 : ¬ (16777216 : Int) < (bn : Int) := by omega
      clear HA
      go_wp2_with fail
      rename_i KK hKK
      go_step3
      refine hKK _ _ ?_
      obtain ⟨z1, z2, z3, z4, z5, z6⟩ := HC.out
      have hb := HBN.out
      refine (dec_beg (p := 0) (q := bn) (L := []) (M := w0.heap.size + 3) w0 (((w0.alloc (.cells #[.bool false, .slice none 0 0, .slice none 0 0] 26)).alloc (.cells #[.bool false, .int .i64 0, .int .i64 0] 67)).alloc (.cells #[.bool false, .slice none 0 0, .slice none 0 0] 26)) hb (by omega) z1 z2 z3 z4 z5 ⟨_, _, _, _, _, _, _, _, _, _, _, _, _, _, _, _, _, _, _, _, _, _, _, _, _, _, _, _, _, _, _, _, _, _, _, _, _, _, _, _, _, _, _, _, _, _, _, _, _, _, _, _, _, _, _, _, _, _, _, _, _, _, _, _, _, _, _, _, _, _, _, _, _, _, _, _, _, _, _, _, _, _, _, _, _, _, _, _, _, _, _, _, _, rfl⟩ DW.out (Stk.nil (by simp)) (Nat.zero_le _) (by rw [WfD]; omega) (fun x hx => by cases hx) (by simp) ?_ ?_).out (by rfl) (by rfl)
      · rw [z6, hb, beg_start (by omega)]
      · simp
  · intro n l a W hJ
    obtain ⟨z1, z2, z3, z4, z5, z6⟩ := HC.out
    have hb := HBN.out
    match l, hJ with
    | 0, hJ =>
      obtain ⟨e, sv, inn, pv, qv, h1, ⟨x11, x12, x13, x14, x15, x16, x17, x18, x19, x20, x21, x22, x23, x24, x25, x26, x27, x28, x29, x30, x31, x32, x33, x34, x35, x36, x37, x38, x39, x40, x41, x42, x43, x44, x45, x46, x47, x48, x49, x50, x51, x52, x53, x54, x55, x56, x57, x58, x59, x60, x61, x62, x63, x64, x65, x66, x67, x68, x69, x70, x71, x72, x73, x74, x75, x76, x77, x78, x79, x80, x81, x82, x83, x84, x85, x86, x87, x88, x89, x90, x91, x92, x93, x94, x95, x96, x97, x98, x99, x100, x101, x102, x103, rfl⟩, h3⟩ := hJ
      exact (dec_brk w0 W h3 h1 x11 x12 x13 x14 x15 x16 x17 x18 x19 x20 x21 x22 x23 x24 x25 x26 x27 x28 x29 x30 x31 x32 x33 x34 x35 x36 x37 x38 x39 x40 x41 x42 x43 x44 x45 x46 x47 x48 x49 x50 x51 x52 x53 x54 x55 x56 x57 x58 x59 x60 x61 x62 x63 x64 x65 x66 x67 x68 x69 x70 x71 x72 x73 x74 x75 x76 x77 x78 x79 x80 x81 x82 x83 x84 x85 x86 x87 x88 x89 x90 x91 x92 x93 x94 x95 x96 x97 x98 x99 x100 x101 x102 x103).rest (by rfl) (by rfl)
    | 1, hJ =>
      obtain ⟨sv, inn, ev, p, q, L, M, h1, h2, h3, h4, h5, h6, h7, h8, h9⟩ := hJ
      exact (dec_beg w0 W hb HA z1 z2 z3 z4 z5 h1 h2 h3 h4 h5 h6 h7 h8 h9).rest (by rfl) (by rfl)
    | 2, hJ =>
      obtain ⟨sv, inn, ev, qv, p, s, h, L, M, h1, h2, h3, h4, h5, h6, h7, h8, h9⟩ := hJ
      exact (dec_dwn w0 W hb HA h1 h2 h3 h4 h5 h6 h7 h8 h9).rest (by rfl) (by rfl)
    | 3, hJ =>
      obtain ⟨sv, inn, ev, qv, d, q, p, t, L, M, h1, h2, h3, h4, h5, h6, h7, h8, h9, h10⟩ := hJ
      exact (dec_end w0 W hb HA h1 h2 h3 h4 h5 h6 h7 h8 h9 h10).rest (by rfl) (by rfl)
    | 4, hJ =>
      obtain ⟨sv, inn, ev, qv, v, p, e, ts, L, M, h1, h2, h3, h4, h5, h6, h7, h8, h9, h10⟩ := hJ
      exact (dec_ins w0 W hb HA h1 h2 h3 h4 h5 h6 h7 h8 h9 h10).rest (by rfl) (by rfl)
    | _ + 5, hJ => exact hJ.elim
end Go.Proofs.Ytahekhamhdfkdaa

/- Layer 7: the law RlpDecodes. -/
namespace Go.Proofs.Ytahekhamhdfkdaa
open Go.RowKit Go.Sort
theorem decP_wt {A : List Int} (hA : Byts A) : wtT (decP A).2 < 67108864 := by
  by_cases e : (decP A).1 = 0
  · have h := decP_inv hA (t := (decP A).2) (Prod.ext e rfl)
    have := h.2.2.2.2.1
    have := h.2.2.2.2.2
    omega
  · have z : (decP A).2 = zT := by
      unfold decP at e ⊢
      split
      · rfl
      · rename_i k; rw [if_neg k] at e
        split
        · rfl
        · rename_i k2; rw [if_neg k2] at e
          split
          · rfl
          · rename_i k3; rw [if_neg k3] at e; exact absurd rfl e
    rw [z]
    show wtT (.mk false [] []) < _
    rw [wtT, wtS]; simp
set_option maxRecDepth 100000 in
set_option maxHeartbeats 4000000 in
theorem decodes_any {A : List Int} {a : Option Addr} {b o c : Nat} (hA : Byts A) (hl : A.length ≤ 140737488355328) (hc : A.length ≤ c) (hnc : a = none → c = 0) (ha : Az a b o A) (w : World) (h : Bz w b o A) :
    Calls Try.prog 3 #[.slice a A.length c] w fun e w' => e = .returned (.bool true) ∧ Below w.heap.size w w' := by
  have RO : Hid (∀ W, Below w.heap.size w W → Calls Try.prog 9 #[.slice a A.length c] W fun e w' => ∃ g, e = .returned (.slice (some ⟨g, 0, none⟩) A.length (A.length + 9)) ∧ W.heap.size ≤ g ∧ Bts w' g (A ++ List.replicate 9 165) ∧ Below W.heap.size W w') := fun W B => roomy7_any ha hl W (h.keep B)
  have DP : Hid (∀ W g, Bz W g 0 A → Calls Try.prog 10 #[.slice (some ⟨g, 0, none⟩) A.length (A.length + 9)] W fun e w' => ∃ d q, e = .returned (.tuple #[itV (decP A).2 d q, .int .i64 (decP A).1]) ∧ Ot w' (decP A).2 (fun k => W.heap.size ≤ k) d q ∧ Below W.heap.size W w') := fun W g hz => Decode_any hA (by omega) (fun x => by cases x) (.inr rfl) W hz
  have DR : Hid (∀ W, Below w.heap.size w W → Calls Try.prog 11 #[.slice a A.length c] W fun e w' => ∃ d q, e = .returned (.tuple #[itV (decP A).2 d q, .int .i64 (decP A).1]) ∧ Ot w' (decP A).2 (fun k => W.heap.size ≤ k) d q ∧ Below W.heap.size W w') := fun W B => rDecode_any hA hc hnc ha W (h.keep B)
  have SM : Hid (∀ W g, Below w.heap.size w W → Bz W g 0 A → Calls Try.prog 14 #[.slice (some ⟨g, 0, none⟩) A.length (A.length + 9), .slice a A.length c] W fun e w' => e = .returned (.bool true) ∧ Below W.heap.size W w') := fun W g B hz => by
    have k := same7_any (c := A.length + 9) (c' := c) (X := A) (Z := A) (by omega) (.inr rfl) ha W hz (h.keep B)
    rw [decide_eq_true rfl] at k
    exact k
  have SD : Hid (∀ W g, Bz W g 0 (A ++ List.replicate 9 165) → Calls Try.prog 15 #[.slice (some ⟨g, 0, none⟩) A.length (A.length + 9)] W fun e w' => e = .returned (.bool true) ∧ Below W.heap.size W w') := fun W g hz => spared7_yes (by omega) (Nat.le_refl _) W (fun i h1 h2 => by
    have := hz i (by simp; omega)
    rw [this]
    have e : (A ++ List.replicate 9 (165 : Int)).getD i 0 = 165 := by
      rw [List.getD, List.getElem?_append_right h1, List.getElem?_replicate, if_pos (by omega)]; rfl
    rw [e])
  have BZ : Hid (∀ (W : World) g, Bz W g 0 (A ++ List.replicate 9 165) → Bz W g 0 A) := fun W g hz i hi => by
    have := hz i (by simp; omega)
    rw [this]
    have e : (A ++ List.replicate 9 (165 : Int)).getD i 0 = A.getD i 0 := by
      rw [List.getD, List.getElem?_append_left hi]; rfl
    rw [e]
  have NU : Hid (∀ v w, Calls Try.prog 12 #[.int .i64 v] w fun e w' => e = .returned (.int .i64 v) ∧ Below w.heap.size w w') := fun v w => lnum7_any v w
  have wt := decP_wt hA
  have SA : Hid (∀ W d q d' q', It W (decP A).2 d q → It W (decP A).2 d' q' → Calls Try.prog 13 #[itV (decP A).2 d q, itV (decP A).2 d' q'] W fun e w' => e = .returned (.bool true) ∧ Below W.heap.size W w') := fun W d q d' q' h1 h2 => by
    have r := rSame_any _ _ wt W h1 h2
    rwa [eqT_yes rfl] at r
  clear hA hl hc ha h hnc wt
  generalize decP A = dp at *
  generalize A.length = m at *
  obtain ⟨de, t⟩ := dp
  unfold itV at DP DR SA
  generalize hlt : t.l = lt at *
  clear hlt
  go_enter Try.func3, Try.ntmps3
  go_wp2_with fail
  with_reducible refine (RO.out w (Below.refl _ _)).mono ?_
  rintro e w1 ⟨g, rfl, hg, hz9, B⟩
  have G9 : Hid (∀ W, Below w1.heap.size w1 W → Below w.heap.size w W ∧ Bz W g 0 (A ++ List.replicate 9 165)) := fun W b => ⟨B.trans (b.mono B.size), hz9.bz.keep b⟩
  clear hz9 B RO hg
  have B : Below w1.heap.size w1 w1 := Below.refl _ _
  go_wp2_with fail
  with_reducible refine (DP.out w1 g (BZ.out _ _ (G9.out w1 B).2)).mono ?_
  rintro e w2 ⟨d, q, rfl, O1, hb⟩
  replace B := B.trans (hb.mono B.size)
  clear hb
  obtain ⟨da, dn, dc, qa, qn, qc, rfl, rfl⟩ := (Ot.it _ O1).slices
  go_wp2_with fail
  refine calls_world (fun V => Below w1.heap.size w1 V ∧ Bx V w2.heap.size lt (.slice da dn dc) (.slice qa qn qc) ∧ It V t (.slice da dn dc) (.slice qa qn qc)) ⟨B.alloc B.size _, Bx.new, It.keep ((Below.refl _ _).alloc (Nat.le_refl _) _) _ (Ot.it _ O1)⟩ ?_
  rintro V2 ⟨B2, X2, I2⟩
  generalize w2.heap.size = b2 at *
  clear B O1 w2
  with_reducible refine (DR.out V2 (G9.out V2 B2).1).mono ?_
  rintro e w3 ⟨d', q', rfl, O3, hb⟩
  replace B2 := B2.trans (hb.mono B2.size)
  replace X2 := X2.keep hb
  replace I2 := It.keep hb _ I2
  clear hb
  obtain ⟨da', dn', dc', qa', qn', qc', rfl, rfl⟩ := (Ot.it _ O3).slices
  go_wp2_with fail
  have l2 := X2.lt
  refine calls_world (fun V => Below w1.heap.size w1 V ∧ Bx V b2 lt (.slice da dn dc) (.slice qa qn qc) ∧ It V t (.slice da dn dc) (.slice qa qn qc) ∧ Bx V w3.heap.size lt (.slice da' dn' dc') (.slice qa' qn' qc') ∧ It V t (.slice da' dn' dc') (.slice qa' qn' qc')) ⟨B2.alloc B2.size _, X2.keep ((Below.refl _ _).alloc (Nat.le_refl _) _), It.keep ((Below.refl _ _).alloc (Nat.le_refl _) _) _ I2, Bx.new, It.keep ((Below.refl _ _).alloc (Nat.le_refl _) _) _ (Ot.it _ O3)⟩ ?_
  clear X2 I2
  rintro V3 ⟨B3, X2, I2, X3, I3⟩
  generalize w3.heap.size = b3 at *
  clear B2 O3 w3
  with_reducible refine (NU.out _ V3).mono ?_
  rintro e w4 ⟨rfl, hb⟩
  replace B3 := B3.trans (hb.mono B3.size)
  replace X2 := X2.keep hb; replace X3 := X3.keep hb
  replace I2 := It.keep hb _ I2; replace I3 := It.keep hb _ I3
  clear hb
  obtain ⟨x0, x1, x2⟩ := X2
  obtain ⟨y0, y1, y2⟩ := X3
  go_wp2_with fail
  with_reducible refine (SA.out w4 _ _ _ _ I2 I3).mono ?_
  rintro e w5 ⟨rfl, hb⟩
  replace B3 := B3.trans (hb.mono B3.size)
  clear hb I2 I3 x0 x1 x2 y0 y1 y2
  go_wp2_with fail
  with_reducible refine (SM.out w5 g (G9.out w5 B3).1 (BZ.out _ _ (G9.out w5 B3).2)).mono ?_
  rintro e w11 ⟨rfl, hb⟩
  replace B3 := B3.trans (hb.mono B3.size)
  clear hb
  go_wp2_with fail
  with_reducible refine (SD.out w11 g (G9.out w11 B3).2).mono ?_
  rintro e w12 ⟨rfl, hb⟩
  replace B3 := B3.trans (hb.mono B3.size)
  have BF := (G9.out w12 B3).1
  go_wp2
  simp [bodyPost, results, Try.results3, go_sem]
  exact BF
end Go.Proofs.Ytahekhamhdfkdaa
