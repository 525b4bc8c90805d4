import Derived.Test.YtidchaaahgnabaaDoorHyK
import Derived.Test.YtidchaaahgnabaaDoorHxV
import Derived.Test.YtidchaaahgnabaaDoorHxRd
/- Layer 8: the law HexaWrites. -/
namespace Go.Proofs.YtidchaaahgnabaaDoor
open Go.RowKit Go.Sort
theorem data_both {X : List Int} (hX : ∀ i, 0 ≤ X.getD i 0 ∧ X.getD i 0 < 256) : ∃ (sx : ByteArray) (ex : Int),
    (∀ W a g o c, Az a g o X → Bz W g o X → Calls Tryd.prog 13 #[.slice a X.length c] W fun e w' => e = .returned (.tuple #[.string sx, .int .i64 ex]) ∧ Below W.heap.size W w') ∧
    (∀ W a g o c, Az a g o X → Bz W g o X → Calls Tryd.prog 14 #[.slice a X.length c] W fun e w' => e = .returned (.tuple #[.string sx, .int .i64 ex]) ∧ Below W.heap.size W w') := by
  by_cases k : X.length ≤ 16777216
  · exact ⟨_, _, fun W a g o c h1 h2 => hdata_any rfl k hX (fun h => h1.cons (by omega)) W h2, fun W a g o c h1 h2 => rdata_any k hX h1 W h2⟩
  · exact ⟨_, _, fun W a g o c _ _ => hdata_long (by omega) W, fun W a g o c _ _ => rdata_long (by omega) W⟩
theorem Qd.below {n b : Nat} {W W' : World} {C : List Int} (h : Qd W b C) (hb : Below n W W') (lt : b < n) : Qd W' b C := fun j hj => by
  have e := hb.block b lt
  obtain ⟨c, f⟩ := h j hj
  exact ⟨by rw [World.cell?_of_block (w := W) (a := ⟨b, j, none⟩) e]; exact c, by simp only [World.frozen?, e] at f ⊢; exact f⟩
theorem range_below {n b : Nat} {W W' : World} {M : List Value} (h : W.rangeAt b 0 M) (hb : Below n W W') (lt : b < n) : W'.rangeAt b 0 M := fun j v hv => by
  rw [World.cell?_of_block (w := W) (a := ⟨b, 0 + j, none⟩) (hb.block b lt)]; exact h j v hv
set_option maxRecDepth 100000 in
set_option maxHeartbeats 16000000 in
theorem hwrites_any {a : Option Addr} {bb ob c : Nat} {X A H : List Int} {n u : Int} (hl : X.length ≤ 140737488351232) (hX : ∀ i, 0 ≤ X.getD i 0 ∧ X.getD i 0 < 256) (ha : Az a bb ob X) (hn : Num n) (hu : Word u) (lA : A.length = 20) (hA : ∀ i, 0 ≤ A.getD i 0 ∧ A.getD i 0 < 256) (lH : H.length = 32) (hH : ∀ i, 0 ≤ H.getD i 0 ∧ H.getD i 0 < 256) (w : World) (hz : Bz w bb ob X) (tb1 : Tab w 4 turnsN) (tb2 : Lns w 2 marksN) (tb3 : Tab w 3 turnsN) (tb4 : Lns w 0 marksN) :
    Calls Tryd.prog 4 #[.slice a X.length c, .agg #[.int .u64 (l0 n), .int .u64 (l1 n), .int .u64 (l2 n), .int .u64 (l3 n)], .int .u64 u, .agg (A.map (Value.int .u8)).toArray, .agg (H.map (Value.int .u8)).toArray] w fun e w' => e = .returned (.bool true) ∧ Below w.heap.size w w' := by
  have NU : Hid (∀ v w, Calls Tryd.prog 11 #[.int .i64 v] w fun e w' => e = .returned (.int .i64 v) ∧ Below w.heap.size w w') := fun v w => hnum_any v w
  have LE : Hid (∀ W, Below w.heap.size w W → Calls Tryd.prog 12 #[.slice a X.length c] W fun e w' => e = .returned (.slice (some ⟨W.heap.size, 0, none⟩) X.length (X.length + 70)) ∧ Rw8 w' W.heap.size (lentL X) ∧ Below W.heap.size W w') := fun W B => hlent_any (by omega) ha W (hz.keep B)
  have BW : Hid (∀ W, Below w.heap.size w W → Calls Tryd.prog 16 #[.slice a X.length c] W fun e w' => ∃ v, e = .returned v ∧ OwnB W.heap.size w' v X.reverse ∧ Below W.heap.size W w') := fun W B => hbackward_any (by omega) ha W (hz.keep B)
  have hY : ∀ i, 0 ≤ X.reverse.getD i 0 ∧ X.reverse.getD i 0 < 256 := fun i => by
    by_cases k : i < X.length
    · rw [List.getD, List.getElem?_reverse k]; exact hX _
    · rw [List.getD, List.getElem?_eq_none (by rw [List.length_reverse]; omega)]; exact ⟨by decide, by decide⟩
  obtain ⟨sX, eX, DX, RX⟩ := data_both hX
  obtain ⟨sY, eY, DY, RY⟩ := data_both hY
  have lY : X.reverse.length = X.length := List.length_reverse
  have D1 : Hid (∀ W g, Rw8 W g (lentL X) → Calls Tryd.prog 13 #[.slice (some ⟨g, 0, none⟩) X.length (X.length + 70)] W fun e w' => e = .returned (.tuple #[.string sX, .int .i64 eX]) ∧ Below W.heap.size W w') := fun W g h => DX W _ g 0 _ (.inr rfl) (lentL_bz h)
  have D2 : Hid (∀ W, Below w.heap.size w W → Calls Tryd.prog 14 #[.slice a X.length c] W fun e w' => e = .returned (.tuple #[.string sX, .int .i64 eX]) ∧ Below W.heap.size W w') := fun W B => RX W a bb ob c ha (hz.keep B)
  have D3 : Hid (∀ W g, Rw8 W g (lentL X.reverse) → Calls Tryd.prog 13 #[.slice (some ⟨g, 0, none⟩) X.length (X.length + 70)] W fun e w' => e = .returned (.tuple #[.string sY, .int .i64 eY]) ∧ Below W.heap.size W w') := fun W g h => by
    have := DY W (some ⟨g, 0, none⟩) g 0 (X.length + 70) (.inr rfl) (lentL_bz h)
    rw [lY] at this; exact this
  have D4 : Hid (∀ W a' g' c', Az a' g' 0 X.reverse → Bz W g' 0 X.reverse → Calls Tryd.prog 14 #[.slice a' X.length c'] W fun e w' => e = .returned (.tuple #[.string sY, .int .i64 eY]) ∧ Below W.heap.size W w') := fun W a' g' c' h1 h2 => by
    have := RY W a' g' 0 c' h1 h2
    rw [lY] at this; exact this
  have S1 : Hid (∀ W g, Below w.heap.size w W → Rw8 W g (lentL X) → Calls Tryd.prog 15 #[.slice (some ⟨g, 0, none⟩) X.length (X.length + 70), .slice a X.length c] W fun e w' => e = .returned (.bool true) ∧ Below W.heap.size W w') := fun W g B h => hstill_any (by omega) ha W h (hz.keep B)
  have S2 : Hid (∀ W g a' g' c', Rw8 W g (lentL X.reverse) → Az a' g' 0 X.reverse → Bz W g' 0 X.reverse → Calls Tryd.prog 15 #[.slice (some ⟨g, 0, none⟩) X.length (X.length + 70), .slice a' X.length c'] W fun e w' => e = .returned (.bool true) ∧ Below W.heap.size W w') := fun W g a' g' c' h h1 h2 => by
    have := hstill_any (cd := c') (by rw [lY]; omega) h1 W h h2
    rw [lY] at this; exact this
  have QU : Hid (∀ W, Calls Tryd.prog 17 #[.agg #[.int .u64 (l0 n), .int .u64 (l1 n), .int .u64 (l2 n), .int .u64 (l3 n)]] W fun e w' => e = .returned (.string ⟨([48, 120] ++ qtx n (hiD n + 1)).toArray⟩) ∧ Below W.heap.size W w') := fun W => quant_any hn W
  have RQ : Hid (∀ W, Calls Tryd.prog 18 #[.agg #[.int .u64 (l0 n), .int .u64 (l1 n), .int .u64 (l2 n), .int .u64 (l3 n)]] W fun e w' => e = .returned (.string ⟨([48, 120] ++ qtx n (hiD n + 1)).toArray⟩) ∧ Below W.heap.size W w') := fun W => rquant_any hn W
  have UI : Hid (∀ W, Calls Tryd.prog 19 #[.int .u64 u] W fun e w' => e = .returned (.string ⟨([48, 120] ++ qtx u (hiD u + 1)).toArray⟩) ∧ Below W.heap.size W w') := fun W => huint_any hu W
  have RU : Hid (∀ W, Calls Tryd.prog 20 #[.int .u64 u] W fun e w' => e = .returned (.string ⟨([48, 120] ++ qtx u (hiD u + 1)).toArray⟩) ∧ Below W.heap.size W w') := fun W => ruint_any hu W
  have CK : Hid (∀ W, Below w.heap.size w W → Calls Tryd.prog 8 #[.agg (A.map (Value.int .u8)).toArray] W fun e w' => e = .returned (.string ⟨(ckS A).toArray⟩) ∧ Below W.heap.size W w') := fun W B => checksum_any lA hA W (tb1.keep B) (tb2.keep B)
  have RC : Hid (∀ W, Below w.heap.size w W → Calls Tryd.prog 21 #[.agg (A.map (Value.int .u8)).toArray] W fun e w' => e = .returned (.string ⟨(ckS A).toArray⟩) ∧ Below W.heap.size W w') := fun W B => rchk_any lA hA W (tb3.keep B) (tb4.keep B)
  have HT : Hid (∀ W, Calls Tryd.prog 22 #[.agg (H.map (Value.int .u8)).toArray] W fun e w' => e = .returned (.string ⟨([48, 120] ++ hexB H).toArray⟩) ∧ Below W.heap.size W w') := fun W => hhash_any lH hH W
  have RH : Hid (∀ W, Calls Tryd.prog 23 #[.agg (H.map (Value.int .u8)).toArray] W fun e w' => e = .returned (.string ⟨([48, 120] ++ hexB H).toArray⟩) ∧ Below W.heap.size W w') := fun W => rhash_any lH hH W
  generalize (⟨([48, 120] ++ hexB H).toArray⟩ : ByteArray) = sh at *
  generalize (⟨([48, 120] ++ qtx n (hiD n + 1)).toArray⟩ : ByteArray) = sn at *
  generalize (⟨([48, 120] ++ qtx u (hiD u + 1)).toArray⟩ : ByteArray) = su at *
  generalize (⟨(ckS A).toArray⟩ : ByteArray) = sc at *
  obtain ⟨N, eN⟩ : ∃ N, Hid (N = A.map (Value.int .u8)) := ⟨_, rfl⟩
  obtain ⟨M, eM⟩ : ∃ M, Hid (M = H.map (Value.int .u8)) := ⟨_, rfl⟩
  have M20 : Hid (20 = N.length) := by rw [eN.out, List.length_map, lA]; exact rfl
  have M32 : Hid (32 = M.length) := by rw [eM.out, List.length_map, lH]; exact rfl
  have lN : (Tryd.prog.info? 23).map (·.size) = some N.length := by rw [← M20.out]; kernel_rfl
  have lM : (Tryd.prog.info? 36).map (·.size) = some M.length := by rw [← M32.out]; kernel_rfl
  rw [← eN.out] at CK RC
  rw [← eM.out] at HT RH
  rw [← eN.out, ← eM.out]
  obtain ⟨L0, L1, L2, L3, LL⟩ : ∃ L0 L1 L2 L3, Hid (l0 n = L0 ∧ l1 n = L1 ∧ l2 n = L2 ∧ l3 n = L3) := ⟨_, _, _, _, rfl, rfl, rfl, rfl⟩
  rw [LL.out.1, LL.out.2.1, LL.out.2.2.1, LL.out.2.2.2] at QU RQ
  rw [LL.out.1, LL.out.2.1, LL.out.2.2.1, LL.out.2.2.2]
  obtain ⟨Y, eY'⟩ : ∃ Y, Hid (Y = X.reverse) := ⟨_, rfl⟩
  rw [← eY'.out] at BW D3 D4 S2
  obtain ⟨m, em⟩ : ∃ m, Hid (m = X.length) := ⟨_, rfl⟩
  have ly : Hid (Y.length = m) := by rw [eY'.out, List.length_reverse, em.out]; exact rfl
  have ml : (m : Int) ≤ 140737488351232 := by rw [em.out]; omega
  rw [← em.out] at LE BW D1 D2 D3 D4 S1 S2 ⊢
  clear hl hX ha hn hu lA hA lH hH hz tb1 tb2 tb3 tb4 LL DX RX DY RY hY lY
  go_enter Tryd.func4, Tryd.ntmps4
  refine wp_seq_k fun K0 h0 => ?_
  have H0 : Hid _ := h0
  clear h0
  go_wp2
  refine H0.out _ _ ?_
  clear H0
  refine wp_world (fun W => Below w.heap.size w W ∧ Qd W w.heap.size [L0, L1, L2, L3] ∧ W.rangeAt (w.heap.size + 1) 0 N ∧ W.rangeAt (w.heap.size + 1 + 1) 0 M ∧ w.heap.size + 1 + 1 < W.heap.size) ⟨?_, ?_, ?_, ?_, ?_⟩ ?_
  · exact (((Below.refl _ _).alloc (Nat.le_refl _) _).alloc (by simp) _).alloc (by simp; omega) _
  · exact (Qd.newv _ _ _ _ _ _).keep (((Below.refl _ _).alloc (Nat.le_refl _) _).alloc (by simp) _)
  · have h := rangeBoxH (W := w.alloc (.cells #[.int .u64 L0, .int .u64 L1, .int .u64 L2, .int .u64 L3] 34)) (M := N) (t := 23)
    have h2 := range_keepH h ((Below.refl _ _).alloc (Nat.le_refl _) (.cells M.toArray 36))
    simpa using h2
  · have h := rangeBoxH (W := (w.alloc (.cells #[.int .u64 L0, .int .u64 L1, .int .u64 L2, .int .u64 L3] 34)).alloc (.cells N.toArray 23)) (M := M) (t := 36)
    simpa using h
  · simp
  rintro w0 ⟨B, Q1, R2, R3, lt0⟩
  have LT : Hid (w.heap.size < w0.heap.size ∧ w.heap.size + 1 < w0.heap.size ∧ w.heap.size + 1 + 1 < w0.heap.size) := ⟨by omega, by omega, by omega⟩
  clear lt0
  obtain ⟨b3, eb3⟩ : ∃ b, b = w.heap.size + 1 + 1 := ⟨_, rfl⟩
  obtain ⟨b2, eb2⟩ : ∃ b, b = w.heap.size + 1 := ⟨_, rfl⟩
  rw [← eb3] at R3 LT ⊢
  rw [← eb2] at R2 LT ⊢
  clear eb3 eb2
  refine wp_seq_k fun K1 h1 => ?_
  have H1 : Hid _ := h1
  clear h1
  go_wp2_with fail
  with_reducible refine (LE.out _ B).mono ?_
  rintro e1 w1 ⟨rfl, RL, hb1⟩
  replace B := B.trans (hb1.mono B.size)
  replace Q1 := Q1.keep hb1
  replace R2 := range_keepH R2 hb1
  replace R3 := range_keepH R3 hb1
  have sz1 : Hid (w0.heap.size < w1.heap.size) := RL.lt
  clear hb1
  clear LE
  obtain ⟨gl, egl⟩ : ∃ g, g = w0.heap.size := ⟨_, rfl⟩
  rw [← egl] at RL LT sz1 ⊢
  have OG : Hid (w.heap.size < gl) := LT.out.1
  clear egl
  go_wp2
  refine H1.out _ _ ?_
  clear H1
  refine wp_seq_k fun K2 h2 => ?_
  have H2 : Hid _ := h2
  clear h2
  go_wp2_with fail
  with_reducible refine (D1.out _ _ RL).mono ?_
  rintro e1 w2 ⟨rfl, hb1⟩
  replace B := B.trans (hb1.mono B.size)
  replace Q1 := Q1.keep hb1
  replace R2 := range_keepH R2 hb1
  replace R3 := range_keepH R3 hb1
  replace RL := RL.keep hb1
  clear hb1
  clear D1
  go_wp2
  refine H2.out _ _ ?_
  clear H2
  refine wp_seq_k fun K3 h3 => ?_
  have H3 : Hid _ := h3
  clear h3
  go_wp2_with fail
  with_reducible refine (D2.out _ B).mono ?_
  rintro e1 w3 ⟨rfl, hb1⟩
  replace B := B.trans (hb1.mono B.size)
  replace Q1 := Q1.keep hb1
  replace R2 := range_keepH R2 hb1
  replace R3 := range_keepH R3 hb1
  replace RL := RL.keep hb1
  clear hb1
  clear D2
  go_wp2
  refine H3.out _ _ ?_
  clear H3
  refine wp_seq_k fun K4 h4 => ?_
  have H4 : Hid _ := h4
  clear h4
  go_wp2_with fail
  with_reducible refine (NU.out _ _).mono ?_
  rintro e1 w4 ⟨rfl, hb1⟩
  replace B := B.trans (hb1.mono B.size)
  replace Q1 := Q1.keep hb1
  replace R2 := range_keepH R2 hb1
  replace R3 := range_keepH R3 hb1
  replace RL := RL.keep hb1
  clear hb1
  go_wp2_with fail
  with_reducible refine (S1.out _ _ B RL).mono ?_
  rintro e1 w5 ⟨rfl, hb1⟩
  replace B := B.trans (hb1.mono B.size)
  replace Q1 := Q1.keep hb1
  replace R2 := range_keepH R2 hb1
  replace R3 := range_keepH R3 hb1
  replace RL := RL.keep hb1
  clear hb1
  clear S1
  go_wp2
  refine H4.out _ _ ?_
  clear H4
  have s16 : Hid (gl < w5.heap.size) := RL.lt
  refine wp_seq_k fun K5 h5 => ?_
  have H5 : Hid _ := h5
  clear h5
  go_wp2_with fail
  with_reducible refine (BW.out _ B).mono ?_
  rintro e1 w6 ⟨v16, rfl, O16, hb1⟩
  replace B := B.trans (hb1.mono B.size)
  replace Q1 := Q1.keep hb1
  replace R2 := range_keepH R2 hb1
  replace R3 := range_keepH R3 hb1
  replace RL := RL.keep hb1
  clear hb1
  clear BW
  obtain ⟨a', g', c', ev, v1, v2⟩ := O16.rd
  rw [ly.out] at ev
  subst ev
  clear v1 v2
  go_wp2
  refine H5.out _ _ ?_
  clear H5
  obtain ⟨a2, g2, c2, ev, v1, v2⟩ := O16.rd
  rw [ly.out] at ev
  injection ev with ev1 ev2 ev3
  subst ev1
  subst ev3
  have z16 : Az a' g2 0 Y := by
    by_cases k : Y = []
    · exact .inl k
    · exact .inr (v1 k)
  have y16 : Bz w6 g2 0 Y := fun i hi => by rw [Nat.zero_add]; exact v2 i hi
  have RL' : Rw8 w6 gl (X ++ List.replicate 70 195) := RL
  clear v1 v2 ev2
  refine wp_seq_k fun K6 h6 => ?_
  have H6 : Hid _ := h6
  clear h6
  go_wp2_with ((refine wpList_copy_over rfl _ _ rfl rfl rfl em.out ly.out.symm (by rw [ly.out, em.out]) RL' z16 y16 ?_); intro w7 r9 G9)
  have BG : Hid (Below gl w6 w7) := (Below.refl _ _).grown G9 (by have := RL.lt; omega) (fun k hk => by have := Option.some.inj hk; omega)
  replace B := B.trans (BG.out.mono (by have := OG.out; omega))
  replace Q1 := Q1.below BG.out LT.out.1
  replace R2 := range_below R2 BG.out LT.out.2.1
  replace R3 := range_below R3 BG.out LT.out.2.2
  replace O16 : OwnB w5.heap.size w7 (.slice a' m c') Y := World.ownsRow.kept O16 G9 (by
    cases hd : Value.ownBlock (.slice a' m c') with
    | none => exact .inl rfl
    | some k => exact .inr fun e => by have h1 := (O16.row.lt k hd).1; have := s16.out; have := Option.some.inj e; omega)
  replace RL : Rw8 w7 gl (lentL Y) := r9
  clear RL' z16 y16 r9 G9 BG
  go_wp2
  refine H6.out _ _ ?_
  clear H6
  refine wp_seq_k fun K7 h7 => ?_
  have H7 : Hid _ := h7
  clear h7
  go_wp2_with fail
  with_reducible refine (D3.out _ _ RL).mono ?_
  rintro e1 w8 ⟨rfl, hb1⟩
  replace B := B.trans (hb1.mono B.size)
  replace Q1 := Q1.keep hb1
  replace R2 := range_keepH R2 hb1
  replace R3 := range_keepH R3 hb1
  replace RL := RL.keep hb1
  replace O16 := O16.keep hb1
  clear hb1
  clear D3
  go_wp2
  refine H7.out _ _ ?_
  clear H7
  obtain ⟨a3, g3, c3, ev, v1, v2⟩ := O16.rd
  rw [ly.out] at ev
  injection ev with ev1 ev2 ev3
  subst ev1
  subst ev3
  have z16 : Az a' g3 0 Y := by
    by_cases k : Y = []
    · exact .inl k
    · exact .inr (v1 k)
  have y16 : Bz w8 g3 0 Y := fun i hi => by rw [Nat.zero_add]; exact v2 i hi
  clear v1 v2 ev2
  refine wp_seq_k fun K8 h8 => ?_
  have H8 : Hid _ := h8
  clear h8
  go_wp2_with fail
  with_reducible refine (D4.out _ a' g3 c' z16 y16).mono ?_
  rintro e1 w9 ⟨rfl, hb1⟩
  replace B := B.trans (hb1.mono B.size)
  replace Q1 := Q1.keep hb1
  replace R2 := range_keepH R2 hb1
  replace R3 := range_keepH R3 hb1
  replace RL := RL.keep hb1
  replace O16 := O16.keep hb1
  clear hb1
  clear D4 z16 y16
  go_wp2
  refine H8.out _ _ ?_
  clear H8
  refine wp_seq_k fun K9 h9 => ?_
  have H9 : Hid _ := h9
  clear h9
  go_wp2_with fail
  with_reducible refine (NU.out _ _).mono ?_
  rintro e1 w10 ⟨rfl, hb1⟩
  replace B := B.trans (hb1.mono B.size)
  replace Q1 := Q1.keep hb1
  replace R2 := range_keepH R2 hb1
  replace R3 := range_keepH R3 hb1
  replace RL := RL.keep hb1
  replace O16 := O16.keep hb1
  clear hb1
  obtain ⟨a3, g3, c3, ev, v1, v2⟩ := O16.rd
  rw [ly.out] at ev
  injection ev with ev1 ev2 ev3
  subst ev1
  subst ev3
  have z16 : Az a' g3 0 Y := by
    by_cases k : Y = []
    · exact .inl k
    · exact .inr (v1 k)
  have y16 : Bz w10 g3 0 Y := fun i hi => by rw [Nat.zero_add]; exact v2 i hi
  clear v1 v2 ev2
  go_wp2_with fail
  with_reducible refine (S2.out _ _ a' g3 c' RL z16 y16).mono ?_
  rintro e1 w11 ⟨rfl, hb1⟩
  replace B := B.trans (hb1.mono B.size)
  replace Q1 := Q1.keep hb1
  replace R2 := range_keepH R2 hb1
  replace R3 := range_keepH R3 hb1
  replace RL := RL.keep hb1
  replace O16 := O16.keep hb1
  clear hb1
  clear S2 z16 y16
  go_wp2
  refine H9.out _ _ ?_
  clear H9
  clear RL O16
  refine wp_seq_k fun K10 h10 => ?_
  have H10 : Hid _ := h10
  clear h10
  obtain ⟨x0, _⟩ := Q1 0 (by decide); obtain ⟨x1, _⟩ := Q1 1 (by decide); obtain ⟨x2, _⟩ := Q1 2 (by decide); obtain ⟨x3, _⟩ := Q1 3 (by decide)
  simp only [List.getD_cons_zero, List.getD_cons_succ] at x0 x1 x2 x3
  have r0 := fun d os => cell_regrown x0 d os
  have r1 := fun d os => cell_regrown x1 d os
  have r2 := fun d os => cell_regrown x2 d os
  have r3 := fun d os => cell_regrown x3 d os
  have BB : Hid (∀ d os, Below w.heap.size w (grow (redrawn w11 d) os)) := fun d os => B.trans ((below_regrown w11 d os).mono B.size)
  go_wp2_with fail
  (try simp only [Act.put])
  refine wp_region_quiet_below (by kernel_rfl) (by kernel_rfl) ?_
  repeat
    first
      | go_big_quiet_skip
      | (go_big_quiet_want; go_big_quiet_op; go_big_quiet_on)
      | (go_big_quiet_want
         go_big_quiet_op
         apply Exists.intro
         refine ⟨fun p => ?_, ?_⟩
         · (first | (go_at_call 17; with_reducible exact Calls.regrown_of (QU.out _)) | (go_at_call 18; with_reducible exact Calls.regrown_of (RQ.out _)) | (go_at_call 19; with_reducible exact Calls.regrown_of (UI.out _)) | (go_at_call 20; with_reducible exact Calls.regrown_of (RU.out _)))
         go_big_quiet_on)
  refine wpQuiet_nil ?_
  rintro w12 ⟨r, rfl⟩
  have hb1 := below_regrown w11 r.d r.os
  generalize grow (redrawn w11 r.d) r.os = w12 at *
  clear r0 r1 r2 r3 x0 x1 x2 x3 BB QU RQ UI RU Q1
  replace B := B.trans (hb1.mono B.size)
  replace R2 := range_keepH R2 hb1
  replace R3 := range_keepH R3 hb1
  clear hb1
  go_wp2
  refine H10.out _ _ ?_
  clear H10
  refine wp_seq_k fun K11 h11 => ?_
  have H11 : Hid _ := h11
  clear h11
  have ldA : ∀ w', (∃ p : Regrown, w' = grow (redrawn w12 p.d) p.os) → w'.rangeAt b2 0 N := by rintro w' ⟨p, rfl⟩; exact range_keepH R2 (below_regrown w12 p.d p.os)
  have ldH : ∀ w', (∃ p : Regrown, w' = grow (redrawn w12 p.d) p.os) → w'.rangeAt b3 0 M := by rintro w' ⟨p, rfl⟩; exact range_keepH R3 (below_regrown w12 p.d p.os)
  have BB : Hid (∀ d os, Below w.heap.size w (grow (redrawn w12 d) os)) := fun d os => B.trans ((below_regrown w12 d os).mono B.size)
  go_wp2_with fail
  (try simp only [Act.put])
  refine wp_region_quiet_below (by kernel_rfl) (by kernel_rfl) ?_
  repeat
    first
      | go_big_quiet_skip
      | (go_big_quiet_want; refine quiet_load_mid 23 _ rfl b2 0 rfl N _ ldA Tryd.underlying23 rfl lN ?_; simp only [Act.put, List.setIfInBounds_toArray, List.set_cons_succ, List.set_cons_zero]; go_big_quiet_on)
      | (go_big_quiet_want; refine quiet_load_mid 36 _ rfl b3 0 rfl M _ ldH Tryd.underlying36 rfl lM ?_; simp only [Act.put, List.setIfInBounds_toArray, List.set_cons_succ, List.set_cons_zero]; go_big_quiet_on)
      | (go_big_quiet_want; go_big_quiet_op; go_big_quiet_on)
      | (go_big_quiet_want
         go_big_quiet_op
         apply Exists.intro
         refine ⟨fun p => ?_, ?_⟩
         · (first | (go_at_call 8; with_reducible exact Calls.regrown_of (CK.out _ (BB.out p.d p.os))) | (go_at_call 21; with_reducible exact Calls.regrown_of (RC.out _ (BB.out p.d p.os))) | (go_at_call 22; with_reducible exact Calls.regrown_of (HT.out _)) | (go_at_call 23; with_reducible exact Calls.regrown_of (RH.out _)))
         go_big_quiet_on)
  refine wpQuiet_nil ?_
  rintro w13 ⟨r, rfl⟩
  have hb1 := below_regrown w12 r.d r.os
  generalize grow (redrawn w12 r.d) r.os = w13 at *
  clear BB ldA ldH CK RC HT RH
  replace B := B.trans (hb1.mono B.size)
  replace R2 := range_keepH R2 hb1
  replace R3 := range_keepH R3 hb1
  clear hb1
  go_wp2
  refine H11.out _ _ ?_
  clear H11
  go_wp2
  simp [bodyPost, results, Tryd.results4, go_sem]
  exact B
end Go.Proofs.YtidchaaahgnabaaDoor
