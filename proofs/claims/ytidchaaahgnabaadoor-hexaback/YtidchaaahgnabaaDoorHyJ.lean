import Derived.Test.YtidchaaahgnabaaDoorHyI
import Derived.Test.YtidchaaahgnabaaDoorHyH
import Derived.Test.YtidchaaahgnabaaDoorHxT
/- Layer 8: the law HexaBack. -/
namespace Go.Proofs.YtidchaaahgnabaaDoor
open Go.RowKit Go.Sort
set_option maxRecDepth 100000 in
set_option maxHeartbeats 16000000 in
theorem hback_any {a : Option Addr} {bb ob c : Nat} {X A H : List Int} {n u : Int} (hl : X.length ≤ 140737488351232) (hX : ∀ i, 0 ≤ X.getD i 0 ∧ X.getD i 0 < 256) (ha : Az a bb ob X) (hn : Num n) (hu : Word u) (lA : A.length = 20) (hA : ∀ i, 0 ≤ A.getD i 0 ∧ A.getD i 0 < 256) (lH : H.length = 32) (hH : ∀ i, 0 ≤ H.getD i 0 ∧ H.getD i 0 < 256) (w : World) (hz : Bz w bb ob X) (tb1 : Tab w 4 turnsN) (tb2 : Lns w 2 marksN) :
    Calls Tryd.prog 7 #[.slice a X.length c, .agg #[.int .u64 (l0 n), .int .u64 (l1 n), .int .u64 (l2 n), .int .u64 (l3 n)], .int .u64 u, .agg (A.map (Value.int .u8)).toArray, .agg (H.map (Value.int .u8)).toArray] w fun e w' => e = .returned (.bool true) ∧ Below w.heap.size w w' := by
  have NU : Hid (∀ v w, Calls Tryd.prog 11 #[.int .i64 v] w fun e w' => e = .returned (.int .i64 v) ∧ Below w.heap.size w w') := fun v w => hnum_any v w
  have LE : Hid (∀ W, Below w.heap.size w W → Calls Tryd.prog 12 #[.slice a X.length c] W fun e w' => e = .returned (.slice (some ⟨W.heap.size, 0, none⟩) X.length (X.length + 70)) ∧ Rw8 w' W.heap.size (lentL X) ∧ Below W.heap.size W w') := fun W B => hlent_any (by omega) ha W (hz.keep B)
  have QU : Hid (∀ W, Calls Tryd.prog 17 #[.agg #[.int .u64 (l0 n), .int .u64 (l1 n), .int .u64 (l2 n), .int .u64 (l3 n)]] W fun e w' => e = .returned (.string ⟨([48, 120] ++ qtx n (hiD n + 1)).toArray⟩) ∧ Below W.heap.size W w') := fun W => quant_any hn W
  have UI : Hid (∀ W, Calls Tryd.prog 19 #[.int .u64 u] W fun e w' => e = .returned (.string ⟨([48, 120] ++ qtx u (hiD u + 1)).toArray⟩) ∧ Below W.heap.size W w') := fun W => huint_any hu W
  have CK : Hid (∀ W, Below w.heap.size w W → Calls Tryd.prog 8 #[.agg (A.map (Value.int .u8)).toArray] W fun e w' => e = .returned (.string ⟨(ckS A).toArray⟩) ∧ Below W.heap.size W w') := fun W B => checksum_any lA hA W (tb1.keep B) (tb2.keep B)
  have HT : Hid (∀ W, Calls Tryd.prog 22 #[.agg (H.map (Value.int .u8)).toArray] W fun e w' => e = .returned (.string ⟨([48, 120] ++ hexB H).toArray⟩) ∧ Below W.heap.size W w') := fun W => hhash_any lH hH W
  have PQ : Hid (∀ W, Calls Tryd.prog 27 #[.string ⟨([48, 120] ++ qtx n (hiD n + 1)).toArray⟩] W fun e w' => e = .returned (.tuple #[.agg #[.int .u64 (l0 n), .int .u64 (l1 n), .int .u64 (l2 n), .int .u64 (l3 n)], .int .i64 0]) ∧ Below W.heap.size W w') := fun W => by
    have := pquan_all (s := ⟨([48, 120] ++ qtx n (hiD n + 1)).toArray⟩) (by rw [size_list, List.length_append, qtx_len]; have := hiD_lt hn; show 2 + _ < _; omega) W
    obtain ⟨e1, e2⟩ := back_quan hn (m := 64) (by have := hn.2; rw [show (16 : Int) ^ 64 = 115792089237316195423570985008687907853269984665640564039457584007913129639936 by decide]; exact this) (by decide)
    rw [e1, e2] at this
    exact this
  have hu' : Num u := ⟨hu.1, by have := hu.2; omega⟩
  have PU : Hid (∀ W, Calls Tryd.prog 29 #[.string ⟨([48, 120] ++ qtx u (hiD u + 1)).toArray⟩] W fun e w' => e = .returned (.tuple #[.int .u64 u, .int .i64 0]) ∧ Below W.heap.size W w') := fun W => by
    have := puint_all (s := ⟨([48, 120] ++ qtx u (hiD u + 1)).toArray⟩) (by rw [size_list, List.length_append, qtx_len]; have := hiD_lt hu'; show 2 + _ < _; omega) W
    obtain ⟨e1, e2⟩ := back_quan hu' (m := 16) (by have := hu.2; rw [show (16 : Int) ^ 16 = 18446744073709551616 by decide]; exact this) (by decide)
    rw [e1, e2] at this
    exact this
  have PA : Hid (∀ W, Below w.heap.size w W → Calls Tryd.prog 9 #[.string ⟨(ckS A).toArray⟩] W fun e w' => e = .returned (.tuple #[.agg (A.map (Value.int .u8)).toArray, .int .i64 0]) ∧ Below W.heap.size W w') := fun W B => by
    have := pa_any (s := ⟨(ckS A).toArray⟩) (by rw [size_list, ckS_len]; decide) W (tb1.keep B) (tb2.keep B)
    obtain ⟨e1, e2⟩ := paX_right lA hA
    rw [e1, e2] at this
    exact this
  have PH : Hid (∀ W, Calls Tryd.prog 25 #[.string ⟨([48, 120] ++ hexB H).toArray⟩] W fun e w' => e = .returned (.tuple #[.agg (H.map (Value.int .u8)).toArray, .int .i64 0]) ∧ Below W.heap.size W w') := fun W => by
    have := ph_any (s := ⟨([48, 120] ++ hexB H).toArray⟩) (by rw [size_list, List.length_append, hexB_len, lH]; decide) W
    obtain ⟨e1, e2⟩ := back_hash lH hH
    rw [e1, e2] at this
    exact this
  have EA := eq_adr lA lA
  rw [decide_eq_true rfl] at EA
  have EH := eq_hsh lH lH
  rw [decide_eq_true rfl] at EH
  have EU := eqH (l0 n) (l1 n) (l2 n) (l3 n) (l0 n) (l1 n) (l2 n) (l3 n)
  simp only [beq_self_eq_true, Bool.and_self] at EU
  have SA : Hid (∀ W (a' : Option Addr) (g c' : Nat), Below w.heap.size w W → Az a' g 0 X → Bz W g 0 X → Calls Tryd.prog 30 #[.slice a X.length c, .slice a' X.length c'] W fun e w' => e = .returned (.bool true) ∧ Below W.heap.size W w') := fun W a' g c' B h1 h2 => by
    have := hsame_any (c := c) (c' := c') (by omega) ha h1 W (hz.keep B) h2
    rw [decide_eq_true rfl] at this
    exact this
  have DT : Hid (∀ W g, Rw8 W g (lentL X) → Calls Tryd.prog 13 #[.slice (some ⟨g, 0, none⟩) X.length (X.length + 70)] W fun e w' => e = .returned (if X.length ≤ 16777216 then .tuple #[.string ⟨([48, 120] ++ hexB X).toArray⟩, .int .i64 0] else .tuple #[.string ⟨#[]⟩, .int .i64 2]) ∧ Below W.heap.size W w') := fun W g hr => by
    by_cases k : X.length ≤ 16777216
    · rw [if_pos k]
      exact hdata_any (g := g) (o := 0) rfl k hX (fun _ => rfl) W (lentL_bz hr)
    · rw [if_neg k]
      exact hdata_long (by omega) W
  have PD : Hid (X.length ≤ 16777216 → ∀ W, Calls Tryd.prog 28 #[.string ⟨([48, 120] ++ hexB X).toArray⟩] W fun e w' => ∃ v, e = .returned (.tuple #[v, .int .i64 0]) ∧ Rd w' v X ∧ Below W.heap.size W w') := fun k W => by
    have := pd_any (s := ⟨([48, 120] ++ hexB X).toArray⟩) W
    obtain ⟨e1, e2⟩ := back_data k hX
    rw [e1, e2] at this
    exact this.mono fun e w' ⟨v, h1, h2, h3⟩ => ⟨v, h1, h2.rd, h3⟩
  have ST : (⟨([48, 120] ++ hexB X).toArray⟩ : ByteArray).size = 2 + 2 * X.length := by rw [size_list, List.length_append, hexB_len]; rfl
  generalize (⟨([48, 120] ++ hexB X).toArray⟩ : ByteArray) = sx at *
  generalize (⟨([48, 120] ++ hexB H).toArray⟩ : ByteArray) = sh at *
  generalize (⟨([48, 120] ++ qtx n (hiD n + 1)).toArray⟩ : ByteArray) = sn at *
  generalize (⟨([48, 120] ++ qtx u (hiD u + 1)).toArray⟩ : ByteArray) = su at *
  generalize (⟨(ckS A).toArray⟩ : ByteArray) = sc at *
  obtain ⟨N, eN⟩ : ∃ N, Hid (N = A.map (Value.int .u8)) := ⟨_, rfl⟩
  obtain ⟨M, eM⟩ : ∃ M, Hid (M = H.map (Value.int .u8)) := ⟨_, rfl⟩
  have M20 : Hid (20 = N.length) := by rw [eN.out, List.length_map, lA]; exact rfl
  have M32 : Hid (32 = M.length) := by rw [eM.out, List.length_map, lH]; exact rfl
  have lN : (Tryd.prog.info? 23).map (·.size) = some N.length := by rw [← M20.out]; kernel_rfl
  have oN : N.toArray.all (·.oneCell') = true := by rw [eN.out]; exact one_u8 _
  have lM : (Tryd.prog.info? 36).map (·.size) = some M.length := by rw [← M32.out]; kernel_rfl
  have oM : M.toArray.all (·.oneCell') = true := by rw [eM.out]; exact one_u8 _
  rw [← eN.out] at CK PA EA
  rw [← eM.out] at HT PH EH
  rw [← eN.out, ← eM.out]
  obtain ⟨L0, L1, L2, L3, LL⟩ : ∃ L0 L1 L2 L3, Hid (l0 n = L0 ∧ l1 n = L1 ∧ l2 n = L2 ∧ l3 n = L3) := ⟨_, _, _, _, rfl, rfl, rfl, rfl⟩
  rw [LL.out.1, LL.out.2.1, LL.out.2.2.1, LL.out.2.2.2] at QU PQ EU
  rw [LL.out.1, LL.out.2.1, LL.out.2.2.1, LL.out.2.2.2]
  obtain ⟨m, em⟩ : ∃ m, Hid (m = X.length) := ⟨_, rfl⟩
  have ml : (m : Int) ≤ 140737488351232 := by rw [em.out]; omega
  rw [← em.out] at LE SA DT PD ST ⊢
  clear hl hX ha hn hu lA hA lH hH hz tb1 tb2 hu' LL
  go_enter Tryd.func7, Tryd.ntmps7
  refine wp_seq_k fun K0 h0 => ?_
  have H0 : Hid _ := h0
  clear h0
  go_wp2
  refine H0.out _ _ ?_
  clear H0
  refine wp_world (fun W => Below w.heap.size w W ∧ Qd W w.heap.size [L0, L1, L2, L3] ∧ W.rangeAt (w.heap.size + 1) 0 N ∧ W.rangeAt (w.heap.size + 1 + 1) 0 M) ⟨?_, ?_, ?_, ?_⟩ ?_
  · exact (((Below.refl _ _).alloc (Nat.le_refl _) _).alloc (by simp) _).alloc (by simp; omega) _
  · exact (Qd.newv _ _ _ _ _ _).keep (((Below.refl _ _).alloc (Nat.le_refl _) _).alloc (by simp) _)
  · have h := rangeBoxH (W := w.alloc (.cells #[.int .u64 L0, .int .u64 L1, .int .u64 L2, .int .u64 L3] 34)) (M := N) (t := 23)
    have h2 := range_keepH h ((Below.refl _ _).alloc (Nat.le_refl _) (.cells M.toArray 36))
    simpa using h2
  · have h := rangeBoxH (W := (w.alloc (.cells #[.int .u64 L0, .int .u64 L1, .int .u64 L2, .int .u64 L3] 34)).alloc (.cells N.toArray 23)) (M := M) (t := 36)
    simpa using h
  rintro w0 ⟨B, Q1, R2, R3⟩
  generalize w.heap.size + 1 + 1 = b3 at *
  generalize w.heap.size + 1 = b2 at *
  refine wp_seq_k fun K1 h1 => ?_
  have H1 : Hid _ := h1
  clear h1
  go_wp2_with fail
  with_reducible refine (LE.out _ B).mono ?_
  rintro e1 w1 ⟨rfl, hr, hb1⟩
  replace B := B.trans (hb1.mono B.size)
  replace Q1 := Q1.keep hb1
  replace R2 := range_keepH R2 hb1
  replace R3 := range_keepH R3 hb1
  clear hb1
  have D1 := DT.out _ _ hr
  clear hr DT LE
  generalize w0.heap.size = gl at *
  by_cases km : m ≤ 16777216
  case neg =>
    rw [if_neg km] at D1
    have k1 : (16777216 : Int) < (m : Int) := by omega
    go_wp2_with fail
    with_reducible refine D1.mono ?_
    rintro e1 w9 ⟨rfl, hb1⟩
    replace B := B.trans (hb1.mono B.size)
    clear hb1 D1
    go_wp2
    refine H1.out _ _ ?_
    clear H1
    go_wp2_with fail
    with_reducible refine (NU.out _ _).mono ?_
    rintro e1 w8 ⟨rfl, hb1⟩
    replace B := B.trans (hb1.mono B.size)
    clear hb1
    go_wp2
    simp [bodyPost, results, Tryd.results7, go_sem]
    exact B
  rw [if_pos km] at D1
  have P1 := PD.out km
  have k1 : ¬ (16777216 : Int) < (m : Int) := by omega
  clear PD km
  go_wp2_with fail
  with_reducible refine (D1).mono ?_
  rintro e1 w2 ⟨rfl, hb1⟩
  replace B := B.trans (hb1.mono B.size)
  replace Q1 := Q1.keep hb1
  replace R2 := range_keepH R2 hb1
  replace R3 := range_keepH R3 hb1
  clear hb1
  clear D1
  go_wp2
  refine H1.out _ _ ?_
  clear H1
  refine wp_seq_k fun K2 h2 => ?_
  have H2 : Hid _ := h2
  clear h2
  go_wp2
  refine H2.out _ _ ?_
  clear H2
  refine wp_seq_k fun K3 h3 => ?_
  have H3 : Hid _ := h3
  clear h3
  go_wp2_with fail
  with_reducible refine (P1 _).mono ?_
  rintro e1 w3 ⟨v13, rfl, V13, hb1⟩
  replace B := B.trans (hb1.mono B.size)
  replace Q1 := Q1.keep hb1
  replace R2 := range_keepH R2 hb1
  replace R3 := range_keepH R3 hb1
  clear hb1
  clear P1
  obtain ⟨a', g', c', ev, v1, v2⟩ := id V13
  rw [← em.out] at ev
  subst ev
  clear v1 v2
  go_wp2
  refine H3.out _ _ ?_
  clear H3
  refine wp_seq_k fun K4 h4 => ?_
  have H4 : Hid _ := h4
  clear h4
  obtain ⟨x0, _⟩ := Q1 0 (by decide); obtain ⟨x1, _⟩ := Q1 1 (by decide); obtain ⟨x2, _⟩ := Q1 2 (by decide); obtain ⟨x3, _⟩ := Q1 3 (by decide)
  simp only [List.getD_cons_zero, List.getD_cons_succ] at x0 x1 x2 x3
  go_wp2_with fail
  with_reducible refine (QU.out _).mono ?_
  rintro e1 w4 ⟨rfl, hb1⟩
  replace B := B.trans (hb1.mono B.size)
  replace Q1 := Q1.keep hb1
  replace R2 := range_keepH R2 hb1
  replace R3 := range_keepH R3 hb1
  replace V13 := V13.keep hb1
  clear hb1
  clear x0 x1 x2 x3 QU
  go_wp2_with fail
  with_reducible refine (PQ.out _).mono ?_
  rintro e1 w5 ⟨rfl, hb1⟩
  replace B := B.trans (hb1.mono B.size)
  replace Q1 := Q1.keep hb1
  replace R2 := range_keepH R2 hb1
  replace R3 := range_keepH R3 hb1
  replace V13 := V13.keep hb1
  clear hb1
  clear PQ
  go_wp2
  refine H4.out _ _ ?_
  clear H4
  refine wp_world (fun W => Below w5.heap.size w5 W ∧ Qd W w5.heap.size [L0, L1, L2, L3]) ⟨(Below.refl _ _).alloc (Nat.le_refl _) _, Qd.newv _ _ _ _ _ _⟩ ?_
  rintro w6 ⟨hb1, Q15⟩
  replace B := B.trans (hb1.mono B.size)
  replace Q1 := Q1.keep hb1
  replace R2 := range_keepH R2 hb1
  replace R3 := range_keepH R3 hb1
  replace V13 := V13.keep hb1
  clear hb1
  generalize w5.heap.size = b15 at *
  refine wp_seq_k fun K5 h5 => ?_
  have H5 : Hid _ := h5
  clear h5
  go_wp2_with fail
  with_reducible refine (UI.out _).mono ?_
  rintro e1 w7 ⟨rfl, hb1⟩
  replace B := B.trans (hb1.mono B.size)
  replace Q1 := Q1.keep hb1
  replace R2 := range_keepH R2 hb1
  replace R3 := range_keepH R3 hb1
  replace V13 := V13.keep hb1
  replace Q15 := Q15.keep hb1
  clear hb1
  go_wp2_with fail
  with_reducible refine (PU.out _).mono ?_
  rintro e1 w8 ⟨rfl, hb1⟩
  replace B := B.trans (hb1.mono B.size)
  replace Q1 := Q1.keep hb1
  replace R2 := range_keepH R2 hb1
  replace R3 := range_keepH R3 hb1
  replace V13 := V13.keep hb1
  replace Q15 := Q15.keep hb1
  clear hb1
  clear UI PU
  go_wp2
  refine H5.out _ _ ?_
  clear H5
  refine wp_seq_k fun K6 h6 => ?_
  have H6 : Hid _ := h6
  clear h6
  go_wp2_with (refine wpList_load_mid rfl 23 _ rfl b2 0 rfl N _ R2 Tryd.underlying23 rfl lN ?_)
  with_reducible refine (CK.out _ B).mono ?_
  rintro e1 w9 ⟨rfl, hb1⟩
  replace B := B.trans (hb1.mono B.size)
  replace Q1 := Q1.keep hb1
  replace R2 := range_keepH R2 hb1
  replace R3 := range_keepH R3 hb1
  replace V13 := V13.keep hb1
  replace Q15 := Q15.keep hb1
  clear hb1
  go_wp2_with fail
  with_reducible refine (PA.out _ B).mono ?_
  rintro e1 w10 ⟨rfl, hb1⟩
  replace B := B.trans (hb1.mono B.size)
  replace Q1 := Q1.keep hb1
  replace R2 := range_keepH R2 hb1
  replace R3 := range_keepH R3 hb1
  replace V13 := V13.keep hb1
  replace Q15 := Q15.keep hb1
  clear hb1
  go_wp2_with (refine wpList_put_new rfl 23 _ _ rfl N rfl rfl M20.out lN oN ?_; intro w11 hb1 R19; simp only [Act.put])
  replace B := B.trans (hb1.mono B.size)
  replace Q1 := Q1.keep hb1
  replace R2 := range_keepH R2 hb1
  replace R3 := range_keepH R3 hb1
  replace V13 := V13.keep hb1
  replace Q15 := Q15.keep hb1
  clear hb1
  refine H6.out _ _ ?_
  clear H6
  generalize w10.heap.size = b19 at *
  refine wp_seq_k fun K7 h7 => ?_
  have H7 : Hid _ := h7
  clear h7
  go_wp2_with (refine wpList_load_mid rfl 36 _ rfl b3 0 rfl M _ R3 Tryd.underlying36 rfl lM ?_)
  with_reducible refine (HT.out _).mono ?_
  rintro e1 w12 ⟨rfl, hb1⟩
  replace B := B.trans (hb1.mono B.size)
  replace Q1 := Q1.keep hb1
  replace R2 := range_keepH R2 hb1
  replace R3 := range_keepH R3 hb1
  replace V13 := V13.keep hb1
  replace Q15 := Q15.keep hb1
  replace R19 := range_keepH R19 hb1
  clear hb1
  go_wp2_with fail
  with_reducible refine (PH.out _).mono ?_
  rintro e1 w13 ⟨rfl, hb1⟩
  replace B := B.trans (hb1.mono B.size)
  replace Q1 := Q1.keep hb1
  replace R2 := range_keepH R2 hb1
  replace R3 := range_keepH R3 hb1
  replace V13 := V13.keep hb1
  replace Q15 := Q15.keep hb1
  replace R19 := range_keepH R19 hb1
  clear hb1
  go_wp2_with (refine wpList_put_new rfl 36 _ _ rfl M rfl rfl M32.out lM oM ?_; intro w14 hb1 R21; simp only [Act.put])
  replace B := B.trans (hb1.mono B.size)
  replace Q1 := Q1.keep hb1
  replace R2 := range_keepH R2 hb1
  replace R3 := range_keepH R3 hb1
  replace V13 := V13.keep hb1
  replace Q15 := Q15.keep hb1
  replace R19 := range_keepH R19 hb1
  clear hb1
  refine H7.out _ _ ?_
  clear H7
  generalize w13.heap.size = b21 at *
  refine wp_seq_k fun K8 h8 => ?_
  have H8 : Hid _ := h8
  clear h8
  go_wp2_with fail
  with_reducible refine (NU.out _ _).mono ?_
  rintro e1 w15 ⟨rfl, hb1⟩
  replace B := B.trans (hb1.mono B.size)
  replace Q1 := Q1.keep hb1
  replace R2 := range_keepH R2 hb1
  replace R3 := range_keepH R3 hb1
  replace V13 := V13.keep hb1
  replace Q15 := Q15.keep hb1
  replace R19 := range_keepH R19 hb1
  replace R21 := range_keepH R21 hb1
  clear hb1
  go_wp2_with fail
  with_reducible refine (NU.out _ _).mono ?_
  rintro e1 w16 ⟨rfl, hb1⟩
  replace B := B.trans (hb1.mono B.size)
  replace Q1 := Q1.keep hb1
  replace R2 := range_keepH R2 hb1
  replace R3 := range_keepH R3 hb1
  replace V13 := V13.keep hb1
  replace Q15 := Q15.keep hb1
  replace R19 := range_keepH R19 hb1
  replace R21 := range_keepH R21 hb1
  clear hb1
  go_wp2_with fail
  with_reducible refine (NU.out _ _).mono ?_
  rintro e1 w17 ⟨rfl, hb1⟩
  replace B := B.trans (hb1.mono B.size)
  replace Q1 := Q1.keep hb1
  replace R2 := range_keepH R2 hb1
  replace R3 := range_keepH R3 hb1
  replace V13 := V13.keep hb1
  replace Q15 := Q15.keep hb1
  replace R19 := range_keepH R19 hb1
  replace R21 := range_keepH R21 hb1
  clear hb1
  go_wp2_with fail
  with_reducible refine (NU.out _ _).mono ?_
  rintro e1 w18 ⟨rfl, hb1⟩
  replace B := B.trans (hb1.mono B.size)
  replace Q1 := Q1.keep hb1
  replace R2 := range_keepH R2 hb1
  replace R3 := range_keepH R3 hb1
  replace V13 := V13.keep hb1
  replace Q15 := Q15.keep hb1
  replace R19 := range_keepH R19 hb1
  replace R21 := range_keepH R21 hb1
  clear hb1
  go_wp2_with fail
  with_reducible refine (NU.out _ _).mono ?_
  rintro e1 w19 ⟨rfl, hb1⟩
  replace B := B.trans (hb1.mono B.size)
  replace Q1 := Q1.keep hb1
  replace R2 := range_keepH R2 hb1
  replace R3 := range_keepH R3 hb1
  replace V13 := V13.keep hb1
  replace Q15 := Q15.keep hb1
  replace R19 := range_keepH R19 hb1
  replace R21 := range_keepH R21 hb1
  clear hb1
  go_wp2_with fail
  with_reducible refine (NU.out _ _).mono ?_
  rintro e1 w20 ⟨rfl, hb1⟩
  replace B := B.trans (hb1.mono B.size)
  replace Q1 := Q1.keep hb1
  replace R2 := range_keepH R2 hb1
  replace R3 := range_keepH R3 hb1
  replace V13 := V13.keep hb1
  replace Q15 := Q15.keep hb1
  replace R19 := range_keepH R19 hb1
  replace R21 := range_keepH R21 hb1
  clear hb1
  go_wp2
  refine H8.out _ _ ?_
  clear H8
  obtain ⟨a2, g2, c2, ev, v1, v2⟩ := id V13
  rw [← em.out] at ev
  injection ev with ev1 ev2 ev3
  subst ev1
  subst ev3
  have S1 := SA.out _ a' g2 c' B (by by_cases k : X = []; exact .inl k; exact .inr (v1 k)) (fun i hi => by rw [Nat.zero_add]; exact v2 i hi)
  clear v1 v2 ev2 SA
  have st : (sx.size : Int) = 2 + 2 * (m : Int) := by omega
  clear ST
  clear V13
  go_wp2_with fail
  with_reducible refine (S1).mono ?_
  rintro e1 w21 ⟨rfl, hb1⟩
  replace B := B.trans (hb1.mono B.size)
  replace Q1 := Q1.keep hb1
  replace R2 := range_keepH R2 hb1
  replace R3 := range_keepH R3 hb1
  replace Q15 := Q15.keep hb1
  replace R19 := range_keepH R19 hb1
  replace R21 := range_keepH R21 hb1
  clear hb1
  clear S1
  obtain ⟨x0, _⟩ := Q1 0 (by decide); obtain ⟨x1, _⟩ := Q1 1 (by decide); obtain ⟨x2, _⟩ := Q1 2 (by decide); obtain ⟨x3, _⟩ := Q1 3 (by decide)
  simp only [List.getD_cons_zero, List.getD_cons_succ] at x0 x1 x2 x3
  obtain ⟨y0, _⟩ := Q15 0 (by decide); obtain ⟨y1, _⟩ := Q15 1 (by decide); obtain ⟨y2, _⟩ := Q15 2 (by decide); obtain ⟨y3, _⟩ := Q15 3 (by decide)
  simp only [List.getD_cons_zero, List.getD_cons_succ] at y0 y1 y2 y3
  clear Q1 Q15
  go_wp2_with first | ((with_reducible refine wpList_load_wantH (ty := 23) b2 0 N _ R2 Tryd.underlying23 ?_ lN ?_ ?_ ?_); rfl; rfl; rfl; simp only [Act.put, List.setIfInBounds_toArray, List.set_cons_succ, List.set_cons_zero]) | ((with_reducible refine wpList_load_wantH (ty := 23) b19 0 N _ R19 Tryd.underlying23 ?_ lN ?_ ?_ ?_); rfl; rfl; rfl; simp only [Act.put, List.setIfInBounds_toArray, List.set_cons_succ, List.set_cons_zero]) | ((with_reducible refine wpList_load_wantH (ty := 36) b3 0 M _ R3 Tryd.underlying36 ?_ lM ?_ ?_ ?_); rfl; rfl; rfl; simp only [Act.put, List.setIfInBounds_toArray, List.set_cons_succ, List.set_cons_zero]) | ((with_reducible refine wpList_load_wantH (ty := 36) b21 0 M _ R21 Tryd.underlying36 ?_ lM ?_ ?_ ?_); rfl; rfl; rfl; simp only [Act.put, List.setIfInBounds_toArray, List.set_cons_succ, List.set_cons_zero])
  simp [bodyPost, results, Tryd.results7, go_sem]
  exact B
end Go.Proofs.YtidchaaahgnabaaDoor
