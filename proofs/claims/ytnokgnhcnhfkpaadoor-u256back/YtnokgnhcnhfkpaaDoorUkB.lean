import Derived.Test.YtnokgnhcnhfkpaaDoorUkA
import Derived.Test.YtnokgnhcnhfkpaaDoorUtE
import Derived.Test.YtnokgnhcnhfkpaaDoorUtG
import Derived.Test.YtnokgnhcnhfkpaaDoorAdLast
/- The law U256Back. -/
namespace Go.Proofs.YtnokgnhcnhfkpaaDoor
open Go.RowKit Go.Sort

theorem size78 {s : ByteArray} (h : pe s = 0) : s.size ≤ 78 := by
  obtain ⟨k, h1, h2⟩ := len_num (pv_num s)
  have := len_le (parse_tx h).1 h1.1 h1.2.1
  omega
/-- What stands all the way. -/
structure Bk1 (w W : World) (n : Int) : Prop where
  B : RowKit.Below w.heap.size w W
  hx : Hold W w.heap.size n
  hp : Pws W
theorem Bk1.keep {w W w1 : World} {n : Int} (s : Bk1 w W n) (hb : RowKit.Below W.heap.size W w1) : Bk1 w w1 n := ⟨s.B.trans (hb.mono s.B.size), s.hx.keep hb, s.hp.keep hb⟩
theorem Bk1.alloc {w W : World} {n : Int} (s : Bk1 w W n) (o : Obj) : Bk1 w (W.alloc o) n := s.keep ((Below.refl _ _).alloc (Nat.le_refl _) o)
set_option maxRecDepth 100000 in
set_option maxHeartbeats 16000000 in
theorem back_any {a : Option Addr} {bb ob c : Nat} {X : List Int} {n : Int} {s : ByteArray} (hN : Num n) (hm2 : X.length ≤ 140737488351232) (hX : Byts X) (hZ : Az a bb ob X) (hs : s.size ≤ 9223372036854775807) (w : World) (hz : Bz w bb ob X) (hp : Pws w) :
    Calls Tryd.prog 3 #[.agg #[.int .u64 (l0 n), .int .u64 (l1 n), .int .u64 (l2 n), .int .u64 (l3 n)], .slice a X.length c, .string s] w fun e w' => e = .returned (.bool true) ∧ Below w.heap.size w w' := by
  obtain ⟨k, hk, hk2⟩ := len_num hN
  have HA : Hid (X.length ≤ 140737488351232 ∧ Byts X ∧ Az a bb ob X ∧ ∀ W, Below w.heap.size w W → Bz W bb ob X) := ⟨hm2, hX, hZ, fun W B => hz.keep B⟩
  have T1 : Hid (∀ w, Pws w → Calls Tryd.prog 9 #[.agg #[.int .u64 (l0 n), .int .u64 (l1 n), .int .u64 (l2 n), .int .u64 (l3 n)]] w fun e w' => e = .returned (.string ⟨(tx n k).toArray⟩) ∧ Below w.heap.size w w') := fun w h => text_walk hN hk hk2 w h
  have P1 : Hid (∀ w, Pws w → Calls Tryd.prog 8 #[.string ⟨(tx n k).toArray⟩] w fun e w' => e = .returned (.tuple #[.agg #[.int .u64 (l0 n), .int .u64 (l1 n), .int .u64 (l2 n), .int .u64 (l3 n)], .int .i64 0]) ∧ Below w.heap.size w w') := fun w h => by
    obtain ⟨e1, e2⟩ := tx_parse hN hk
    have := parse_all (s := ⟨(tx n k).toArray⟩) (by rw [size_tx]; omega) w h
    rw [e1, e2] at this
    exact this
  have P2 : Hid (∀ w, Pws w → Calls Tryd.prog 8 #[.string s] w fun e w' => e = .returned (.tuple #[.agg #[.int .u64 (l0 (pv s)), .int .u64 (l1 (pv s)), .int .u64 (l2 (pv s)), .int .u64 (l3 (pv s))], .int .i64 (pe s)]) ∧ Below w.heap.size w w') := fun w h => parse_all hs w h
  have HK : Hid (1 ≤ k ∧ k ≤ 78 ∧ Num n) := ⟨hk.1, hk2, hN⟩
  have en := eq_num hN hN
  rw [decide_eq_true rfl] at en
  have kl : Hid ((tx n k).length = k) := tx_len n k
  clear hk hk2 hX hZ hz hm2 hs hN
  generalize tx n k = t at *
  go_enter Tryd.func3, Tryd.ntmps3
  refine wp_seq_k fun K0 kk => ?_
  have H0 : Hid _ := kk
  clear kk
  go_wp2
  refine H0.out _ _ ?_
  clear H0
  refine wp_world (fun W => Bk1 w W n) ⟨(Below.refl _ _).alloc (Nat.le_refl _) _, Hold.new w n _, hp.alloc _⟩ ?_
  clear hp
  rintro W0 S0
  refine wp_seq_k fun K1 kk => ?_
  have H1 : Hid _ := kk
  clear kk
  obtain ⟨M, HM⟩ : ∃ M, Hid (M = (putL n).map (Value.int .u8)) := ⟨_, rfl⟩
  have lM : M.length = 32 := by rw [HM.out, List.length_map, putL_len]
  have LM : Hid (M.length = 32) := lM
  have sz : M.toArray.size = 32 := by simp [lM]
  have oc : M.toArray.all (·.oneCell') = true := all_oneCell_toArray fun v hv => by
    rw [HM.out] at hv
    obtain ⟨z, _, rfl⟩ := List.mem_map.1 hv
    rfl
  clear lM
  have hc := put_any (n := n) W0
  rw [← HM.out] at hc
  obtain ⟨x0, x1, x2, x3⟩ := S0.hx
  go_wp2_with fail
  with_reducible refine hc.mono ?_
  rintro e w1 ⟨rfl, BN⟩
  clear hc x0 x1 x2 x3
  have S1 := S0.keep BN
  clear BN S0
  have F1 : ∀ (cs : Array Value) (t : TypeId), cs.size = 32 → Hid (Bk1 w ((w1.alloc (.cells cs t)).setCells w1.heap.size 0 M) n ∧ ((w1.alloc (.cells cs t)).setCells w1.heap.size 0 M).rangeAt w1.heap.size 0 M) := fun cs t hcs => by
    have hth : (w1.alloc (.cells cs t)).there w1.heap.size 0 M.length := there_new rfl (by rw [hcs]; exact LM.out)
    have h1 := laid_in (w := w1) (n := w1.heap.size) ((Below.refl _ _).alloc (Nat.le_refl _) (.cells cs t)) (Nat.le_refl _) hth
    exact ⟨S1.keep h1.1, h1.2⟩
  go_wp2_with ((refine wpList_store_mid rfl 26 _ _ rfl w1.heap.size 0 M.toArray rfl rfl (there_new rfl (by rw [sz]; rfl)) (by rw [sz]; kernel_rfl) oc ?_); (refine wpList_worldA (fun W => Bk1 w W n ∧ W.rangeAt w1.heap.size 0 M) (F1 _ _ (by rfl)).out ?_); (rintro W ⟨S2, hA⟩))
  refine H1.out _ _ ?_
  clear H1 S1 F1
  generalize w1.heap.size = ba at *
  clear sz oc
  have hcg : Hid (∀ W', Below W.heap.size W W' → Calls Tryd.prog 5 #[.slice (some ⟨ba, 0, none⟩) 32 32] W' fun e w' => e = .returned (.tuple #[.agg #[.int .u64 (l0 n), .int .u64 (l1 n), .int .u64 (l2 n), .int .u64 (l3 n)], .int .i64 0]) ∧ Below W'.heap.size W' w') := fun W' hb => by
    have hbz : Bz W' ba 0 (putL n) := fun i hi => by
      refine cell_keep hb ?_
      have := hA i (.int .u8 ((putL n).getD i 0)) (by rw [HM.out, List.getElem?_map, List.getElem?_eq_getElem hi]; simp [List.getD, hi])
      exact this
    have r := get_all (c := 32) (put_bytsU n) W' hbz
    obtain ⟨e1, e2⟩ := put_get HK.out.2.2
    rw [e1, e2, putL_len] at r
    exact r
  clear hA LM
  refine wp_seq_k fun K2 kk => ?_
  have H2 : Hid _ := kk
  clear kk
  go_wp2_with fail
  with_reducible refine (hcg.out _ (Below.refl _ _)).mono ?_
  rintro e w2 ⟨rfl, BN⟩
  have S3 := S2.keep BN
  clear BN hcg S2 HM
  go_wp2
  refine H2.out _ _ ?_
  clear H2
  refine wp_world (fun W => Bk1 w W n ∧ Hold W w2.heap.size n) ⟨S3.alloc _, Hold.new _ _ _⟩ ?_
  clear S3
  generalize w2.heap.size = bv at *
  rintro W3 ⟨S3, hv⟩
  refine wp_seq_k fun K3 kk => ?_
  have H3 : Hid _ := kk
  clear kk
  obtain ⟨L, eL⟩ : ∃ L, L = stripL (putL n) := ⟨_, rfl⟩
  have HL : Hid (L = stripL (putL n)) := eL
  have hc := bytes_any HK.out.2.2 W3
  rw [← eL] at hc
  clear eL
  obtain ⟨x0, x1, x2, x3⟩ := S3.hx
  go_wp2_with fail
  with_reducible refine hc.mono ?_
  rintro e w4 ⟨v5, rfl, o5, BN⟩
  clear hc x0 x1 x2 x3
  have S4 := S3.keep BN
  replace hv := hv.keep BN
  clear BN S3
  obtain ⟨a5, g5, c5, rfl, _, z5, y5, _, _, _⟩ := o5.lies
  have hst : Hid (Calls Tryd.prog 6 #[.slice a5 L.length c5] w4 fun e w' => e = .returned (.tuple #[.agg #[.int .u64 (l0 n), .int .u64 (l1 n), .int .u64 (l2 n), .int .u64 (l3 n)], .int .i64 0]) ∧ Below w4.heap.size w4 w') := by
    obtain ⟨b1, b2, b3, b4⟩ := strip_byts HK.out.2.2
    rw [← HL.out] at b1 b2 b3 b4
    have r := strict_az (c := c5) b1 z5 w4 y5
    rw [b3, b4] at r
    exact r
  clear o5 z5 y5
  go_wp2_with fail
  with_reducible refine hst.out.mono ?_
  rintro e w5 ⟨rfl, BN⟩
  have S5 := S4.keep BN
  replace hv := hv.keep BN
  clear BN S4 hst
  go_wp2
  refine H3.out _ _ ?_
  clear H3
  refine wp_world (fun W => Bk1 w W n ∧ Hold W bv n ∧ Hold W w5.heap.size n) ⟨S5.alloc _, hv.alloc _, Hold.new _ _ _⟩ ?_
  clear S5 hv
  generalize w5.heap.size = bw at *
  rintro W5 ⟨S5, hv, hw⟩
  refine wp_seq_k fun K4 kk => ?_
  have H4 : Hid _ := kk
  clear kk
  obtain ⟨x0, x1, x2, x3⟩ := S5.hx
  go_wp2_with fail
  with_reducible refine (T1.out _ S5.hp).mono ?_
  rintro e w6 ⟨rfl, BN⟩
  clear x0 x1 x2 x3
  have S6 := S5.keep BN
  replace hv := hv.keep BN; replace hw := hw.keep BN
  clear BN S5
  go_wp2_with fail
  with_reducible refine (P1.out _ S6.hp).mono ?_
  rintro e w7 ⟨rfl, BN⟩
  have S7 := S6.keep BN
  replace hv := hv.keep BN; replace hw := hw.keep BN
  clear BN S6
  go_wp2
  refine H4.out _ _ ?_
  clear H4
  refine wp_world (fun W => Bk1 w W n ∧ Hold W bv n ∧ Hold W bw n ∧ Hold W w7.heap.size n) ⟨S7.alloc _, hv.alloc _, hw.alloc _, Hold.new _ _ _⟩ ?_
  clear S7 hv hw
  generalize w7.heap.size = bY at *
  rintro W7 ⟨S7, hv, hw, hy⟩
  refine wp_seq_k fun K5 kk => ?_
  have H5 : Hid _ := kk
  clear kk
  obtain ⟨x0, x1, x2, x3⟩ := S7.hx
  obtain ⟨v0, v1, v2, v3⟩ := hv
  obtain ⟨u0, u1, u2, u3⟩ := hw
  obtain ⟨y0, y1, y2, y3⟩ := hy
  have tl : ((t.length : Int) == 0) = false := by rw [kl.out]; have := HK.out.1; rw [beq_eq_false_iff_ne]; omega
  go_wp2_with fail
  with_reducible refine (T1.out _ S7.hp).mono ?_
  rintro e w8 ⟨rfl, BN⟩
  clear x0 x1 x2 x3 v0 v1 v2 v3 u0 u1 u2 u3 y0 y1 y2 y3
  have S8 := S7.keep BN
  clear BN S7
  have tl2 : ((⟨t.toArray⟩ : ByteArray).size : Int) = (t.length : Int) := by simp [ByteArray.size]
  go_wp2
  refine H5.out _ _ ?_
  clear H5 tl tl2 T1 P1 kl HK HL
  refine wp_seq_k fun K6 kk => ?_
  have H6 : Hid _ := kk
  clear kk
  have hc := strict_az (c := c) HA.out.2.1 HA.out.2.2.1 w8 (HA.out.2.2.2 w8 S8.B)
  obtain ⟨z, Hz⟩ : ∃ z, Hid (z = sv X) := ⟨_, rfl⟩
  obtain ⟨h, Hh⟩ : ∃ z, Hid (z = se X) := ⟨_, rfl⟩
  rw [← Hz.out, ← Hh.out] at hc
  go_wp2_with fail
  with_reducible refine hc.mono ?_
  rintro e w9 ⟨rfl, BN⟩
  have S9 := S8.keep BN
  clear BN S8 hc
  go_wp2
  refine H6.out _ _ ?_
  clear H6
  refine wp_world (fun W => Bk1 w W n ∧ Hold W w9.heap.size z) ⟨S9.alloc _, Hold.new _ _ _⟩ ?_
  clear S9
  generalize w9.heap.size = bz at *
  rintro W9 ⟨S9, hz⟩
  refine wp_seq_k fun K7 kk => ?_
  have H7 : Hid _ := kk
  clear kk
  by_cases h0 : h = 0
  · have q0 : (h == 0) = true := by simp [h0]
    have HB : Hid (Num z ∧ stripL (putL z) = X) := by rw [Hz.out]; exact strict_back HA.out.2.1 (by rw [← Hh.out]; exact h0)
    clear h0
    have hc := bytes_any HB.out.1 W9
    rw [HB.out.2] at hc
    obtain ⟨x0, x1, x2, x3⟩ := hz
    go_wp2_with fail
    with_reducible refine hc.mono ?_
    rintro e w10 ⟨v5, rfl, o5, BN⟩
    clear hc x0 x1 x2 x3
    have S10 := S9.keep BN
    clear BN S9
    obtain ⟨a5, g5, c5, rfl, _, z5, y5, _, _, _⟩ := o5.lies
    have hst : Hid (Calls Tryd.prog 10 #[.slice a5 X.length c5, .slice a X.length c] w10 fun e w' => e = .returned (.bool true) ∧ Below w10.heap.size w10 w') := by
      have r := usame_any (c := c5) (c' := c) (by have := HA.out.1; omega) z5 HA.out.2.2.1 w10 y5 (HA.out.2.2.2 w10 S10.B)
      rw [decide_eq_true rfl] at r
      exact r
    clear o5 z5 y5
    go_wp2_with fail
    with_reducible refine hst.out.mono ?_
    rintro e w11 ⟨rfl, BN⟩
    have S11 := S10.keep BN
    clear BN S10 hst
    go_wp2
    refine H7.out _ _ ?_
    clear H7
    refine wp_world (fun W => Bk1 w W n) S11 ?_
    clear S11
    rintro Wt St
    refine wp_seq_k fun K8 kk => ?_
    have H8 : Hid _ := kk
    clear kk
    go_wp2_with fail
    with_reducible refine (P2.out _ St.hp).mono ?_
    rintro e w12 ⟨rfl, BN⟩
    have S12 := St.keep BN
    clear BN St P2
    go_wp2
    refine H8.out _ _ ?_
    clear H8
    refine wp_world (fun W => Bk1 w W n ∧ Hold W w12.heap.size (pv s)) ⟨S12.alloc _, Hold.new _ _ _⟩ ?_
    clear S12
    generalize w12.heap.size = bt at *
    rintro Wu ⟨Su, ht⟩
    by_cases e0 : pe s = 0
    · have p0 : (pe s != 0) = false := by simp [e0]
      have T2 : Hid (Calls Tryd.prog 9 #[.agg #[.int .u64 (l0 (pv s)), .int .u64 (l1 (pv s)), .int .u64 (l2 (pv s)), .int .u64 (l3 (pv s))]] Wu fun e w' => e = .returned (.string s) ∧ Below Wu.heap.size Wu w') := by
        obtain ⟨h1, h2⟩ := parse_tx e0
        have r := text_walk (pv_num s) h1 (size78 e0) Wu Su.hp
        rw [h2] at r
        exact r
      clear e0
      generalize pe s = f at *
      generalize pv s = g at *
      obtain ⟨x0, x1, x2, x3⟩ := ht
      go_wp2_with fail
      with_reducible refine T2.out.mono ?_
      rintro e w13 ⟨rfl, BN⟩
      have B9 : Below w.heap.size w w13 := Su.B.trans (BN.mono Su.B.size)
      clear BN
      go_wp2
      go_ret
      exact ⟨by first | rfl | simp, B9⟩
    · have p0 : (pe s != 0) = true := by simpa using e0
      clear e0
      generalize pe s = f at *
      generalize pv s = g at *
      have B9 := Su.B
      go_wp2
      go_ret
      exact ⟨by first | rfl | simp, B9⟩
  · have q0 : (h == 0) = false := by simpa using h0
    clear h0
    go_wp2
    refine H7.out _ _ ?_
    clear H7
    refine wp_world (fun W => Bk1 w W n) S9 ?_
    clear S9
    rintro Wt St
    refine wp_seq_k fun K8 kk => ?_
    have H8 : Hid _ := kk
    clear kk
    go_wp2_with fail
    with_reducible refine (P2.out _ St.hp).mono ?_
    rintro e w12 ⟨rfl, BN⟩
    have S12 := St.keep BN
    clear BN St P2
    go_wp2
    refine H8.out _ _ ?_
    clear H8
    refine wp_world (fun W => Bk1 w W n ∧ Hold W w12.heap.size (pv s)) ⟨S12.alloc _, Hold.new _ _ _⟩ ?_
    clear S12
    generalize w12.heap.size = bt at *
    rintro Wu ⟨Su, ht⟩
    by_cases e0 : pe s = 0
    · have p0 : (pe s != 0) = false := by simp [e0]
      have T2 : Hid (Calls Tryd.prog 9 #[.agg #[.int .u64 (l0 (pv s)), .int .u64 (l1 (pv s)), .int .u64 (l2 (pv s)), .int .u64 (l3 (pv s))]] Wu fun e w' => e = .returned (.string s) ∧ Below Wu.heap.size Wu w') := by
        obtain ⟨h1, h2⟩ := parse_tx e0
        have r := text_walk (pv_num s) h1 (size78 e0) Wu Su.hp
        rw [h2] at r
        exact r
      clear e0
      generalize pe s = f at *
      generalize pv s = g at *
      obtain ⟨x0, x1, x2, x3⟩ := ht
      go_wp2_with fail
      with_reducible refine T2.out.mono ?_
      rintro e w13 ⟨rfl, BN⟩
      have B9 : Below w.heap.size w w13 := Su.B.trans (BN.mono Su.B.size)
      clear BN
      go_wp2
      go_ret
      exact ⟨by first | rfl | simp, B9⟩
    · have p0 : (pe s != 0) = true := by simpa using e0
      clear e0
      generalize pe s = f at *
      generalize pv s = g at *
      have B9 := Su.B
      go_wp2
      go_ret
      exact ⟨by first | rfl | simp, B9⟩
end Go.Proofs.YtnokgnhcnhfkpaaDoor
