import Derived.Test.YtahekhamhdfkdaaRwH
import Derived.Test.YtahekhamhdfkdaaRxS
/- Layer 7: the law RlpParts, from its beginning. -/
namespace Go.Proofs.Ytahekhamhdfkdaa
open Go.RowKit Go.Sort
theorem oddS_at : ∀ {ts : List Tr} {i : Nat}, oddS ts = false → i < ts.length → oddT (ts.getD i zT) = false
  | [], _, _, h => absurd h (Nat.not_lt_zero _)
  | t :: ts, 0, h, _ => by rw [oddS] at h; simp only [Bool.or_eq_false_iff] at h; exact h.1
  | t :: ts, i + 1, h, hi => by
    rw [oddS] at h
    simp only [Bool.or_eq_false_iff] at h
    have := oddS_at (i := i) h.2 (by simpa using hi)
    simpa using this
theorem dpS_at : ∀ {ts : List Tr} {i : Nat}, i < ts.length → dpT (ts.getD i zT) ≤ dpS ts
  | [], _, h => absurd h (Nat.not_lt_zero _)
  | t :: ts, 0, _ => by rw [dpS]; show dpT t ≤ _; omega
  | t :: ts, i + 1, hi => by
    have := dpS_at (ts := ts) (i := i) (by simpa using hi)
    rw [dpS]
    have e : (t :: ts).getD (i + 1) zT = ts.getD i zT := by simp
    rw [e]; omega
theorem enc_at {ts : List Tr} {i : Nat} (h : i < ts.length) : (ts.map encT).getD i [] = encT (ts.getD i zT) := by
  simp [List.getD, h]
set_option maxRecDepth 100000 in
set_option maxHeartbeats 8000000 in
theorem parts_law {ts : List Tr} {A : List Int} {a la : Option Addr} {b o c lb lo lc : Nat} (hw : wtS ts ≤ 1048576) (hy : ByS ts) (hA : Byts A) (hl : A.length ≤ 1048576) (hc : A.length ≤ c) (ha : Az a b o A) (w : World) (h : Bz w b o A)
    (hlc : ts.length ≤ lc ∧ (la = none → lc = 0)) (hla : ts = [] ∨ la = some ⟨lb, lo, none⟩) (hI : Its w lb lo ts) :
    Calls Try.prog 6 #[.slice la ts.length lc, .slice a A.length c] w fun e w' => e = .returned (.bool true) ∧ Below w.heap.size w w' := by
  have wt : wtT (.mk true [] ts) < 4194304 := by rw [wtT]; simp; omega
  cases hs : sndT 0 (.mk true [] ts) with
  | mk sn ok =>
  have SN : Hid (∀ W d q, It W (.mk true [] ts) d q → Calls Try.prog 16 #[.agg #[.bool true, d, q], .int .i64 0] W fun e w' => e = .returned (.tuple #[.int .i64 (sn : Int), .bool ok]) ∧ Below W.heap.size W w') := fun W d q h => by
    have r := sound_any (.mk true [] ts) 0 (by omega) wt W h
    rw [hs] at r
    exact r
  have TL : Hid (∀ (W : World), Below w.heap.size w W → ∀ (x4 x5 x6 x7 x8 x9 x10 x11 x12 x13 x14 x15 x16 x23 x24 x25 x26 x27 x28 x29 x30 x31 x32 x33 x34 x35 x36 x37 x38 x39 x40 x41 x42 x43 x44 x45 x46 x47 x48 x49 x50 x51 x52 x53 x54 x55 x56 x57 x58 x59 x60 x61 x62 x63 x64 x65 x66 x67 x68 x69 x70 x71 x72 x73 x74 x75 x76 x77 x78 x79 x80 x81 x82 x83 x84 x85 x86 x87 x88 x89 x90 x91 x92 x93 : Value), WpFrom Try.prog Try.f6 4 (bodyPost Try.prog Try.f6 (fun e w' => e = .returned (.bool true) ∧ Below w.heap.size w w')) { tmps := #[.slice la ts.length lc, .slice a A.length c, undef, undef, x4, x5, x6, x7, x8, x9, x10, x11, x12, x13, x14, x15, x16, undef, undef, undef, undef, undef, undef, x23, x24, x25, x26, x27, x28, x29, x30, x31, x32, x33, x34, x35, x36, x37, x38, x39, x40, x41, x42, x43, x44, x45, x46, x47, x48, x49, x50, x51, x52, x53, x54, x55, x56, x57, x58, x59, x60, x61, x62, x63, x64, x65, x66, x67, x68, x69, x70, x71, x72, x73, x74, x75, x76, x77, x78, x79, x80, x81, x82, x83, x84, x85, x86, x87, x88, x89, x90, x91, x92, x93, undef, undef, undef, undef, undef, undef, undef, undef, undef, undef, undef, undef, undef, undef, undef, undef, undef, undef, undef, undef, undef, undef, undef, undef, undef, undef, undef, undef, undef, undef, undef, undef, undef, undef], defers := [] } W) := fun W B => parts_tail hA hl hc ha w W B h
  have IT : Hid (∀ W, Below w.heap.size w W → It W (.mk true [] ts) (.slice none 0 0) (.slice la ts.length lc) ∧ Its W lb lo ts) := fun W B => ⟨Its.tree true (hI.keep B) hlc hla, hI.keep B⟩
  have hln : (ts.length : Int) ≤ 1048576 := by have := len_wt ts; omega
  cases ok with
  | false =>
    clear hw hy hA hl hc ha h hlc hla hI wt hs
    generalize A.length = m at *
    generalize ts.length = tn at *
    go_enter Try.func6, Try.ntmps6
    refine wp_seq_k fun K h => ?_
    have H : Hid _ := h
    clear h
    go_wp2_with fail
    refine H.out _ _ ?_
    clear H K
    refine wp_seq_k fun K h => ?_
    have H : Hid _ := h
    clear h
    go_wp2_with fail
    refine H.out _ _ ?_
    clear H K
    refine wp_world (fun V => Below w.heap.size w V ∧ Bx V w.heap.size true (.slice none 0 0) (.slice la tn lc)) ⟨(Below.refl _ _).alloc (Nat.le_refl _) _, Bx.new⟩ ?_
    rintro W0 ⟨B, X0⟩
    obtain ⟨x0, x1, x2⟩ := X0
    refine wp_seq_k fun K h => ?_
    have H : Hid _ := h
    clear h
    go_wp2_with (go_at_call 16; (refine (SN.out W0 _ _ (IT.out W0 B).1).mono ?_); rintro e w1 ⟨rfl, hb⟩)
    refine H.out _ _ ?_
    clear H K
    have X0 : Bx w1 w.heap.size true (.slice none 0 0) (.slice la tn lc) := Bx.keep ⟨x0, x1, x2⟩ hb
    replace B := B.trans (hb.mono B.size)
    clear hb x0 x1 x2
    refine wp_seq_k fun K h => ?_
    have H : Hid _ := h
    clear h
    go_wp2_with fail
    refine H.out _ _ ?_
    clear H K
    exact (TL.out w1 B _ _ _ _ _ _ _ _ _ _ _ _ _ _ _ _ _ _ _ _ _ _ _ _ _ _ _ _ _ _ _ _ _ _ _ _ _ _ _ _ _ _ _ _ _ _ _ _ _ _ _ _ _ _ _ _ _ _ _ _ _ _ _ _ _ _ _ _ _ _ _ _ _ _ _ _ _ _ _ _ _ _ _ _).out rfl
  | true =>
    obtain ⟨s1, s2, s3, s4, s5, s6⟩ := snd_list hs
    have er : errT (.mk true [] ts) = 0 := by unfold errT; rw [s1, if_neg (by decide), if_neg (by omega)]
    have hE : Byts (encT (.mk true [] ts)) := fun i => (encT_bys (.mk true [] ts) (by rw [ByT]; exact ⟨fun x hx => (by cases hx), hy⟩) wt).at i
    have TW : Hid (∀ (u : Tr) W d q, wtT u < 4194304 → It W u d q → Calls Try.prog 18 #[.agg #[.bool u.l, d, q]] W fun e w' => ∃ d' q', e = .returned (.agg #[.bool u.l, d', q']) ∧ It w' u d' q' ∧ Below W.heap.size W w') := fun u W d q hw hI => (twin_any hw W hI).mono fun e w' ⟨d', q', h1, h2, h3⟩ => ⟨d', q', h1, Ot.it _ h2, h3⟩
    have EN : Hid (∀ (u : Tr) W d q, wtT u < 4194304 → errT u = 0 → It W u d q → Calls Try.prog 17 #[.agg #[.bool u.l, d, q]] W fun e w' => ∃ v, e = .returned (.tuple #[v, .int .i64 0]) ∧ OwnB W.heap.size w' v (encT u) ∧ Below W.heap.size W w') := fun u W d q hw er hI => by
      have r := Encode_any hw W hI
      rw [encZ, er, if_pos rfl] at r
      exact r
    have PA : Hid (∀ W v B, OwnB B W v (encT (.mk true [] ts)) → Calls Try.prog 22 #[v] W fun e w' => ∃ a' b' c' V, e = .returned (.tuple #[.slice a' ts.length c', .int .i64 0]) ∧ AzP a' b' 0 (ts.map encT) ∧ Pz w' b' 0 (ts.map encT) V ∧ Below W.heap.size W w') := fun W v B ho => by
      obtain ⟨a2, g2, p2, c2, rfl, q2, z2, _, y2⟩ := ho.tz
      have r := parts_all hE q2 z2 W y2
      rw [ptP_enc s2 s4 (by omega)] at r
      refine r.mono fun e w' ⟨v, VS, h1, h2, h3⟩ => ?_
      obtain ⟨a', b', c', V, rfl, h4, h5⟩ := h2.pz
      simp only [List.length_map] at h1
      exact ⟨a', b', c', V, h1, h4, h5, h3⟩
    have JN : Hid (∀ W a' b' c' V, AzP a' b' 0 (ts.map encT) → Pz W b' 0 (ts.map encT) V → Calls Try.prog 23 #[.slice a' ts.length c'] W fun e w' => ∃ v, e = .returned (.tuple #[v, .int .i64 0]) ∧ OwnB W.heap.size w' v (encT (.mk true [] ts)) ∧ Below W.heap.size W w') := fun W a' b' c' V h1 h2 => by
      have hlen := len_wt ts
      have r := joinP_any (c := c') (by rw [len_all, enc_flat]; omega) (by rw [List.length_map]; omega) h1 W h2
      rw [len_all, fl_all, enc_flat, List.length_map] at r
      rw [encT]
      simp only [if_true]
      exact r
    have SO : Hid (∀ W v v' B B', OwnB B W v (encT (.mk true [] ts)) → OwnB B' W v' (encT (.mk true [] ts)) → Calls Try.prog 14 #[v, v'] W fun e w' => e = .returned (.bool true) ∧ Below W.heap.size W w') := fun W v v' B B' h1 h2 => same_own (by omega) h1 h2
    have EI : Hid (∀ i, i < ts.length → wtT (ts.getD i zT) < 4194304 ∧ errT (ts.getD i zT) = 0 ∧ (encT (ts.getD i zT)).length < 281474976710656) := fun i hi => by
      have h1 := wt_item hi
      have h2 := oddS_at s2 hi
      have h3 := dpS_at hi
      have h4 := encT_len (ts.getD i zT)
      exact ⟨by omega, by unfold errT; rw [h2, if_neg (by decide), if_neg (by omega)], by omega⟩
    have SP : Hid (∀ i W v V B, i < ts.length → Tz W v ((ts.map encT).getD i []) → OwnB B W V (encT (ts.getD i zT)) → Calls Try.prog 14 #[v, V] W fun e w' => e = .returned (.bool true) ∧ Below W.heap.size W w') := fun i W v V B hi h1 h2 => by
      rw [enc_at hi] at h1
      obtain ⟨a1, g1, p1, c1, rfl, _, z1, _, y1⟩ := h1
      obtain ⟨a2, g2, p2, c2, rfl, _, z2, _, y2⟩ := h2.tz
      have k := same7_any (c := c1) (c' := c2) (EI.out i hi).2.2 z1 z2 W y1 y2
      rw [decide_eq_true rfl] at k
      exact k
    have WT : Hid (wtT (.mk true [] ts) < 4194304 ∧ errT (.mk true [] ts) = 0) := ⟨wt, er⟩
    have TW0 : Hid (∀ W d q, It W (.mk true [] ts) d q → Calls Try.prog 18 #[.agg #[.bool true, d, q]] W fun e w' => ∃ d' q', e = .returned (.agg #[.bool true, d', q']) ∧ It w' (.mk true [] ts) d' q' ∧ Below W.heap.size W w') := fun W d q h => TW.out (.mk true [] ts) W d q wt h
    have EN0 : Hid (∀ W d q, It W (.mk true [] ts) d q → Calls Try.prog 17 #[.agg #[.bool true, d, q]] W fun e w' => ∃ v, e = .returned (.tuple #[v, .int .i64 0]) ∧ OwnB W.heap.size w' v (encT (.mk true [] ts)) ∧ Below W.heap.size W w') := fun W d q h => EN.out (.mk true [] ts) W d q wt er h
    have HLA : Hid (ts = [] ∨ la = some ⟨lb, lo, none⟩) := hla
    clear hw hy hA hl hc ha h hlc hla hI wt hs s1 s2 s3 s4 s5 s6 er hE
    generalize A.length = m at *
    generalize htn : ts.length = tn at *
    have HTN : Hid (ts.length = tn) := htn
    clear htn
    go_enter Try.func6, Try.ntmps6
    refine wp_seq_k fun K h => ?_
    have H : Hid _ := h
    clear h
    go_wp2_with fail
    refine H.out _ _ ?_
    clear H K
    refine wp_seq_k fun K h => ?_
    have H : Hid _ := h
    clear h
    go_wp2_with fail
    refine H.out _ _ ?_
    clear H K
    refine wp_world (fun V => Below w.heap.size w V ∧ Bx V w.heap.size true (.slice none 0 0) (.slice la tn lc)) ⟨(Below.refl _ _).alloc (Nat.le_refl _) _, Bx.new⟩ ?_
    rintro W0 ⟨B, X0⟩
    obtain ⟨x0, x1, x2⟩ := X0
    refine wp_seq_k fun K h => ?_
    have H : Hid _ := h
    clear h
    go_wp2_with (go_at_call 16; (refine (SN.out W0 _ _ (IT.out W0 B).1).mono ?_); rintro e w1 ⟨rfl, hb⟩)
    refine H.out _ _ ?_
    clear H K
    have X0 : Bx w1 w.heap.size true (.slice none 0 0) (.slice la tn lc) := Bx.keep ⟨x0, x1, x2⟩ hb
    replace B := B.trans (hb.mono B.size)
    clear hb x0 x1 x2
    refine wp_seq_k fun K h => ?_
    have HT : Hid _ := h
    clear h
    obtain ⟨x0, x1, x2⟩ := X0
    go_wp2_with fail
    clear x0 x1 x2
    with_reducible refine (TW0.out w1 _ _ (IT.out w1 B).1).mono ?_
    rintro e w2 ⟨d2, q2, rfl, I2, hb⟩
    replace B := B.trans (hb.mono B.size)
    clear hb
    go_wp2_with fail
    with_reducible refine (EN0.out w2 _ _ I2).mono ?_
    rintro e w3 ⟨v3, rfl, O3, hb⟩
    replace B := B.trans (hb.mono B.size)
    clear hb
    clear I2
    go_wp2_with fail
    with_reducible refine (PA.out w3 v3 _ O3).mono ?_
    rintro e w4 ⟨pa, pb, pc, PV, rfl, pz, py, hb⟩
    replace B := B.trans (hb.mono B.size)
    replace O3 := O3.keep hb
    clear hb
    have HPZ : Hid (AzP pa pb 0 (ts.map encT)) := pz
    clear pz PA
    have hbn : ((tn : Int) != (tn : Int)) = false := by simp
    go_wp2_with fail
    clear hbn
    have FW : Hid (∀ V, Below w4.heap.size w4 V → Below w.heap.size w V ∧ OwnB w2.heap.size V v3 (encT (.mk true [] ts)) ∧ Pz V pb 0 (ts.map encT) PV) := fun V hV => ⟨B.trans (hV.mono B.size), O3.keep hV, py.keep hV⟩
    clear B O3 py
    go_loopg [12] tn (fun kk iv wr => ∃ i : Nat, kk = tn - i ∧ i ≤ tn ∧ iv = .int .i64 (i : Int) ∧ Below w4.heap.size w4 wr)
    case atStart => exact ⟨0, rfl, Nat.zero_le _, rfl, Below.refl _ _⟩
    case round =>
      obtain ⟨i, hk', hi, rfl, BW⟩ := hrel
      have HK : Hid (gk = tn - i ∧ i ≤ tn) := ⟨hk', hi⟩
      clear hk'
      obtain ⟨B0, O3, py⟩ := FW.out wr BW
      by_cases h8 : i = tn
      · subst h8
        clear HK hi
        go_wp2_with fail
        with_reducible refine (JN.out wr pa pb pc PV HPZ.out py).mono ?_
        rintro e w5 ⟨v5, rfl, O5, hb⟩
        have B := B0.trans (hb.mono B0.size)
        replace O3 := O3.keep hb
        clear hb B0 py
        go_wp2_with fail
        with_reducible refine (SO.out w5 v5 v3 _ _ O5 O3).mono ?_
        rintro e w6 ⟨rfl, hb⟩
        replace B := B.trans (hb.mono B.size)
        clear hb O5 O3
        go_wp2_with fail
        refine HT.out _ _ ?_
        exact (TL.out w6 B _ _ _ _ _ _ _ _ _ _ _ _ _ _ _ _ _ _ _ _ _ _ _ _ _ _ _ _ _ _ _ _ _ _ _ _ _ _ _ _ _ _ _ _ _ _ _ _ _ _ _ _ _ _ _ _ _ _ _ _ _ _ _ _ _ _ _ _ _ _ _ _ _ _ _ _ _ _ _ _ _ _ _ _).out rfl
      · have hlt : i < ts.length := by have := HTN.out; omega
        have hlt' : (i : Int) < (tn : Int) := by omega
        have ea : la = some ⟨lb, lo, none⟩ := by
          rcases HLA.out with e | e
          · rw [e] at hlt; exact absurd hlt (Nat.not_lt_zero _)
          · exact e
        have eb : pa = some ⟨pb, 0, none⟩ := HPZ.out.resolve_left fun e => by
          have := congrArg List.length e
          rw [List.length_map] at this
          simp at this
          rw [this] at hlt; exact absurd hlt (Nat.not_lt_zero _)
        subst ea eb
        obtain ⟨d1, q1, e1, e2⟩ := (IT.out wr B0).2.at i hlt
        obtain ⟨w1', w2', w3'⟩ := EI.out i (by omega)
        have MC := TW.out (ts.getD i zT) wr d1 q1 w1' e2
        have HMC : Hid (Calls Try.prog 18 #[.agg #[.bool (ts.getD i zT).l, d1, q1]] wr fun e w' => ∃ d' q', e = .returned (.agg #[.bool (ts.getD i zT).l, d', q']) ∧ It w' (ts.getD i zT) d' q' ∧ Below wr.heap.size wr w') := MC
        have HEN : Hid (∀ W d q, It W (ts.getD i zT) d q → Calls Try.prog 17 #[.agg #[.bool (ts.getD i zT).l, d, q]] W fun e w' => ∃ v, e = .returned (.tuple #[v, .int .i64 0]) ∧ OwnB W.heap.size w' v (encT (ts.getD i zT)) ∧ Below W.heap.size W w') := fun W d q h => EN.out (ts.getD i zT) W d q w1' w2' h
        have HSP : Hid (∀ W v V B, Tz W v ((ts.map encT).getD i []) → OwnB B W V (encT (ts.getD i zT)) → Calls Try.prog 14 #[v, V] W fun e w' => e = .returned (.bool true) ∧ Below W.heap.size W w') := fun W v V B h1 h2 => SP.out i W v V B (by omega) h1 h2
        have HPY : Hid (∀ V, Below wr.heap.size wr V → V.cell? ⟨pb, i, none⟩ = some (PV i) ∧ Tz V (PV i) ((ts.map encT).getD i [])) := fun V hV => by
          have := (py.keep hV) i (by rw [List.length_map]; exact hlt)
          rw [Nat.zero_add] at this
          exact this
        clear MC e2 w1' w2' w3' h8 hi O3 py
        have R1 : Hid (wr.rangeAt lb (lo + i * 3) [.bool (ts.getD i zT).l, d1, q1]) := e1
        clear e1
        generalize (ts.map encT).getD i [] = PX at *
        generalize ts.getD i zT = u at *
        generalize hlu : u.l = lu at *
        clear hlu
        refine wp_seq_k fun K h => ?_
        have H5 : Hid _ := h
        clear h
        go_wp2_with fail
        refine H5.out _ _ ?_
        clear H5 K
        refine wp_seq_k fun K h => ?_
        have H5 : Hid _ := h
        clear h
        refine wp_block ?_
        refine wp_seq_k fun K h => ?_
        have H : Hid _ := h
        clear h
        go_wp2_with (first | (refine wpList_load_mid rfl _ _ rfl lb (lo + i * 3) rfl _ _ R1.out Try.underlying26 rfl size_it ?_) | (go_at_call 18; (refine HMC.out.mono ?_); rintro e w5 ⟨d5, q5, rfl, I5, hb5⟩) | (go_at_call 17; (refine (HEN.out w5 d5 q5 I5).mono ?_); rintro e w6 ⟨v6, rfl, O6, hb6⟩))
        refine H.out _ _ ?_
        clear H K HMC HEN R1
        have hb7 := hb5.trans (hb6.mono hb5.size)
        obtain ⟨cp, tp⟩ := HPY.out w6 hb7
        have B7 := BW.trans (hb7.mono BW.size)
        obtain ⟨ta, tg, tq, tc, pe, t1, t2, t3, t4⟩ := tp
        have tz : Tz w6 (PV i) PX := ⟨ta, tg, tq, tc, pe, t1, t2, t3, t4⟩
        clear t1 t2 t3 t4 hb5 hb6 hb7 I5 HPY B0
        generalize PV i = pv at *
        generalize PX.length = pn at pe
        subst pe
        go_wp2_with fail
        with_reducible refine (HSP.out w6 _ v6 _ tz O6).mono ?_
        rintro e w7 ⟨rfl, hb⟩
        replace B7 := B7.trans (hb.mono B7.size)
        clear hb tz O6 cp
        go_wp2_with fail
        refine H5.out _ _ ?_
        clear H5
        go_wp2_with fail
        go_roundg (tn - (i + 1))
        case measure => have := HK.out.1; omega
        case rel => exact ⟨i + 1, rfl, by omega, by go_num, B7⟩
end Go.Proofs.Ytahekhamhdfkdaa
