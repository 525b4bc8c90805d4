import Derived.Test.YtanokeeffbiijaaDoorRfC
import Derived.Test.YtanokeeffbiijaaDoorRfG
/- waybillref17.takes. -/
namespace Go.Proofs.YtanokeeffbiijaaDoor.tq
open Go.RowKit Go.Sort
/-- As takes reckons, so far. -/
def takN (K : List (List Int)) (k : List Int) (i : Nat) : Bool := decide (K.length = 0) || kHas K k i
theorem takN_0 {K : List (List Int)} {k : List Int} : takN K k 0 = decide (K.length = 0) := by unfold takN kHas; rw [Bool.or_false]
theorem takN_all {K : List (List Int)} {k : List Int} : takN K k K.length = tak K k := rfl
theorem takN_next {K : List (List Int)} {k : List Int} {i : Nat} : takN K k (i + 1) = (takN K k i || decide (K.getD i [] = k)) := by
  have e : decide (K.getD i [] = k) = decide (k = K.getD i []) := by
    by_cases h : k = K.getD i []
    · rw [decide_eq_true h, decide_eq_true h.symm]
    · rw [decide_eq_false h, decide_eq_false fun q => h q.symm]
  rw [takN, kHas, takN, e, Bool.or_assoc]
set_option maxRecDepth 100000 in
set_option maxHeartbeats 16000000 in
theorem rtakes_any {aa ak : Option Addr} {ba oa ca bk ok ck : Nat} {l : Lg} {As : List (List Int)} {L : List Kl} (hF : BdF As L) (hT : l.Tl.length < 1000000000) (w : World) (hG : LgG w l) (hA : AsG w aa ba oa ca As) (hK : KssG w ak bk ok ck L) :
    Calls Tryd.prog 19 #[.agg (lgC l).toArray, .slice aa As.length ca, .slice ak L.length ck] w fun e w' => e = .returned (.bool (logTk As L l)) ∧ Below w.heap.size w w' := by
  obtain ⟨n, hn⟩ : ∃ n, n = As.length := ⟨_, rfl⟩
  obtain ⟨m, hm⟩ : ∃ m, m = L.length := ⟨_, rfl⟩
  obtain ⟨p, hp⟩ : ∃ p, p = l.Tl.length := ⟨_, rfl⟩
  have n1 : (n : Int) ≤ 1000000000 := by have := hF.1; omega
  have m1 : (m : Int) ≤ 1000000000 := by have := hF.2.1; omega
  have p1 : (p : Int) < 1000000000 := by omega
  have HN : Hid (As.length = n ∧ L.length = m ∧ l.Tl.length = p ∧ BdF As L) := ⟨hn.symm, hm.symm, hp.symm, hF⟩
  have HA : Hid (∀ W, Below w.heap.size w W → AsG W aa ba oa ca As) := fun W B => hA.keep B
  have HK : Hid (∀ W, Below w.heap.size w W → KssG W ak bk ok ck L) := fun W B => hK.keep B
  have HT : Hid (∀ W, Below w.heap.size w W → KsG W l.Ta l.Tb l.To l.Tc l.Tl) := fun W B => hG.T.keep B
  have EA : Hid (∀ i, i < n → ∀ w, (Op.equalIn 10000 38 (.agg (hC (As.getD i [])).toArray) (.agg (hC l.adr).toArray)).run Tryd.prog w = .ok (decide (As.getD i [] = l.adr)) w) := fun i hi w => eq_ad (hA.2.2 i (by omega)).1.1 hG.adr.1 w
  have EH : Hid (∀ j, j < m → ∀ i, i < (L.getD j zKl).ks.length → j < p → ∀ w, (Op.equalIn 10000 30 (.agg (hC ((L.getD j zKl).ks.getD i [])).toArray) (.agg (hC (l.Tl.getD j [])).toArray)).run Tryd.prog w = .ok (decide ((L.getD j zKl).ks.getD i [] = l.Tl.getD j [])) w) := fun j hj i hi hj2 w => eq_hs ((hK.2.2 j (by omega)).1.2.2 i hi).1.1 (hG.T.2.2 j (by omega)).1.1 w
  have IA : Hid ((Tryd.prog.info? 38).map (·.size) = some (hC l.adr).length) := by show _ = _; rw [hC_len, hG.adr.1]; exact size_ad
  have IC : Hid ((lgC l).length = 22 ∧ ∀ (W : World) (g : Nat), W.rangeAt g 0 (lgC l) → W.rangeAt g 0 (hC l.adr) ∧ W.cell? ⟨g, 20, none⟩ = some (.slice l.Ta p l.Tc)) := ⟨lgC_len hG.adr.1, fun W g h => by
    have := lg_parts hG.adr.1 h
    rw [hp]
    simpa using ⟨this.1, this.2.1⟩⟩
  have LK : Hid (logTk As L l = (tak As l.adr && (decide (m ≤ p) && topTk L l.Tl m))) := by show _ = _; rw [hm, hp]; rfl
  have S0 : Hid (takN As l.adr 0 = decide (n = 0) ∧ takN As l.adr n = tak As l.adr ∧ ∀ i, takN As l.adr (i + 1) = (takN As l.adr i || decide (As.getD i [] = l.adr))) := ⟨by rw [takN_0, hn], by rw [hn]; exact takN_all, fun i => takN_next⟩
  rw [← hn, ← hm]
  clear hF hT hG hA hK hn hm hp
  generalize lgC l = cs at *
  generalize hC l.adr = cA at *
  generalize l.Ta = Ta at *
  generalize l.Tb = Tb at *
  generalize l.To = To at *
  generalize l.Tc = Tc at *
  generalize l.Tl = Tl at *
  generalize l.adr = adr at *
  generalize logTk As L l = lk at *
  go_enter Tryd.func19, Tryd.ntmps19
  go_wp2_with fail
  refine wp_world (fun W => Below w.heap.size w W ∧ W.rangeAt w.heap.size 0 cs) ⟨(Below.refl _ _).alloc (Nat.le_refl _) _, new_range⟩ ?_
  rintro W ⟨B, r0⟩
  go_loopg [7, 8] n (fun kk av iv wr => ∃ i : Nat, kk = n - i ∧ i ≤ n ∧ av = .bool (takN As adr i) ∧ iv = .int .i64 (i : Int) ∧ Below w.heap.size w wr ∧ wr.rangeAt w.heap.size 0 cs)
  case atStart => exact ⟨0, rfl, Nat.zero_le _, by rw [S0.out.1]; congr 1; by_cases h : n = 0 <;> simp [h], rfl, B, r0⟩
  case round =>
    clear B r0 W
    obtain ⟨i, hk, hi, rfl, rfl, B, r0⟩ := hrel
    have HKK : Hid (gk = n - i) := hk
    clear hk
    by_cases h8 : i = n
    · subst h8
      rw [S0.out.2.1]
      generalize tak As adr = t1 at *
      obtain ⟨qa, c2⟩ := IC.out.2 wr _ r0
      have BR : Hid (Below w.heap.size w wr ∧ wr.rangeAt w.heap.size 0 cs) := ⟨B, r0⟩
      clear B r0 qa EA HA S0 hi
      cases t1 with
      | false =>
        have e0 : lk = false := by rw [LK.out]; rfl
        clear LK EH HT HK IC
        go_wp2
        simp [bodyPost, results, Tryd.results19, go_sem]
        first | exact ⟨e0, BR.out.1⟩ | exact ⟨e0.symm, BR.out.1⟩ | (subst e0; exact BR.out.1)
      | true =>
        by_cases h9 : p < m
        · have e0 : lk = false := by rw [LK.out, decide_eq_false (by omega)]; rfl
          have cl : (p : Int) < (m : Int) := by omega
          clear LK EH HT HK IC h9
          go_wp2
          simp [bodyPost, results, Tryd.results19, go_sem]
          first | exact ⟨e0, BR.out.1⟩ | exact ⟨e0.symm, BR.out.1⟩ | (subst e0; exact BR.out.1)
        · have HM : Hid (m ≤ p) := by show _ ≤ _; omega
          have cl : ((p : Int) < (m : Int)) = False := by simp; omega
          clear h9
          go_wp2_with fail
          obtain ⟨w1, rfl⟩ : ∃ w1 : World, w1 = wr := ⟨wr, rfl⟩
          clear cl c2
          go_loopg [9] m (fun kk jv wr => ∃ j : Nat, kk = m - j ∧ j ≤ m ∧ jv = .int .i64 (j : Int) ∧ topTk L Tl j = true ∧ Below w.heap.size w wr ∧ wr.rangeAt w.heap.size 0 cs)
          case atStart => exact ⟨0, rfl, Nat.zero_le _, rfl, rfl, BR.out⟩
          case round =>
            clear BR HKK
            obtain ⟨j, hkj, hj, rfl, ht, B, r0⟩ := hrel
            have HJ : Hid (gk = m - j ∧ topTk L Tl j = true) := ⟨hkj, ht⟩
            clear hkj ht
            by_cases h9 : j = m
            · subst h9
              have e0 : lk = true := by rw [LK.out, decide_eq_true HM.out, HJ.out.2]; rfl
              have BR : Hid (Below w.heap.size w wr) := B
              clear LK EH HT HK IC B r0 HM
              go_wp2
              simp [bodyPost, results, Tryd.results19, go_sem]
              first | exact ⟨e0, BR.out⟩ | exact ⟨e0.symm, BR.out⟩ | (subst e0; exact BR.out)
            · have jlt : j < m := by omega
              have jlt' : (j : Int) < (m : Int) := by omega
              have jp : j < p := by have := HM.out; omega
              have jp' : (j : Int) < (p : Int) := by omega
              obtain rfl : ak = some ⟨bk, ok, none⟩ := by
                rcases (HK.out _ B).2.1 with h | h
                · have := HN.out.2.1; rw [h] at this; simp at this; omega
                · exact h
              obtain rfl : Ta = some ⟨Tb, To, none⟩ := (HT.out _ B).cons (by have := HN.out.2.2.1; omega)
              have KJ : Hid (∀ W, Below w.heap.size w W → KsG W (L.getD j zKl).a (L.getD j zKl).b (L.getD j zKl).o (L.getD j zKl).c (L.getD j zKl).ks ∧ W.cell? ⟨bk, ok + j, none⟩ = some (.slice (L.getD j zKl).a (L.getD j zKl).ks.length (L.getD j zKl).c)) := fun W B => by
                have h := (HK.out W B).2.2 j (by have := HN.out.2.1; omega)
                have h2 := kl_cell h.2
                rw [Nat.mul_one] at h2
                exact ⟨h.1, h2⟩
              have TJ : Hid ((∀ W, Below w.heap.size w W → W.rangeAt Tb (To + j * 32) (hC (Tl.getD j []))) ∧ (hC (Tl.getD j [])).length = 32) := ⟨fun W B => ((HT.out W B).2.2 j (by have := HN.out.2.2.1; omega)).2, (HT.out _ B).len j (by have := HN.out.2.2.1; omega)⟩
              have EJ := EH.out j jlt
              have KN : Hid ((L.getD j zKl).ks.length ≤ 1000000000) := HN.out.2.2.2.2.2 j (by have := HN.out.2.1; omega)
              have NT : Hid (topTk L Tl (j + 1) = tak (L.getD j zKl).ks (Tl.getD j [])) := by show _ = _; rw [topTk, HJ.out.2]; rfl
              have NO : Hid (tak (L.getD j zKl).ks (Tl.getD j []) = false → lk = false) := fun h => by rw [LK.out, topTk_no (i := j + 1) m (by omega) (by rw [NT.out]; exact h)]; simp
              clear EH HK HT LK h9 hj
              generalize (L.getD j zKl).a = ka at *
              generalize (L.getD j zKl).b = kb at *
              generalize (L.getD j zKl).o = ko at *
              generalize (L.getD j zKl).c = kc at *
              generalize (L.getD j zKl).ks = KK at *
              generalize hC (Tl.getD j []) = ct at *
              generalize Tl.getD j [] = x at *
              obtain ⟨kn, hkn⟩ : ∃ kn, kn = KK.length := ⟨_, rfl⟩
              have HKN : Hid (KK.length = kn) := hkn.symm
              rw [← hkn] at KN KJ EJ
              have k1 : (kn : Int) ≤ 1000000000 := by have := KN.out; omega
              have SI : Hid (takN KK x 0 = decide (kn = 0) ∧ takN KK x kn = tak KK x ∧ ∀ i, takN KK x (i + 1) = (takN KK x i || decide (KK.getD i [] = x))) := ⟨by rw [takN_0, hkn], by rw [hkn]; exact takN_all, fun i => takN_next⟩
              clear hkn KN
              have ck4 := (KJ.out wr B).2
              have BR : Hid (Below w.heap.size w wr ∧ wr.rangeAt w.heap.size 0 cs) := ⟨B, r0⟩
              clear B r0
              go_wp2_with fail
              go_loopg [10, 11] kn (fun kk av iv wr => ∃ i : Nat, kk = kn - i ∧ i ≤ kn ∧ av = .bool (takN KK x i) ∧ iv = .int .i64 (i : Int) ∧ Below w.heap.size w wr ∧ wr.rangeAt w.heap.size 0 cs)
              case atStart => exact ⟨0, rfl, Nat.zero_le _, by rw [SI.out.1]; congr 1; by_cases h : kn = 0 <;> simp [h], rfl, BR.out⟩
              case round =>
                clear BR ck4
                obtain ⟨i, hki, hi, rfl, rfl, B, r0⟩ := hrel
                have HI : Hid (gk = kn - i) := hki
                clear hki
                have ck4 := (KJ.out wr B).2
                have BR : Hid (Below w.heap.size w wr ∧ wr.rangeAt w.heap.size 0 cs) := ⟨B, r0⟩
                by_cases h7 : i = kn
                · subst h7
                  rw [SI.out.2.1]
                  generalize tak KK x = tx at *
                  clear SI EJ TJ KJ IC B r0
                  cases tx with
                  | false =>
                    have e0 := NO.out rfl
                    clear NO NT
                    go_wp2
                    simp [bodyPost, results, Tryd.results19, go_sem]
                    first | exact ⟨e0, BR.out.1⟩ | exact ⟨e0.symm, BR.out.1⟩ | (subst e0; exact BR.out.1)
                  | true =>
                    go_wp2
                    go_roundg (m - (j + 1))
                    case measure => have := HJ.out.1; omega
                    case rel => exact ⟨j + 1, rfl, jlt, by go_num, NT.out, BR.out⟩
                · have hlt2 : i < kn := by omega
                  have hlt2' : (i : Int) < (kn : Int) := by omega
                  have hn2 : i < KK.length := by have := HKN.out; omega
                  obtain rfl : ka = some ⟨kb, ko, none⟩ := (KJ.out _ B).1.cons (by omega)
                  have NA : Hid (takN KK x (i + 1) = (takN KK x i || decide (KK.getD i [] = x))) := SI.out.2.2 i
                  have B3 : Hid (∀ d os, Below w.heap.size w (grow (redrawn wr d) os) ∧ (grow (redrawn wr d) os).rangeAt w.heap.size 0 cs) := fun d os => ⟨B.trans ((below_regrown wr d os).mono B.size), range_keep r0 (below_regrown wr d os)⟩
                  have gc := fun d os => (KJ.out _ (B3.out d os).1).2
                  have gd := fun d os => (IC.out.2 _ _ (B3.out d os).2).2
                  have rc : ∀ w', (∃ q : Regrown, w' = grow (redrawn wr q.d) q.os) → w'.rangeAt kb (ko + i * 32) (hC (KK.getD i [])) := by
                    rintro w' ⟨q, rfl⟩
                    exact ((KJ.out _ (B3.out q.d q.os).1).1.2.2 i hn2).2
                  have rb : ∀ w', (∃ q : Regrown, w' = grow (redrawn wr q.d) q.os) → w'.rangeAt Tb (To + j * 32) ct := by
                    rintro w' ⟨q, rfl⟩
                    exact TJ.out.1 _ (B3.out q.d q.os).1
                  have ic : (Tryd.prog.info? 30).map (·.size) = some (hC (KK.getD i [])).length := by rw [(KJ.out _ B).1.len i hn2]; exact size_hs
                  have ik : (Tryd.prog.info? 30).map (·.size) = some ct.length := by rw [TJ.out.2]; exact size_hs
                  have eq := EJ i hlt2 jp
                  clear h7 hi EJ SI B r0 HKN hn2
                  generalize hC (KK.getD i []) = ci at *
                  generalize decide (KK.getD i [] = x) = dd at *
                  generalize takN KK x i = ta at *
                  cases ta with
                  | true =>
                    clear gd
                    go_wp2_with fail
                    refine wp_region_quiet_below (by kernel_rfl) (by kernel_rfl) ?_
                    repeat
                      first
                        | go_big_quiet_skip
                        | (go_big_quiet_want; go_big_quiet_op; go_big_quiet_on)
                    refine wpQuiet_nil ?_
                    rintro w4 ⟨q, rfl⟩
                    have hb := B3.out q.d q.os
                    generalize grow (redrawn wr q.d) q.os = w4 at *
                    clear rc rb eq ic ik gc
                    go_wp2
                    go_roundg (kn - (i + 1))
                    case measure => have := HI.out; omega
                    case rel => exact ⟨i + 1, rfl, hlt2, by rw [NA.out]; rfl, by go_num, hb.1, hb.2⟩
                  | false =>
                    go_wp2_with fail
                    refine wp_region_quiet_below (by kernel_rfl) (by kernel_rfl) ?_
                    repeat
                      first
                        | go_big_quiet_skip
                        | (go_big_quiet_want; refine quiet_load_midT 30 _ rfl kb (ko + i * 32) rfl ci _ rc Tryd.underlying30 rfl ic ?_; simp only [Act.put, List.setIfInBounds_toArray, List.set_cons_succ, List.set_cons_zero]; go_big_quiet_on)
                        | (go_big_quiet_want; refine quiet_load_midT 30 _ rfl Tb (To + j * 32) rfl ct _ rb Tryd.underlying30 rfl ik ?_; simp only [Act.put, List.setIfInBounds_toArray, List.set_cons_succ, List.set_cons_zero]; go_big_quiet_on)
                        | (go_big_quiet_want; go_big_quiet_op; go_big_quiet_on)
                    refine wpQuiet_nil ?_
                    rintro w4 ⟨q, rfl⟩
                    have hb := B3.out q.d q.os
                    generalize grow (redrawn wr q.d) q.os = w4 at *
                    clear rc rb eq ic ik gc gd
                    go_wp2
                    go_roundg (kn - (i + 1))
                    case measure => have := HI.out; omega
                    case rel => exact ⟨i + 1, rfl, hlt2, by rw [NA.out]; rfl, by go_num, hb.1, hb.2⟩
    · have hlt : i < n := by omega
      have hlt' : (i : Int) < (n : Int) := by omega
      obtain rfl : aa = some ⟨ba, oa, none⟩ := by
        rcases (HA.out _ B).2.1 with h | h
        · have := HN.out.1; rw [h] at this; simp at this; omega
        · exact h
      have NA : Hid (takN As adr (i + 1) = (takN As adr i || decide (As.getD i [] = adr))) := S0.out.2.2 i
      have B3 : Hid (∀ d os, Below w.heap.size w (grow (redrawn wr d) os) ∧ (grow (redrawn wr d) os).rangeAt w.heap.size 0 cs) := fun d os => ⟨B.trans ((below_regrown wr d os).mono B.size), range_keep r0 (below_regrown wr d os)⟩
      have rc : ∀ w', (∃ q : Regrown, w' = grow (redrawn wr q.d) q.os) → w'.rangeAt ba (oa + i * 20) (hC (As.getD i [])) := by
        rintro w' ⟨q, rfl⟩
        exact ((HA.out _ (B3.out q.d q.os).1).2.2 i (by have := HN.out.1; omega)).2
      have rb : ∀ w', (∃ q : Regrown, w' = grow (redrawn wr q.d) q.os) → w'.rangeAt w.heap.size 0 cA := by
        rintro w' ⟨q, rfl⟩
        exact (IC.out.2 _ _ (B3.out q.d q.os).2).1
      have ic : (Tryd.prog.info? 38).map (·.size) = some (hC (As.getD i [])).length := by rw [(HA.out _ B).len i (by have := HN.out.1; omega)]; exact size_ad
      have ik := IA.out
      have eq := EA.out i hlt
      clear h8 hi EA EH HT HK r0
      generalize hC (As.getD i []) = ci at *
      generalize decide (As.getD i [] = adr) = dd at *
      generalize takN As adr i = ta at *
      cases ta with
      | true =>
        go_wp2_with fail
        refine wp_region_quiet_below (by kernel_rfl) (by kernel_rfl) ?_
        repeat
          first
            | go_big_quiet_skip
            | (go_big_quiet_want; go_big_quiet_op; go_big_quiet_on)
        refine wpQuiet_nil ?_
        rintro w4 ⟨q, rfl⟩
        have hb := B3.out q.d q.os
        generalize grow (redrawn wr q.d) q.os = w4 at *
        clear rc rb eq ic ik
        go_wp2
        go_roundg (n - (i + 1))
        case measure => have := HKK.out; omega
        case rel => exact ⟨i + 1, rfl, hlt, by rw [NA.out]; rfl, by go_num, hb.1, hb.2⟩
      | false =>
        go_wp2_with fail
        refine wp_region_quiet_below (by kernel_rfl) (by kernel_rfl) ?_
        repeat
          first
            | go_big_quiet_skip
            | (go_big_quiet_want; refine quiet_load_midT 38 _ rfl ba (oa + i * 20) rfl ci _ rc Tryd.underlying38 rfl ic ?_; simp only [Act.put, List.setIfInBounds_toArray, List.set_cons_succ, List.set_cons_zero]; go_big_quiet_on)
            | (go_big_quiet_want; refine quiet_load_midT 38 _ rfl w.heap.size 0 rfl cA _ rb Tryd.underlying38 rfl ik ?_; simp only [Act.put, List.setIfInBounds_toArray, List.set_cons_succ, List.set_cons_zero]; go_big_quiet_on)
            | (go_big_quiet_want; go_big_quiet_op; go_big_quiet_on)
        refine wpQuiet_nil ?_
        rintro w4 ⟨q, rfl⟩
        have hb := B3.out q.d q.os
        generalize grow (redrawn wr q.d) q.os = w4 at *
        clear rc rb eq ic ik
        go_wp2
        go_roundg (n - (i + 1))
        case measure => have := HKK.out; omega
        case rel => exact ⟨i + 1, rfl, hlt, by rw [NA.out]; rfl, by go_num, hb.1, hb.2⟩
end Go.Proofs.YtanokeeffbiijaaDoor.tq
