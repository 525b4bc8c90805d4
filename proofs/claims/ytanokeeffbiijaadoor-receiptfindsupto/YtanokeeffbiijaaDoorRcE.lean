import Derived.Test.YtanokeeffbiijaaDoorRcL
/- waybilllaw17: same, sameLog, sameLogs. -/
namespace Go.Proofs.YtanokeeffbiijaaDoor.tq
open Go.RowKit Go.Sort
set_option maxRecDepth 100000 in
set_option maxHeartbeats 4000000 in
theorem sameR_any {a a' : Option Addr} {b o c b' o' c' : Nat} {X Z : List Int} (hl : X.length < 281474976710656) (ha : Az a b o X) (ha' : Az a' b' o' Z) (w : World) (hz : Bz w b o X) (hz' : Bz w b' o' Z) :
    Calls Tryd.prog 33 #[.slice a X.length c, .slice a' Z.length c'] w fun e w' => e = .returned (.bool (decide (X = Z))) ∧ Below w.heap.size w w' := by
  by_cases hn : X.length = Z.length
  case neg =>
    have ne : decide (X = Z) = false := decide_eq_false fun e => hn (by rw [e])
    rw [ne]
    have hn' : ¬ ((X.length : Int) = (Z.length : Int)) := by omega
    clear hl ha ha' hz hz' hn ne
    go_enter Tryd.func33, Tryd.ntmps33
    go_wp2
    simp [bodyPost, results, Tryd.results33, go_sem]
    exact Below.refl _ _
  rw [← hn]
  have HH : Hid (Az a b o X ∧ Az a' b' o' Z ∧ X.length = Z.length) := ⟨ha, ha', hn⟩
  have KL : Hid (∀ W, Below w.heap.size w W → Bz W b o X ∧ Bz W b' o' Z) := fun W B => ⟨hz.keep B, hz'.keep B⟩
  have n1 : (X.length : Int) < 281474976710656 := by omega
  clear hl ha ha' hz hz' hn
  go_enter Tryd.func33, Tryd.ntmps33
  go_wp2_with fail
  go_loopg [5] X.length (fun k iv wr => ∃ i : Nat, k = X.length - i ∧ i ≤ X.length ∧ iv = .int .i64 i ∧ X.take i = Z.take i ∧ Below w.heap.size w wr)
  case atStart => exact ⟨0, rfl, Nat.zero_le _, rfl, rfl, Below.refl _ _⟩
  case round =>
    obtain ⟨i, hk, hi, rfl, ht, B⟩ := hrel
    have HK : Hid (gk = X.length - i ∧ X.take i = Z.take i) := ⟨hk, ht⟩
    clear hk ht
    by_cases h8 : i = X.length
    · subst h8
      have HT : Hid (X = Z) := by
        have := HK.out.2
        rw [List.take_length, HH.out.2.2, List.take_length] at this
        exact this
      clear HH KL HK
      go_wp2
      simp [bodyPost, results, Tryd.results33, go_sem]
      exact ⟨HT.out, B⟩
    · have hlt : i < X.length := by omega
      have hlt' : (i : Int) < (X.length : Int) := by omega
      obtain ⟨g1, g2⟩ := KL.out wr B
      have c1 := g1 i hlt
      have c2 := g2 i (by rw [← HH.out.2.2]; exact hlt)
      obtain rfl := HH.out.1.cons (by omega)
      obtain rfl := HH.out.2.1.cons (by rw [← HH.out.2.2]; omega)
      clear g1 g2
      by_cases hx : X.getD i 0 = Z.getD i 0
      · have NX : Hid (X.take (i + 1) = Z.take (i + 1)) := take_same hlt (by rw [← HH.out.2.2]; exact hlt) HK.out.2 hx
        rw [← hx] at c2
        generalize X.getD i 0 = x at *
        have c1' : ∀ n, (wr.drewN n).cell? ⟨b, o + i, none⟩ = some (.int .u8 x) := fun _ => c1
        have c2' : ∀ n, (wr.drewN n).cell? ⟨b', o' + i, none⟩ = some (.int .u8 x) := fun _ => c2
        go_wp2_with fail
        refine wp_region_quiet_lit (by kernel_rfl) (by kernel_rfl) ?_
        repeat (first | go_big_quiet_skip | (go_big_quiet_want; go_big_quiet_op; go_big_quiet_on))
        refine wpQuiet_nil ?_
        rintro w' ⟨n, rfl⟩
        have BN : Hid (Below w.heap.size w (wr.drewN n)) := ⟨B.os, B.tape, B.output, B.size, B.block⟩
        clear c1 c2 c1' c2' B
        generalize wr.drewN n = w2 at *
        go_wp2
        go_roundg (X.length - (i + 1))
        case measure => have := HK.out; omega
        case rel => exact ⟨i + 1, rfl, by omega, by go_num, NX.out, BN.out⟩
      · have NX : Hid (X ≠ Z) := fun e => hx (by rw [e])
        generalize X.getD i 0 = x at *
        generalize Z.getD i 0 = z at *
        have c1' : ∀ n, (wr.drewN n).cell? ⟨b, o + i, none⟩ = some (.int .u8 x) := fun _ => c1
        have c2' : ∀ n, (wr.drewN n).cell? ⟨b', o' + i, none⟩ = some (.int .u8 z) := fun _ => c2
        have HB : Hid ((x != z) = true) := bne_iff_ne.2 hx
        clear hx
        go_wp2_with fail
        refine wp_region_quiet_lit (by kernel_rfl) (by kernel_rfl) ?_
        repeat (first | go_big_quiet_skip | (go_big_quiet_want; go_big_quiet_op; go_big_quiet_on))
        refine wpQuiet_nil ?_
        rintro w' ⟨n, rfl⟩
        have BN : Hid (Below w.heap.size w (wr.drewN n)) := ⟨B.os, B.tape, B.output, B.size, B.block⟩
        clear c1 c2 c1' c2' B
        generalize wr.drewN n = w2 at *
        rw [HB.out]
        go_wp2
        simp [bodyPost, results, Tryd.results33, go_sem]
        exact ⟨NX.out, BN.out⟩
/-- The same log. -/
def SmL (e x : Lg) : Prop := e.adr = x.adr ∧ e.Tl = x.Tl ∧ e.Dl = x.Dl
theorem lg_parts {l : Lg} (h : l.adr.length = 20) {W : World} {b o : Nat} (hr : W.rangeAt b o (lgC l)) : W.rangeAt b o (hC l.adr) ∧ W.cell? ⟨b, o + 20, none⟩ = some (.slice l.Ta l.Tl.length l.Tc) ∧ W.cell? ⟨b, o + 21, none⟩ = some (.slice l.Da l.Dl.length l.Dc) := by
  unfold lgC at hr
  have h1 := range_app.1 hr
  rw [hC_len, h] at h1
  have h2 := range_app.1 h1.2
  exact ⟨h1.1, h2.1 0 _ rfl, by have := h2.2 0 _ rfl; simpa [Nat.add_assoc] using this⟩
set_option maxRecDepth 100000 in
set_option maxHeartbeats 16000000 in
theorem sameLog_yes {e x : Lg} (hs : SmL e x) (hn : x.Tl.length < 1000000000 ∧ x.Dl.length < 1000000000) (w : World) (ge : LgG w e) (gx : LgG w x) :
    Calls Tryd.prog 27 #[.agg (lgC e).toArray, .agg (lgC x).toArray] w fun e w' => e = .returned (.bool true) ∧ Below w.heap.size w w' := by
  obtain ⟨s1, s2, s3⟩ := hs
  have KS : Hid (∀ W, Below w.heap.size w W → Calls Tryd.prog 33 #[.slice e.Da x.Dl.length e.Dc, .slice x.Da x.Dl.length x.Dc] W fun e w' => e = .returned (.bool true) ∧ Below W.heap.size W w') := fun W B => by
    have h := sameR_any (X := x.Dl) (Z := x.Dl) (c := e.Dc) (c' := x.Dc) (a := e.Da) (a' := x.Da) (b := e.Db) (o := e.Do) (by omega) (by have := ge.D.2.1; rw [s3] at this; exact this) gx.D.2.1 W (by have := (ge.D.keep B).2.2.1; rw [s3] at this; exact this) (gx.D.keep B).2.2.1
    rw [decide_eq_true rfl] at h; exact h
  have P1 : Hid (∀ (W : World) b, W.rangeAt b 0 (lgC e) → W.rangeAt b 0 (hC x.adr) ∧ W.cell? ⟨b, 20, none⟩ = some (.slice e.Ta x.Tl.length e.Tc) ∧ W.cell? ⟨b, 21, none⟩ = some (.slice e.Da x.Dl.length e.Dc)) := fun W b h => by
    have := lg_parts ge.adr.1 h
    rw [s1, s2, s3] at this
    simpa using this
  have P2 : Hid (∀ (W : World) b, W.rangeAt b 0 (lgC x) → W.rangeAt b 0 (hC x.adr) ∧ W.cell? ⟨b, 20, none⟩ = some (.slice x.Ta x.Tl.length x.Tc) ∧ W.cell? ⟨b, 21, none⟩ = some (.slice x.Da x.Dl.length x.Dc)) := fun W b h => by
    have := lg_parts gx.adr.1 h
    simpa using this
  have EA : Hid (∀ w, (Op.equalIn 10000 38 (.agg (hC x.adr).toArray) (.agg (hC x.adr).toArray)).run Tryd.prog w = .ok true w) := fun w => by
    have h := eq_ad gx.adr.1 gx.adr.1 w
    rw [decide_eq_true rfl] at h; exact h
  have iA : Hid ((Tryd.prog.info? 38).map (·.size) = some (hC x.adr).length) := by show _ = _; rw [hC_len, gx.adr.1]; exact size_ad
  have GT : Hid (KsG w e.Ta e.Tb e.To e.Tc x.Tl ∧ KsG w x.Ta x.Tb x.To x.Tc x.Tl) := ⟨by have := ge.T; rw [s2] at this; exact this, gx.T⟩
  obtain ⟨m, em⟩ : ∃ m, m = x.Tl.length := ⟨_, rfl⟩
  have HM : Hid (x.Tl.length = m ∧ m < 1000000000) := ⟨em.symm, by omega⟩
  have n1 : (m : Int) < 1000000000 := by omega
  have QA : Hid (∀ W, Below w.heap.size w W → ∀ i, i < m → W.rangeAt e.Tb (e.To + i * 32) (hC (x.Tl.getD i [])) ∧ W.rangeAt x.Tb (x.To + i * 32) (hC (x.Tl.getD i [])) ∧ e.Ta = some ⟨e.Tb, e.To, none⟩ ∧ x.Ta = some ⟨x.Tb, x.To, none⟩) := fun W B i hi => by
    have hi' : i < x.Tl.length := by omega
    refine ⟨range_keep (GT.out.1.2.2 i hi').2 B, range_keep (GT.out.2.2.2 i hi').2 B, ?_, ?_⟩
    · rcases GT.out.1.2.1 with h | h
      · rw [h] at hi'; exact absurd hi' (Nat.not_lt_zero _)
      · exact h
    · rcases GT.out.2.2.1 with h | h
      · rw [h] at hi'; exact absurd hi' (Nat.not_lt_zero _)
      · exact h
  have QL : Hid (∀ i, i < m → (Tryd.prog.info? 30).map (·.size) = some (hC (x.Tl.getD i [])).length ∧ ∀ w, (Op.equalIn 10000 30 (.agg (hC (x.Tl.getD i [])).toArray) (.agg (hC (x.Tl.getD i [])).toArray)).run Tryd.prog w = .ok true w) := fun i hi => by
    have hl := (GT.out.2.2.2 i (by omega)).1.1
    refine ⟨by rw [hC_len, hl]; exact size_hs, fun w => ?_⟩
    have h := eq_hs hl hl w
    rw [decide_eq_true rfl] at h; exact h
  rw [← em] at P1 P2
  generalize hC x.adr = A at *
  obtain ⟨C1, hC1⟩ : ∃ C, C = lgC e := ⟨_, rfl⟩
  obtain ⟨C2, hC2⟩ : ∃ C, C = lgC x := ⟨_, rfl⟩
  rw [← hC1] at P1 ⊢
  rw [← hC2] at P2 ⊢
  clear hC1 hC2 ge gx s1 s2 s3 hn em GT
  generalize x.Tl = TL at *
  generalize e.Ta = ea at *
  generalize x.Ta = xa at *
  go_enter Tryd.func27, Tryd.ntmps27
  go_wp2_with first
    | (refine wpList_boxT rfl 44 _ rfl C1 rfl ?_; intro b1 W1 h1 B1 r1)
    | (refine wpList_boxT rfl 44 _ rfl C2 rfl ?_; intro b2 W2 h2 B2 r2; (have BB : Below w.heap.size w W2 := B1.trans (B2.mono B1.size)); (have RR : Hid (∀ V, Below W2.heap.size W2 V → V.rangeAt b1 0 C1 ∧ V.rangeAt b2 0 C2) := fun V h => ⟨range_keep (range_keep r1 B2) h, range_keep r2 h⟩); (have c20 := (P1.out W2 b1 (range_keep r1 B2)).2.1); (have d20 := (P2.out W2 b2 r2).2.1); (have a1 := (P1.out W2 b1 (range_keep r1 B2)).1); (have a2 := (P2.out W2 b2 r2).1); clear r1 r2 B1 B2 h1 h2)
    | (refine wpList_load_midT rfl 38 _ rfl b1 0 rfl A _ a1 Tryd.underlying38 rfl iA.out ?_)
    | (refine wpList_load_midT rfl 38 _ rfl b2 0 rfl A _ a2 Tryd.underlying38 rfl iA.out ?_; refine wpList_eqG rfl .neq 38 _ _ _ rfl _ _ rfl rfl _ (neR Tryd.eqGuardType38 (EA.out _)) ?_)
  go_loopg [5] m (fun k iv wr => ∃ i : Nat, k = m - i ∧ i ≤ m ∧ iv = .int .i64 i ∧ Below W2.heap.size W2 wr)
  case atStart => exact ⟨0, rfl, Nat.zero_le _, rfl, Below.refl _ _⟩
  case round =>
    clear c20 d20 a1 a2
    obtain ⟨i, hk, hi, rfl, B⟩ := hrel
    have HK : Hid (gk = m - i) := hk
    have c20 := (P1.out _ b1 (RR.out _ B).1).2.1
    have d20 := (P2.out _ b2 (RR.out _ B).2).2.1
    have c21 := (P1.out _ b1 (RR.out _ B).1).2.2
    have d21 := (P2.out _ b2 (RR.out _ B).2).2.2
    clear hk
    have HB : Hid (Below W2.heap.size W2 wr ∧ Below w.heap.size w wr) := ⟨B, BB.trans (B.mono BB.size)⟩
    clear B
    by_cases h8 : i = m
    · subst h8
      clear hi
      go_wp2_with (go_at_call 33; refine (KS.out _ HB.out.2).mono ?_; rintro e9 W9 ⟨rfl, B9⟩; (have BF : Hid (Below w.heap.size w W9) := HB.out.2.trans (B9.mono HB.out.2.size)); clear B9)
      simp [bodyPost, results, Tryd.results27, go_sem]
      exact BF.out
    · have hlt : i < m := by omega
      have hlt' : (i : Int) < (m : Int) := by omega
      obtain ⟨q1, q2, q3, q4⟩ := QA.out wr HB.out.2 i hlt
      subst q3 q4
      have B3 : Hid (∀ d os, Below w.heap.size w (grow (redrawn wr d) os)) := fun d os => HB.out.2.trans ((below_regrown wr d os).mono HB.out.2.size)
      have rb : ∀ w', (∃ q : Regrown, w' = grow (redrawn wr q.d) q.os) → w'.rangeAt e.Tb (e.To + i * 32) (hC (TL.getD i [])) := by rintro w' ⟨q, rfl⟩; exact (QA.out _ (B3.out q.d q.os) i hlt).1
      have rc : ∀ w', (∃ q : Regrown, w' = grow (redrawn wr q.d) q.os) → w'.rangeAt x.Tb (x.To + i * 32) (hC (TL.getD i [])) := by rintro w' ⟨q, rfl⟩; exact (QA.out _ (B3.out q.d q.os) i hlt).2.1
      have ib := (QL.out i hlt).1
      have eq := (QL.out i hlt).2
      have gc : ∀ d os, (grow (redrawn wr d) os).cell? ⟨b1, 20, none⟩ = some (.slice (some ⟨e.Tb, e.To, none⟩) m e.Tc) := fun d os => cell_keep (below_regrown wr d os) c20
      have gd : ∀ d os, (grow (redrawn wr d) os).cell? ⟨b2, 20, none⟩ = some (.slice (some ⟨x.Tb, x.To, none⟩) m x.Tc) := fun d os => cell_keep (below_regrown wr d os) d20
      clear q1 q2 QL QA c21 d21 hi
      generalize hC (TL.getD i []) = ci at *
      go_wp2_with fail
      refine wp_region_quiet_below (by kernel_rfl) (by kernel_rfl) ?_
      repeat
        first
          | go_big_quiet_skip
          | (go_big_quiet_want; refine quiet_load_midT 30 _ rfl e.Tb (e.To + i * 32) rfl ci _ rb Tryd.underlying30 rfl ib ?_; simp only [Act.put, List.setIfInBounds_toArray, List.set_cons_succ, List.set_cons_zero]; go_big_quiet_on)
          | (go_big_quiet_want; refine quiet_load_midT 30 _ rfl x.Tb (x.To + i * 32) rfl ci _ rc Tryd.underlying30 rfl ib ?_; simp only [Act.put, List.setIfInBounds_toArray, List.set_cons_succ, List.set_cons_zero]; go_big_quiet_on)
          | (go_big_quiet_want; go_big_quiet_op; go_big_quiet_on)
      refine wpQuiet_nil ?_
      rintro w2 ⟨q, rfl⟩
      have hb : Hid (Below W2.heap.size W2 (grow (redrawn wr q.d) q.os)) := HB.out.1.trans ((below_regrown wr q.d q.os).mono HB.out.1.size)
      generalize grow (redrawn wr q.d) q.os = w2 at *
      clear rb rc eq ib B3 gc gd c20 d20
      go_wp2
      go_roundg (m - (i + 1))
      case measure => have := HK.out; omega
      case rel => exact ⟨i + 1, rfl, by omega, by go_num, hb.out⟩
end Go.Proofs.YtanokeeffbiijaaDoor.tq
