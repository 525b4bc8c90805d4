import Derived.Test.YtongiohdomacoaaAcD
/- Layer 14: the document's Warm. -/
namespace Go.Proofs.Ytongiohdomacoaa
open Go.RowKit Go.Sort

set_option maxRecDepth 100000 in
set_option maxHeartbeats 16000000 in
theorem rwarm_any {a : Option Addr} {b o c : Nat} {L : List EE} {V : Nat → Value} {x k : List Int} (hl : L.length ≤ 3000000000000) (hw : WfE L) (hy : KyL L) (ha : AzE a b o L) (hx : x.length = 20) (hk : k.length = 32) (w : World) (hE : Es w b o L V) :
    Calls Try.prog 8 #[.slice a L.length c, .agg (cB x).toArray, .agg (cB k).toArray] w fun e w' => e = .returned (.tuple #[.bool (hA L x L.length), .bool (hK L x k L.length)]) ∧ Below w.heap.size w w' := by
  have HA : Hid (AzE a b o L ∧ WfE L ∧ L.length ≤ 3000000000000) := ⟨ha, hw, hl⟩
  have HI : Hid (∀ W, Below w.heap.size w W → Es W b o L V) := fun W B => hE.keep B
  have HY : Hid (KyL L) := hy
  have n1 : (L.length : Int) ≤ 3000000000000 := by omega
  have EQ : Hid (∀ i, i < L.length → ∀ w, (Op.equalIn 10000 24 (.agg (cB (L.getD i zE).A).toArray) (.agg (cB x).toArray)).run Try.prog w = .ok (decide ((L.getD i zE).A = x)) w) := fun i hi w => eq_adE (hw i hi).1 hx w
  have EK : Hid (∀ i j, i < L.length → j < (L.getD i zE).K.length → ∀ w, (Op.equalIn 10000 26 (.agg (cB ((L.getD i zE).K.getD j [])).toArray) (.agg (cB k).toArray)).run Try.prog w = .ok (decide (k = (L.getD i zE).K.getD j [])) w) := fun i j hi hj w => by
    rw [eq_haE ((hw i hi).2 j hj) hk w]
    congr 1
    simp only [eq_comm]
  have IX : Hid (((Try.prog.info? 26).map (·.size) = some (cB k).length) ∧ (Try.prog.info? 24).map (·.size) = some (cB x).length) := ⟨by rw [cB_len, hk]; exact size_haE, by rw [cB_len, hx]; exact size_adE⟩
  have SA : Hid (∀ i, hA L x (i + 1) = (hA L x i || decide ((L.getD i zE).A = x))) := fun i => rfl
  have SK : Hid (∀ i, hK L x k (i + 1) = (hK L x k i || (decide ((L.getD i zE).A = x) && kHas (L.getD i zE).K k (L.getD i zE).K.length))) := fun i => rfl
  have SH : Hid (∀ (K : List (List Int)) j, kHas K k (j + 1) = (kHas K k j || decide (k = K.getD j []))) := fun K j => rfl
  clear hl hw ha hE hy hx hk
  generalize cB x = cx at *
  generalize cB k = ck at *
  go_enter Try.func8, Try.ntmps8
  go_wp2_with fail
  refine wp_world (fun W => Below w.heap.size w W ∧ W.rangeAt w.heap.size 0 cx ∧ W.rangeAt (w.heap.size + 1) 0 ck) ⟨by repeat (first | with_reducible exact Below.refl _ _ | with_reducible refine Below.alloc ?_ (by first | omega | (simp; done) | (simp; omega)) _), rng_keep new_range ((Below.refl _ _).alloc (Nat.le_refl _) _), by have h := new_range (W := w.alloc (.cells cx.toArray 24)) (cs := ck) (t := 26); rw [World.size_alloc] at h; exact h⟩ ?_
  rintro W ⟨B, r0, r9⟩
  go_loopg [8, 9, 10] L.length (fun kk av sv iv wr => ∃ i : Nat, kk = L.length - i ∧ i ≤ L.length ∧ av = .bool (hA L x i) ∧ sv = .bool (hK L x k i) ∧ iv = .int .i64 (i : Int) ∧ Below w.heap.size w wr ∧ wr.rangeAt w.heap.size 0 cx ∧ wr.rangeAt (w.heap.size + 1) 0 ck)
  case atStart => exact ⟨0, rfl, Nat.zero_le _, rfl, rfl, rfl, B, r0, r9⟩
  case round =>
    clear B r0 r9 W
    obtain ⟨i, hk, hi, rfl, rfl, rfl, B, r0, r9⟩ := hrel
    have HKK : Hid (gk = L.length - i ∧ i ≤ L.length) := ⟨hk, hi⟩
    clear hk
    by_cases h8 : i = L.length
    · subst h8
      go_wp2
      simp [bodyPost, results, Try.results8, go_sem]
      exact B
    · have hlt : i < L.length := by omega
      have hlt' : (i : Int) < (L.length : Int) := by omega
      obtain rfl := HA.out.1.cons (by omega)
      have ra : ∀ w', (∃ q : Regrown, w' = grow (redrawn wr q.d) q.os) → w'.rangeAt b (o + i * 21) (cB (L.getD i zE).A) := by
        rintro w' ⟨q, rfl⟩
        exact (HI.out _ (B.trans ((below_regrown wr q.d q.os).mono B.size))).adr hlt
      have rx : ∀ w', (∃ q : Regrown, w' = grow (redrawn wr q.d) q.os) → w'.rangeAt w.heap.size 0 cx := by rintro w' ⟨q, rfl⟩; exact rng_keep r0 (below_regrown wr q.d q.os)
      have NA : Hid (hA L x (i + 1) = (hA L x i || decide ((L.getD i zE).A = x))) := SA.out i
      have NK : Hid (hK L x k (i + 1) = (hK L x k i || (decide ((L.getD i zE).A = x) && kHas (L.getD i zE).K k (L.getD i zE).K.length))) := SK.out i
      have eq := EQ.out i hlt
      have ek := fun j => EK.out i j hlt
      have ia : (Try.prog.info? 24).map (·.size) = some (cB (L.getD i zE).A).length := by rw [cB_len, (HA.out.2.1 i hlt).1]; exact size_adE
      obtain ⟨ak, gk', pk, ck9, ev, h2, h3, h4⟩ := (HI.out wr B i hlt).2
      have CK : Hid (∀ W, Below wr.heap.size wr W → W.cell? ⟨b, o + i * 21 + 20, none⟩ = some (.slice ak (L.getD i zE).K.length ck9) ∧ W.rangeAt gk' pk (kyF (L.getD i zE).K)) := fun W b9 => ⟨by
        have h := (HI.out W (B.trans (b9.mono B.size))).key HA.out.2.1 hlt
        rw [ev] at h; exact h, rng_keep h4 b9⟩
      have W3 : Hid (W32 (L.getD i zE).K ∧ ((L.getD i zE).K = [] ∨ ak = some ⟨gk', pk, none⟩) ∧ (L.getD i zE).K.length ≤ 5000000000000) := ⟨(HA.out.2.1 i hlt).2, h3, HY.out i hlt⟩
      clear h2 h3 h4 ev hi h8 EQ EK
      generalize cB (L.getD i zE).A = ca at *
      generalize decide ((L.getD i zE).A = x) = dd at *
      generalize (L.getD i zE).K = KK at *
      generalize hA L x i = ha at *
      generalize hK L x k i = hh at *
      go_wp2_with fail
      refine wp_region_quiet_below (by kernel_rfl) (by kernel_rfl) ?_
      repeat
        first
          | go_big_quiet_skip
          | (go_big_quiet_want; refine quiet_load_midE 24 _ rfl b (o + i * 21) rfl ca _ ra Try.underlying24 rfl ia ?_; simp only [Act.put, List.setIfInBounds_toArray, List.set_cons_succ, List.set_cons_zero]; go_big_quiet_on)
          | (go_big_quiet_want; refine quiet_load_midE 24 _ rfl w.heap.size 0 rfl cx _ rx Try.underlying24 rfl IX.out.2 ?_; simp only [Act.put, List.setIfInBounds_toArray, List.set_cons_succ, List.set_cons_zero]; go_big_quiet_on)
          | (go_big_quiet_want; go_big_quiet_op; go_big_quiet_on)
      refine wpQuiet_nil ?_
      rintro w2 ⟨q, rfl⟩
      have hb := below_regrown wr q.d q.os
      generalize grow (redrawn wr q.d) q.os = w2 at *
      have B2 := B.trans (hb.mono B.size)
      have q0 := rng_keep r0 hb
      have q9 := rng_keep r9 hb
      have R9 : Hid (wr.rangeAt w.heap.size 0 cx ∧ wr.rangeAt (w.heap.size + 1) 0 ck ∧ Below w.heap.size w wr) := ⟨r0, r9, B⟩
      clear r0 r9 ra rx eq ia B
      cases dd with
      | false =>
        clear hb
        go_wp2
        go_roundg (L.length - (i + 1))
        case measure => have := HKK.out.1; omega
        case rel => exact ⟨i + 1, rfl, hlt, by rw [NA.out]; simp, by rw [NK.out]; simp, by go_num, B2, q0, q9⟩
      | true =>
        go_wp2_with fail
        obtain ⟨wo, rfl⟩ : ∃ wo : World, wo = wr := ⟨wr, rfl⟩
        go_loopg [9, 11] KK.length (fun kk sv jv w3 => ∃ j : Nat, kk = KK.length - j ∧ j ≤ KK.length ∧ sv = .bool (hh || kHas KK k j) ∧ jv = .int .i64 (j : Int) ∧ Below wo.heap.size wo w3)
        case atStart => exact ⟨0, rfl, Nat.zero_le _, by simp [kHas], rfl, hb⟩
        case round =>
          clear hb B2 q0 q9 w2
          obtain ⟨j, hkj, hj, rfl, rfl, b3⟩ := hrel
          have HJ : Hid (gk = KK.length - j ∧ j ≤ KK.length) := ⟨hkj, hj⟩
          clear hkj
          have n5 : (KK.length : Int) ≤ 5000000000000 := by have := W3.out.2.2; omega
          have ce := (CK.out wr b3).1
          by_cases h9 : j = KK.length
          · subst h9
            go_wp2
            go_roundg (L.length - (i + 1))
            case measure => have := HKK.out.1; omega
            case rel => exact ⟨i + 1, rfl, hlt, by rw [NA.out]; simp, by rw [NK.out]; simp, by go_num, R9.out.2.2.trans (b3.mono R9.out.2.2.size), rng_keep R9.out.1 b3, rng_keep R9.out.2.1 b3⟩
          · have jlt : j < KK.length := by omega
            have jlt' : (j : Int) < (KK.length : Int) := by omega
            obtain rfl : ak = some ⟨gk', pk, none⟩ := by
              rcases W3.out.2.1 with h | h
              · rw [h] at jlt; simp at jlt
              · exact h
            have B3 : Hid (∀ d os, Below wo.heap.size wo (grow (redrawn wr d) os)) := fun d os => b3.trans ((below_regrown wr d os).mono b3.size)
            have gc := fun d os => (CK.out _ (B3.out d os)).1
            have rj : ∀ w', (∃ q : Regrown, w' = grow (redrawn wr q.d) q.os) → w'.rangeAt gk' (pk + j * 32) (cB (KK.getD j [])) := by
              rintro w' ⟨q, rfl⟩
              exact ky_range (CK.out _ (B3.out q.d q.os)).2 W3.out.1 jlt
            have rk : ∀ w', (∃ q : Regrown, w' = grow (redrawn wr q.d) q.os) → w'.rangeAt (w.heap.size + 1) 0 ck := by
              rintro w' ⟨q, rfl⟩
              exact rng_keep R9.out.2.1 (B3.out q.d q.os)
            have ij : (Try.prog.info? 26).map (·.size) = some (cB (KK.getD j [])).length := by rw [cB_len, W3.out.1 j jlt]; exact size_haE
            have eq := ek j jlt
            have NJ : Hid ((hh || kHas KK k (j + 1)) = ((hh || kHas KK k j) || decide (k = KK.getD j []))) := by show _ = _; rw [SH.out KK j, Bool.or_assoc]
            clear h9 hj ek
            generalize cB (KK.getD j []) = cj at *
            generalize decide (k = KK.getD j []) = dj at *
            generalize (hh || kHas KK k j) = ss at *
            cases ss with
            | true =>
              go_wp2_with fail
              refine wp_region_quiet_below (by kernel_rfl) (by kernel_rfl) ?_
              repeat
                first
                  | go_big_quiet_skip
                  | (go_big_quiet_want; go_big_quiet_op; go_big_quiet_on)
              refine wpQuiet_nil ?_
              rintro w4 ⟨q, rfl⟩
              have hb := B3.out q.d q.os
              generalize grow (redrawn wr q.d) q.os = w4 at *
              clear gc rj rk eq ij
              go_wp2
              go_roundg (KK.length - (j + 1))
              case measure => have := HJ.out.1; omega
              case rel => exact ⟨j + 1, rfl, jlt, by rw [NJ.out]; rfl, by go_num, hb⟩
            | false =>
              go_wp2_with fail
              refine wp_region_quiet_below (by kernel_rfl) (by kernel_rfl) ?_
              repeat
                first
                  | go_big_quiet_skip
                  | (go_big_quiet_want; refine quiet_load_midE 26 _ rfl gk' (pk + j * 32) rfl cj _ rj Try.underlying26 rfl ij ?_; simp only [Act.put, List.setIfInBounds_toArray, List.set_cons_succ, List.set_cons_zero]; go_big_quiet_on)
                  | (go_big_quiet_want; refine quiet_load_midE 26 _ rfl (w.heap.size + 1) 0 rfl ck _ rk Try.underlying26 rfl IX.out.1 ?_; simp only [Act.put, List.setIfInBounds_toArray, List.set_cons_succ, List.set_cons_zero]; go_big_quiet_on)
                  | (go_big_quiet_want; go_big_quiet_op; go_big_quiet_on)
              refine wpQuiet_nil ?_
              rintro w4 ⟨q, rfl⟩
              have hb := B3.out q.d q.os
              generalize grow (redrawn wr q.d) q.os = w4 at *
              clear gc rj rk eq ij
              go_wp2
              go_roundg (KK.length - (j + 1))
              case measure => have := HJ.out.1; omega
              case rel => exact ⟨j + 1, rfl, jlt, by rw [NJ.out]; rfl, by go_num, hb⟩
end Go.Proofs.Ytongiohdomacoaa
