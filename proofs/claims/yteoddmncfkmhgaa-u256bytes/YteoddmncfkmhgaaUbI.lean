import Derived.Test.YteoddmncfkmhgaaUbH
/- U256Bytes: the law. -/
namespace Go.Proofs.Yteoddmncfkmhgaa
open Go.RowKit Go.Sort

def nine : Int := 9 + 9 * 18446744073709551616
theorem nine_limbs : l0 nine = 9 ∧ l1 nine = 9 ∧ l2 nine = 0 ∧ l3 nine = 0 := by decide
theorem nine_num : Num nine := ⟨by decide, by decide⟩
set_option maxRecDepth 100000 in
set_option maxHeartbeats 16000000 in
theorem ubytes_any {a : Option Addr} {bb ob c : Nat} {X : List Int} {n : Int} (hN : Num n) (hm2 : X.length ≤ 140737488351232) (hX : Byts X) (hZ : Az a bb ob X) (w : World) (hz : Bz w bb ob X) :
    Calls Try.prog 3 #[.agg #[.int .u64 (l0 n), .int .u64 (l1 n), .int .u64 (l2 n), .int .u64 (l3 n)], .slice a X.length c] w fun e w' => e = .returned (.bool true) ∧ Below w.heap.size w w' := by
  obtain ⟨m, em⟩ : ∃ m, m = X.length := ⟨_, rfl⟩
  rw [← em]
  have HA : Hid (X.length = m ∧ m ≤ 140737488351232 ∧ Byts X ∧ Az a bb ob X ∧ ∀ W, Below w.heap.size w W → Bz W bb ob X) := ⟨em.symm, by omega, hX, hZ, fun W B => hz.keep B⟩
  have HN : Hid (Num n) := hN
  obtain ⟨L, eL⟩ : ∃ L, L = stripL (putL n) := ⟨_, rfl⟩
  obtain ⟨l, el⟩ : ∃ l, l = L.length := ⟨_, rfl⟩
  have HL : Hid (stripL (putL n) = L ∧ L.length = l ∧ l ≤ 32) := ⟨eL.symm, el.symm, by rw [el, eL]; exact strip_len _ (by rw [putL_len]; exact Nat.le_refl _)⟩
  clear em hX hZ hz hm2 hN eL el
  have hb9 : ∀ w, Calls Try.prog 4 #[.agg #[.int .u64 9, .int .u64 9, .int .u64 0, .int .u64 0]] w fun e w' => ∃ v, e = .returned v ∧ OwnB w.heap.size w' v (stripL (putL nine)) ∧ Below w.heap.size w w' := fun w => by
    have h := bytes_any nine_num w
    obtain ⟨z0, z1, z2, z3⟩ := nine_limbs
    rw [z0, z1, z2, z3] at h
    exact h
  go_enter Try.func3, Try.ntmps3
  refine wp_seq_k fun K0 h0 => ?_
  have H0 : Hid _ := h0
  clear h0
  go_wp2
  refine H0.out _ _ ?_
  clear H0
  refine wp_world (fun W => Below w.heap.size w W ∧ Hold W w.heap.size n ∧ w.heap.size < W.heap.size) ⟨(Below.refl _ _).alloc (Nat.le_refl _) _, Hold.new w n _, by simp⟩ ?_
  rintro W0 ⟨BB, hx, s0⟩
  refine wp_seq_k fun K1 h1 => ?_
  have H1 : Hid _ := h1
  clear h1
  obtain ⟨x0, x1, x2, x3⟩ := hx
  have hc := bytes_any HN.out W0
  rw [HL.out.1] at hc
  go_wp2_with fail
  with_reducible refine hc.mono ?_
  rintro e w1 ⟨v5, rfl, o5, BN⟩
  clear hc
  have z1 : Hid (W0.heap.size ≤ w1.heap.size) := BN.size
  have hx : Hold W0 w.heap.size n := ⟨x0, x1, x2, x3⟩
  clear x0 x1 x2 x3
  replace hx := hx.keep BN
  replace BB := BB.trans (BN.mono BB.size)
  clear BN
  have I5 : Hid (∀ k, v5.ownBlock = some k → W0.heap.size ≤ k ∧ k < w1.heap.size) := fun k hk => o5.lt k hk
  go_wp2
  refine H1.out _ _ ?_
  clear H1
  refine wp_seq_k fun K2 h2 => ?_
  have H2 : Hid _ := h2
  clear h2
  have hc := hb9 w1
  go_wp2_with fail
  with_reducible refine hc.mono ?_
  rintro e w2 ⟨v99, rfl, o99, BN⟩
  clear hc
  have z2 : Hid (w1.heap.size ≤ w2.heap.size) := BN.size
  replace o5 := o5.keep BN
  replace hx := hx.keep BN
  replace BB := BB.trans (BN.mono BB.size)
  clear BN
  clear o99
  go_wp2
  refine H2.out _ _ ?_
  clear H2
  refine wp_seq_k fun K3 h3 => ?_
  have H3 : Hid _ := h3
  clear h3
  obtain ⟨x0, x1, x2, x3⟩ := hx
  have hc := bytes_any HN.out w2
  rw [HL.out.1] at hc
  go_wp2_with fail
  with_reducible refine hc.mono ?_
  rintro e w3 ⟨v6, rfl, o6, BN⟩
  clear hc
  have z3 : Hid (w2.heap.size ≤ w3.heap.size) := BN.size
  have hx : Hold w2 w.heap.size n := ⟨x0, x1, x2, x3⟩
  clear x0 x1 x2 x3
  replace o5 := o5.keep BN
  replace hx := hx.keep BN
  replace BB := BB.trans (BN.mono BB.size)
  clear BN
  have I6 : Hid (∀ k, v6.ownBlock = some k → w2.heap.size ≤ k ∧ k < w3.heap.size) := fun k hk => o6.lt k hk
  go_wp2
  refine H3.out _ _ ?_
  clear H3
  refine wp_seq_k fun K4 h4 => ?_
  have H4 : Hid _ := h4
  clear h4
  obtain ⟨x0, x1, x2, x3⟩ := hx
  have hc := rbytes_any (n := n) w3
  rw [HL.out.1] at hc
  go_wp2_with fail
  with_reducible refine hc.mono ?_
  rintro e w4 ⟨v7, rfl, o7, BN⟩
  clear hc
  have z4 : Hid (w3.heap.size ≤ w4.heap.size) := BN.size
  have hx : Hold w3 w.heap.size n := ⟨x0, x1, x2, x3⟩
  clear x0 x1 x2 x3
  replace o5 := o5.keep BN
  replace o6 := o6.keep BN
  replace hx := hx.keep BN
  replace BB := BB.trans (BN.mono BB.size)
  clear BN
  have I7 : Hid (∀ k, v7.ownBlock = some k → w3.heap.size ≤ k ∧ k < w4.heap.size) := fun k hk => o7.lt k hk
  go_wp2
  refine H4.out _ _ ?_
  clear H4
  obtain ⟨a5, g5, c5, rfl, _, _, _, _, _, _⟩ := o5.lies
  obtain ⟨a6, g6, c6, rfl, _, _, _, _, _, _⟩ := o6.lies
  obtain ⟨a7, g7, c7, rfl, _, _, _, _, _, _⟩ := o7.lies
  rw [HL.out.2.1] at o5 o6 o7 I5 I6 I7 ⊢
  have S4 : Hid (Below w.heap.size w w4 ∧ Hold w4 w.heap.size n ∧ OwnB W0.heap.size w4 (.slice a5 l c5) L ∧ OwnB w2.heap.size w4 (.slice a6 l c6) L ∧ OwnB w3.heap.size w4 (.slice a7 l c7) L) := ⟨BB, hx, o5, o6, o7⟩
  clear BB o5 o6 o7
  refine wp_seq_k fun K5 h5 => ?_
  have H5 : Hid _ := h5
  clear h5
  obtain ⟨x0, x1, x2, x3⟩ := hx
  have r0 := fun d os => cell_regrown x0 d os
  have r1 := fun d os => cell_regrown x1 d os
  have r2 := fun d os => cell_regrown x2 d os
  have r3 := fun d os => cell_regrown x3 d os
  have KB : Hid (∀ d os, Below w4.heap.size w4 (grow (redrawn w4 d) os)) := fun d os => below_regrown w4 d os
  have ll : Hid (L.length < 281474976710656) := by show _ < _; rw [HL.out.2.1]; have := HL.out.2.2; omega
  have C1 : Hid (∀ d os, Calls Try.prog 8 #[.slice a5 l c5, .slice a7 l c7] (grow (redrawn w4 d) os) fun e w' => e = .returned (.bool true) ∧ Below (grow (redrawn w4 d) os).heap.size (grow (redrawn w4 d) os) w') := fun d os => by
    obtain ⟨gx, zx, yx⟩ := (S4.out.2.2.1.keep (KB.out d os)).at
    obtain ⟨gy, zy, yy⟩ := (S4.out.2.2.2.2.keep (KB.out d os)).at
    have h := usame_any (c := c5) (c' := c7) ll.out zx zy _ yx yy
    rw [HL.out.2.1, decide_eq_true rfl] at h
    exact h
  have C2 : Hid (∀ d os, Calls Try.prog 8 #[.slice a6 l c6, .slice a7 l c7] (grow (redrawn w4 d) os) fun e w' => e = .returned (.bool true) ∧ Below (grow (redrawn w4 d) os).heap.size (grow (redrawn w4 d) os) w') := fun d os => by
    obtain ⟨gx, zx, yx⟩ := (S4.out.2.2.2.1.keep (KB.out d os)).at
    obtain ⟨gy, zy, yy⟩ := (S4.out.2.2.2.2.keep (KB.out d os)).at
    have h := usame_any (c := c6) (c' := c7) ll.out zx zy _ yx yy
    rw [HL.out.2.1, decide_eq_true rfl] at h
    exact h
  obtain ⟨M, eM⟩ : ∃ M, M = ((putL n).map (Value.int .u8)).toArray := ⟨_, rfl⟩
  have C3 : Hid (∀ w, Calls Try.prog 6 #[.agg #[.int .u64 (l0 n), .int .u64 (l1 n), .int .u64 (l2 n), .int .u64 (l3 n)]] w fun e w' => e = .returned (.agg M) ∧ Below w.heap.size w w') := fun w => by rw [eM]; exact put_any w
  have C4 : Hid (∀ w, Calls Try.prog 7 #[.agg #[.int .u64 (l0 n), .int .u64 (l1 n), .int .u64 (l2 n), .int .u64 (l3 n)]] w fun e w' => e = .returned (.agg M) ∧ Below w.heap.size w w') := fun w => by rw [eM]; exact rput_any w
  have eqm : ∀ w, (Op.equalIn 10000 27 (.agg M) (.agg M)).run Try.prog w = .ok true w := fun w => by
    have h := eq_b32 (putL_len n) (putL_len n) w
    rw [decide_eq_true rfl, ← eM] at h
    exact h
  clear eM
  go_wp2_with fail
  refine wp_region_quiet_below (by kernel_rfl) (by kernel_rfl) ?_
  repeat
    first
      | go_big_quiet_skip
      | (go_big_quiet_want; go_big_quiet_op; go_big_quiet_on)
      | (go_big_quiet_want
         go_big_quiet_op
         apply Exists.intro
         refine ⟨fun p => ?_, ?_⟩
         · (first | (go_at_call 6; with_reducible exact Calls.regrown_of (C3.out _)) | (go_at_call 7; with_reducible exact Calls.regrown_of (C4.out _)) | (go_at_call 8; with_reducible exact Calls.regrown_of (C1.out p.d p.os)) | (go_at_call 8; with_reducible exact Calls.regrown_of (C2.out p.d p.os)))
         go_big_quiet_on)
  refine wpQuiet_nil ?_
  rintro w5 ⟨p, rfl⟩
  have hb := KB.out p.d p.os
  generalize grow (redrawn w4 p.d) p.os = w5 at *
  have S5 : Hid (Below w.heap.size w w5 ∧ Hold w5 w.heap.size n ∧ OwnB W0.heap.size w5 (.slice a5 l c5) L ∧ OwnB w2.heap.size w5 (.slice a6 l c6) L ∧ OwnB w3.heap.size w5 (.slice a7 l c7) L ∧ w4.heap.size ≤ w5.heap.size) := ⟨S4.out.1.trans (hb.mono S4.out.1.size), S4.out.2.1.keep hb, S4.out.2.2.1.keep hb, S4.out.2.2.2.1.keep hb, S4.out.2.2.2.2.keep hb, hb.size⟩
  clear hb C1 C2 C3 C4 r0 r1 r2 r3 KB S4 x0 x1 x2 x3
  go_wp2
  refine H5.out _ _ ?_
  clear H5
  exact (ub_tail1 HN.out HL.out.1 HL.out.2.1 HL.out.2.2 HA.out.1 HA.out.2.1 HA.out.2.2.1 HA.out.2.2.2.1 w w5 HA.out.2.2.2.2 (b1 := W0.heap.size) (b2 := w2.heap.size) (b3 := w3.heap.size) (Nat.le_of_lt s0) s0 (fun k hk => by have := (I5.out k hk).2; have := z2.out; omega) z3.out S5.out.2.2.1 ⟨S5.out.1, S5.out.2.1, S5.out.2.2.2.1, S5.out.2.2.2.2.1, by have := z1.out; have := z2.out; have := z3.out; have := z4.out; have := S5.out.2.2.2.2.2; omega⟩ _ _ _ _ _ _ _ _ _ _ _ _ _ _ _ _ _ _ _ _ _ _ _ _ _ _ _ _ _ _ _ _ _ _ _ _ _ _ _ _ _ _ _ _ _ _ _ _ _ _ _ _ _ _ _ _ _ _ _ _ _ _ _ _ _ _ _ _ _ _ _ _ _ _ _ _ _ _ _ _ _ _ _ _ _ _ _ _ _ _ _ _ _ _ _ _ _ _ _ _ _ _ _ _ _ _ _ _ _ _ _ _ _ _ _ _ _ _ _ _ _ _ _ _ _ _ _ _ _ _ _ _ _ _ _ _ _ _ _ _ _ _ _ _ _ _ _ _ _ _ _ _ _ _ _ _).out rfl
end Go.Proofs.Yteoddmncfkmhgaa
