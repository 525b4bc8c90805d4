import Derived.Test.YtidchaaahgnabaaDoorHyF
import Derived.Test.YtidchaaahgnabaaDoorHxH
/- Layer 8: the law HexaOne. -/
namespace Go.Proofs.YtidchaaahgnabaaDoor
open Go.RowKit Go.Sort
/-- The text 0x1f. -/
def lit1f : ByteArray := ⟨#[48, 120, 49, 102]⟩
theorem lit1f_ok : okP lit1f := by
  refine ⟨by decide, (frB_bt (by decide)).2 (by decide), fun i hi => ?_⟩
  rw [tl_size] at hi
  rw [tl_bt]
  have : i = 0 ∨ i = 1 := by have : lit1f.size = 4 := rfl; omega
  rcases this with rfl | rfl <;> decide
theorem lit1f_size : (tl lit1f).size = 2 := by rw [tl_size]; rfl
theorem lit1f_E : pqE 64 lit1f = 0 := pqE_zero.2 ⟨lit1f_ok, by rw [lit1f_size]; decide, fun h => by rw [tl_bt] at h; exact absurd h.2 (by decide), by rw [lit1f_size]; decide⟩
theorem lit1f_N : pqN 64 lit1f = 31 := by
  unfold pqN
  rw [if_pos lit1f_E, lit1f_size]
  have e : dN (tl lit1f) 2 = 16 * (16 * 0 + dv (bt (tl lit1f) 0)) + dv (bt (tl lit1f) 1) := rfl
  rw [e, tl_bt, tl_bt]
  decide
theorem lit1f_T : [48, 120] ++ qtx 31 (hiD 31 + 1) = [48, 120, 49, 102] := by
  have := one_quan lit1f_E
  rw [lit1f_N] at this
  rw [this]
  decide
set_option maxRecDepth 100000 in
set_option maxHeartbeats 8000000 in
theorem hone_any {s : ByteArray} (hs : s.size < 140737488355328) (w : World) (tb1 : Tab w 4 turnsN) (tb2 : Lns w 2 marksN) :
    Calls Tryd.prog 6 #[.string s] w fun e w' => e = .returned (.bool true) ∧ Below w.heap.size w w' := by
  obtain ⟨tt, ht⟩ : ∃ tt : ByteArray, tt = ⟨(lowT s.data.toList).toArray⟩ := ⟨_, rfl⟩
  have HB : Hid (Tab w 4 turnsN ∧ Lns w 2 marksN) := ⟨tb1, tb2⟩
  have HS : Hid (s.size < 140737488355328 ∧ tt = ⟨(lowT s.data.toList).toArray⟩) := ⟨hs, ht⟩
  have PQ := pquan_all (s := lit1f) (by decide) w
  rw [lit1f_E, lit1f_N] at PQ
  have l31 : l0 31 = 31 ∧ l1 31 = 0 ∧ l2 31 = 0 ∧ l3 31 = 0 := by decide
  rw [l31.1, l31.2.1, l31.2.2.1, l31.2.2.2] at PQ
  have QT : Hid (∀ W', Calls Tryd.prog 17 #[.agg #[.int .u64 31, .int .u64 0, .int .u64 0, .int .u64 0]] W' fun e w' => e = .returned (.string ⟨#[48, 120, 49, 102]⟩) ∧ Below W'.heap.size W' w') := fun W' => by
    have := quant_any (n := 31) ⟨by decide, by decide⟩ W'
    rw [lit1f_T, l31.1, l31.2.1, l31.2.2.1, l31.2.2.2] at this
    exact this
  have LO : Hid (∀ W', Calls Tryd.prog 10 #[.string s] W' fun e w' => e = .returned (.string tt) ∧ Below W'.heap.size W' w') := fun W' => by
    have := lower_any (T := s.data.toList) (by rw [text_len]; exact hs) W'
    rw [← lit_text, ← ht] at this
    exact this
  have PD : Hid (∀ W', Calls Tryd.prog 28 #[.string s] W' fun e w' => ∃ v, e = .returned (.tuple #[v, .int .i64 (pdE s)]) ∧ OwnB W'.heap.size w' v (pdX s) ∧ Below W'.heap.size W' w') := fun W' => pd_any W'
  have DT : Hid (∀ W' v, Rd W' v (pdX s) → Calls Tryd.prog 13 #[v] W' fun e w' => e = .returned (.tuple #[.string ⟨([48, 120] ++ hexB (pdX s)).toArray⟩, .int .i64 0]) ∧ Below W'.heap.size W' w') := fun W' v hr => by
    obtain ⟨a, g, c, rfl, h1, h2⟩ := hr
    exact hdata_any (g := g) (o := 0) rfl (pdX_most s).1 (pdX_most s).2 (fun h => h1 (fun e => h (by rw [e]; rfl))) W' (fun i hi => by rw [Nat.zero_add]; exact h2 i hi)
  have ET : Hid (pdE s = 0 → (⟨([48, 120] ++ hexB (pdX s)).toArray⟩ : ByteArray) = tt) := fun e0 => by rw [(one_data e0).1, ht]
  obtain ⟨X, eX⟩ : ∃ X, Hid (X = pdX s) := ⟨_, rfl⟩
  rw [← eX.out] at PD DT ET
  generalize (⟨([48, 120] ++ hexB X).toArray⟩ : ByteArray) = dt at *
  have NU : Hid (∀ v w, Calls Tryd.prog 11 #[.int .i64 v] w fun e w' => e = .returned (.int .i64 v) ∧ Below w.heap.size w w') := fun v w => hnum_any v w
  have EQ := eqH 31 0 0 0 31 0 0 0
  simp only [beq_self_eq_true, Bool.and_self] at EQ
  clear hs ht tb1 tb2 l31
  unfold lit1f at PQ
  go_enter Tryd.func6, Tryd.ntmps6
  refine wp_seq_k fun K0 h0 => ?_
  have H0 : Hid _ := h0
  clear h0
  go_wp2
  refine H0.out _ _ ?_
  clear H0
  refine wp_seq_k fun K1 h1 => ?_
  have H1 : Hid _ := h1
  clear h1
  go_wp2_with fail
  with_reducible refine PQ.mono ?_
  rintro e1 w1 ⟨rfl, b1⟩
  have HB1 : Hid (Below w.heap.size w w1) := b1
  clear b1 PQ
  go_wp2
  refine H1.out _ _ ?_
  clear H1
  refine wp_world (fun W => Below w.heap.size w W ∧ Qd W w1.heap.size [31, 0, 0, 0] ∧ w.heap.size ≤ w1.heap.size) ⟨HB1.out.alloc HB1.out.size _, Qd.newv _ _ _ _ _ _, HB1.out.size⟩ ?_
  rintro W ⟨B, hv, obv⟩
  generalize w1.heap.size = bv at *
  clear HB1 w1
  refine wp_seq_k fun K2 h2 => ?_
  have H2 : Hid _ := h2
  clear h2
  go_wp2_with fail
  with_reducible refine (NU.out _ _).mono ?_
  rintro e1 w2 ⟨rfl, hb1⟩
  replace hv := hv.keep hb1
  replace B := B.trans (hb1.mono B.size)
  clear hb1 W
  have HV : Hid (Qd w2 bv [31, 0, 0, 0]) := hv
  obtain ⟨c0, f0⟩ := hv 0 (by decide); obtain ⟨c1, f1⟩ := hv 1 (by decide); obtain ⟨c2, f2⟩ := hv 2 (by decide); obtain ⟨c3, f3⟩ := hv 3 (by decide)
  simp only [List.getD_cons_zero, List.getD_cons_succ] at c0 c1 c2 c3
  clear hv f0 f1 f2 f3
  go_wp2_with fail
  with_reducible refine (QT.out _).mono ?_
  rintro e1 w3 ⟨rfl, hb1⟩
  have hv := HV.out.keep hb1
  replace B := B.trans (hb1.mono B.size)
  clear hb1 HV QT c0 c1 c2 c3 w2
  go_wp2
  refine H2.out _ _ ?_
  clear H2
  refine wp_seq_k fun K3 h3 => ?_
  have H3 : Hid _ := h3
  clear h3
  go_wp2_with fail
  with_reducible refine (LO.out _).mono ?_
  rintro e1 w4 ⟨rfl, hb1⟩
  replace hv := hv.keep hb1
  replace B := B.trans (hb1.mono B.size)
  clear hb1 LO w3
  go_wp2
  refine H3.out _ _ ?_
  clear H3
  refine wp_seq_k fun K4 h4 => ?_
  have H4 : Hid _ := h4
  clear h4
  by_cases e0 : pdE s = 0
  · obtain rfl := ET.out e0
    rw [e0] at PD
    clear e0 ET
    go_wp2_with fail
    with_reducible refine (PD.out _).mono ?_
    rintro e1 w5 ⟨v, rfl, hO, hb1⟩
    replace hv := hv.keep hb1
    replace B := B.trans (hb1.mono B.size)
    clear hb1 PD
    have D1 := DT.out _ v hO.rd
    clear hO DT
    go_wp2
    refine H4.out _ _ ?_
    clear H4
    refine wp_seq_k fun K5 h5 => ?_
    have H5 : Hid _ := h5
    clear h5
    go_wp2_with fail
    with_reducible refine D1.mono ?_
    rintro e1 w6 ⟨rfl, hb1⟩
    replace hv := hv.keep hb1
    replace B := B.trans (hb1.mono B.size)
    clear hb1 D1 w5
    go_wp2
    refine H5.out _ _ ?_
    clear H5
    refine wp_seq_k fun K6 h6 => ?_
    have H6 : Hid _ := h6
    clear h6
    go_wp2_with fail
    with_reducible refine (NU.out _ _).mono ?_
    rintro e1 w7 ⟨rfl, hb1⟩
    replace hv := hv.keep hb1
    replace B := B.trans (hb1.mono B.size)
    clear hb1 w6
    go_wp2_with fail
    with_reducible refine (NU.out _ _).mono ?_
    rintro e1 w9 ⟨rfl, hb1⟩
    replace hv := hv.keep hb1
    replace B := B.trans (hb1.mono B.size)
    clear hb1 w7
    have BL : Hid (Below w.heap.size w w9) := B
    clear B
    go_wp2
    refine H6.out _ _ ?_
    clear H6
    exact (hone_w HS.out.1 HS.out.2 w w9 BL.out HB.out.1 HB.out.2 obv hv _ _ _ _ _ _ _ _ _ _ _ _ _ _ _ _ _ _ _ _ _ _ _ _ _ _ _ _ _ _ _ _ _ _ _ _ _ _ _ _ _ _ _ _ _ _ _ _ _ _ _ _ _ _ _ _ _ _ _ _ _ _ _ _ _ _ _ _ _ _ _ _ _ _ _ _ _ _ _ _ _ _ _ _ _ _ _ _ _ _ _ _ _ _ _ _ _ _ _ _ _ _ _ _ _ _ _ _ _ _ _ _ _ _).out rfl
  · have q1 : (pdE s != 0) = true := by simpa using e0
    have q2 : (pdE s == 0) = false := by simpa using e0
    generalize pdE s = E at *
    clear e0 ET
    go_wp2_with fail
    with_reducible refine (PD.out _).mono ?_
    rintro e1 w5 ⟨v, rfl, hO, hb1⟩
    replace hv := hv.keep hb1
    replace B := B.trans (hb1.mono B.size)
    clear hb1 PD
    have D1 := DT.out _ v hO.rd
    clear hO DT
    go_wp2
    refine H4.out _ _ ?_
    clear H4
    refine wp_seq_k fun K5 h5 => ?_
    have H5 : Hid _ := h5
    clear h5
    go_wp2_with fail
    with_reducible refine D1.mono ?_
    rintro e1 w6 ⟨rfl, hb1⟩
    replace hv := hv.keep hb1
    replace B := B.trans (hb1.mono B.size)
    clear hb1 D1 w5
    go_wp2
    refine H5.out _ _ ?_
    clear H5
    refine wp_seq_k fun K6 h6 => ?_
    have H6 : Hid _ := h6
    clear h6
    go_wp2_with fail
    with_reducible refine (NU.out _ _).mono ?_
    rintro e1 w9 ⟨rfl, hb1⟩
    replace hv := hv.keep hb1
    replace B := B.trans (hb1.mono B.size)
    clear hb1 w6
    have BL : Hid (Below w.heap.size w w9) := B
    clear B
    go_wp2
    refine H6.out _ _ ?_
    clear H6
    exact (hone_w HS.out.1 HS.out.2 w w9 BL.out HB.out.1 HB.out.2 obv hv _ _ _ _ _ _ _ _ _ _ _ _ _ _ _ _ _ _ _ _ _ _ _ _ _ _ _ _ _ _ _ _ _ _ _ _ _ _ _ _ _ _ _ _ _ _ _ _ _ _ _ _ _ _ _ _ _ _ _ _ _ _ _ _ _ _ _ _ _ _ _ _ _ _ _ _ _ _ _ _ _ _ _ _ _ _ _ _ _ _ _ _ _ _ _ _ _ _ _ _ _ _ _ _ _ _ _ _ _ _ _ _ _ _).out rfl
end Go.Proofs.YtidchaaahgnabaaDoor
