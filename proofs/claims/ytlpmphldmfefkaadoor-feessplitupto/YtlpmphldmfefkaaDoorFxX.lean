import Derived.Test.YtlpmphldmfefkaaDoorFxW
/- Layer 18: FeesSplit: the law. -/
namespace Go.Proofs.YtlpmphldmfefkaaDoor
open Go.RowKit Go.Sort
open tq
theorem pr_df {t : Txv} {b : Int} (h : prE t b = 0) : dfN t = 0 := by
  by_cases c : dfN t = 0
  · exact c
  · rw [prE, if_neg c] at h; exact absurd h c
theorem pr_no {t : Txv} {b : Int} (h : prE t b ≠ 0) : prP t b = 0 ∧ prT t b = 0 := by
  by_cases c : dfN t = 0
  · rw [prE, if_pos c] at h
    rw [prP, if_pos c, prT, if_pos c, ppV, if_neg h, ptV, if_neg h]; exact ⟨rfl, rfl⟩
  · rw [prP, if_neg c, prT, if_neg c]; exact ⟨rfl, rfl⟩
theorem pr_le {W : World} {t : Txv} {b : Int} (hG : TxG W t) (hb : Num b) (h : prE t b = 0) : prP t b ≤ capT t ∧ (2 ≤ t.ty → prT t b ≤ t.ti) := by
  obtain ⟨b0, b1⟩ := hb
  have hd := pr_df h
  have hp : peN t b = 0 := by rw [prE, if_pos hd] at h; exact h
  have e1 : prP t b = b + ptN t b := by rw [prP, if_pos hd, ppV, if_pos hp]
  have e2 : prT t b = ptN t b := by rw [prT, if_pos hd, ptV, if_pos hp]
  obtain ⟨p0, p1⟩ := hG.pr
  obtain ⟨q0, q1⟩ := hG.ti
  obtain ⟨r0, r1⟩ := hG.ca
  rw [e1, e2]
  unfold peN at hp
  unfold ptN capT
  by_cases c : t.ty = 0 ∨ t.ty = 1
  · rw [if_pos c, if_pos c]
    exact ⟨by omega, fun k => by omega⟩
  · rw [if_neg c] at hp
    rw [if_neg c, if_neg c]
    by_cases k2 : t.ti < t.ca - b
    · rw [if_pos k2]; exact ⟨by omega, fun _ => Int.le_refl _⟩
    · rw [if_neg k2]; exact ⟨by omega, fun _ => by omega⟩
theorem ch_pr {t : Txv} {b g : Int} (h : chE t b g = 0) : prE t b = 0 ∧ ¬ t.gas < g ∧ g * prP t b < 115792089237316195423570985008687907853269984665640564039457584007913129639936 := by
  unfold chE at h
  by_cases c : prE t b = 0
  · rw [if_pos c] at h
    by_cases k : t.gas < g
    · rw [if_pos k] at h; exact absurd h (by decide)
    · rw [if_neg k] at h
      refine ⟨c, k, ?_⟩
      by_cases x : g * prP t b < 115792089237316195423570985008687907853269984665640564039457584007913129639936
      · exact x
      · rw [wideE_no x] at h; exact absurd h (by decide)
  · rw [if_neg c] at h; exact absurd h c
theorem cmp_le {n m : Int} (h : n ≤ m) : cmpN n m ≤ 0 := by
  unfold cmpN
  split
  · omega
  · split <;> omega
set_option maxHeartbeats 4000000 in
theorem feesSplit_any {t : Txv} {b g : Int} (hb : Num b) (hg : Word g) (hn : Hid (BdTF t)) (w : World) (hM : MkH w) (hA : MkA w) (hR : Rws w) (hG : TxG w t) :
    Calls Tryd.prog 4 #[.agg (txC t).toArray, .agg #[.int .u64 (l0 b), .int .u64 (l1 b), .int .u64 (l2 b), .int .u64 (l3 b)], .int .u64 g] w fun e w' => e = .returned (.bool true) ∧ Below w.heap.size w w' := by
  have h20 := hG.to.1
  have bd := hn.out
  have hgN := word_Num hg
  refine feesSplit_walk (X1 := prP t b) (X2 := prT t b) (ee := prE t b) (Y1 := chB t b g) (Y2 := chP t b g) (ff := chE t b g) (cc := csV t) (ce := csE t) (cap := capT t) (ti := t.ti) (ty := t.ty) (gas := t.gas) (k1 := cmpN (prP t b) (capT t)) (k2 := cmpN (prT t b) t.ti) (k3 := cmpN (g * prP t b) (csV t)) (z := 0) (s := g * prP t b)
    (size_tx h20) ?TW ?HA ?AD ?LM ?CA ?hk1 ?CB ?hk2 ?MC ?HF ?AS rfl ?HG ?HC ?CC ?FR ?ML1 ?ML2 ?ML3 ?LV
  case TW =>
    intro V BV
    refine (twinF_any hn V (hM.keep BV) (hA.keep BV) (hG.keep BV)).mono ?_
    rintro e W ⟨u, rfl, lt, hB⟩
    refine ⟨_, rfl, ⟨txC u, rfl, fun V' B' => ?_⟩, hB⟩
    have BVV : Below V.heap.size V V' := hB.trans (B'.mono hB.size)
    have BW : Below w.heap.size w V' := BV.trans (BVV.mono BV.size)
    have l2 := lt.keep B'
    have g2 := l2.good (hG.keep BW)
    have u1 : u.Hsl.length < 1000000000 := by rw [l2.Hs.1]; exact bd.2.1
    have u2 : u.Ul.length < 1000000000 := by rw [l2.U.1]; have := bd.2.2.1; omega
    refine ⟨?_, ?_, ?_⟩
    · have := price_any V' g2 hb u1 u2 (hR.keep BW)
      rwa [(pr_same l2 b).1, (pr_same l2 b).2.1, (pr_same l2 b).2.2] at this
    · have := charge_any V' g2 hb hg u1 u2 (hR.keep BW)
      rwa [(ch_same l2 b g).1, (ch_same l2 b g).2.1, (ch_same l2 b g).2.2] at this
    · have := cost_any V' g2 u1 u2 (hR.keep BW)
      rwa [(cs_same l2).1, (cs_same l2).2] at this
  case HA =>
    intro c
    have hf : chE t b g = prE t b := if_neg c
    have hf0 : ¬ chE t b g = 0 := by rw [hf]; exact c
    exact ⟨hf, (pr_no c).1, (pr_no c).2, if_neg hf0, if_neg hf0⟩
  case AD =>
    intro c w
    obtain ⟨e, n1, n2⟩ := pr_ok hG hb c
    have := add_any hb n2 w
    rw [show sumN b (prT t b) = prP t b by rw [e]; exact Int.emod_eq_of_lt (by have := hb.1; have := n2.1; omega) (by rw [← e]; exact n1.2), show carN b (prT t b) = 0 by unfold carN; rw [← e]; have := n1.1; have := n1.2; omega] at this
    exact this
  case LM => exact fun c w => limit_any h20 (df_ok (pr_df c)).1 w
  case CA => exact fun c w => cmp_any (pr_ok hG hb c).2.1 (capT_Num hG) w
  case hk1 => exact fun c => eq_false (by have := cmp_le (pr_le hG hb c).1; omega)
  case CB => exact fun c w => cmp_any (pr_ok hG hb c).2.2 hG.ti w
  case hk2 => exact fun c ct => eq_false (by have := cmp_le ((pr_le hG hb c).2 ct); omega)
  case MC =>
    intro V h
    have X : TxB V w.heap.size t := ⟨h, h20⟩
    exact ⟨X.ty, X.ti.1, X.ti.2.1, X.ti.2.2.1, X.ti.2.2.2, X.gas⟩
  case HF =>
    intro c hf
    have e : chE t b g = if t.gas < g then 184 else wideE (g * prP t b) := if_pos c
    by_cases k : t.gas < g
    · exact .inl ⟨k, by rw [e, if_pos k]⟩
    · rw [if_neg k] at e
      refine .inr ?_
      rw [e]
      refine wideE_no fun x => hf ?_
      rw [e]; exact wideE_yes x
  case AS =>
    intro c w
    obtain ⟨c1, c2, c3⟩ := ch_pr c
    obtain ⟨e, n1, n2⟩ := pr_ok hG hb c1
    have y1 : chB t b g = g * b := if_pos c
    have y2 : chP t b g = g * prT t b := if_pos c
    have s := mul_split hg.1 hb.1 n2.1 e
    have m1 := mul_nonneg9 hg.1 hb.1
    have m2 := mul_nonneg9 hg.1 n2.1
    have es : g * prP t b = g * b + g * prT t b := by rw [e, Int.mul_add]
    rw [y1, y2]
    have := add_any (n := g * b) (m := g * prT t b) ⟨m1, by omega⟩ ⟨m2, by omega⟩ w
    rw [show sumN (g * b) (g * prT t b) = g * prP t b by rw [es]; exact Int.emod_eq_of_lt (by omega) (by omega), show carN (g * b) (g * prT t b) = 0 by unfold carN; omega] at this
    exact this
  case HG => exact fun c => (ch_pr c).2.1
  case HC =>
    intro c
    obtain ⟨c1, c2, c3⟩ := ch_pr c
    obtain ⟨e, n1, n2⟩ := pr_ok hG hb c1
    have d0 := pr_df c1
    have hcap := capT_Num hG
    have ev : csV t = wideV (sumT t) := if_pos d0
    have ee : csE t = wideE (sumT t) := if_pos d0
    rw [ev, ee]
    by_cases x : sumT t < 115792089237316195423570985008687907853269984665640564039457584007913129639936
    · refine .inr ⟨wideE_yes x, cmp_le ?_⟩
      rw [show wideV (sumT t) = sumT t from if_pos x]
      have q1 : g * prP t b ≤ t.gas * capT t := Int.mul_le_mul (by omega) (pr_le hG hb c1).1 n1.1 hG.gas.1
      have q2 := mul_nonneg9 (bgT_word (t := t) bd.2.1).1 hG.bc.1
      have q3 := hG.va.1
      show g * prP t b ≤ t.gas * capT t + bgT t * t.bc + t.va
      omega
    · exact .inl (wideE_no x)
  case CC =>
    intro c w
    obtain ⟨c1, c2, c3⟩ := ch_pr c
    obtain ⟨e, n1, n2⟩ := pr_ok hG hb c1
    refine cmp_any ⟨mul_nonneg9 hg.1 n1.1, c3⟩ ?_ w
    have d0 := pr_df c1
    rw [show csV t = wideV (sumT t) from if_pos d0]
    have p1 := mul_nonneg9 hG.gas.1 (capT_Num hG).1
    have p2 := mul_nonneg9 (bgT_word (t := t) bd.2.1).1 hG.bc.1
    have p3 := hG.va.1
    have hs : sumT t = t.gas * capT t + bgT t * t.bc + t.va := rfl
    by_cases x : sumT t < 115792089237316195423570985008687907853269984665640564039457584007913129639936
    · rw [show wideV (sumT t) = sumT t from if_pos x]; exact ⟨by omega, x⟩
    · rw [show wideV (sumT t) = 0 from if_neg x]; exact ⟨by decide, by decide⟩
  case FR => exact fun w => from_any hg w
  case ML1 =>
    intro c w
    obtain ⟨c1, c2, c3⟩ := ch_pr c
    obtain ⟨e, n1, n2⟩ := pr_ok hG hb c1
    have s := mul_split hg.1 hb.1 n2.1 e
    obtain ⟨e1, e2⟩ := hi_zero (mul_nonneg9 hg.1 hb.1) (by omega)
    have := mul_any hgN hb w
    rw [e1, e2] at this
    rw [show chB t b g = g * b from if_pos c]
    exact this
  case ML2 =>
    intro c w
    obtain ⟨c1, c2, c3⟩ := ch_pr c
    obtain ⟨e, n1, n2⟩ := pr_ok hG hb c1
    have s := mul_split hg.1 hb.1 n2.1 e
    obtain ⟨e1, e2⟩ := hi_zero (mul_nonneg9 hg.1 n2.1) (by omega)
    have := mul_any hgN n2 w
    rw [e1, e2] at this
    rw [show chP t b g = g * prT t b from if_pos c]
    exact this
  case ML3 =>
    intro c w
    obtain ⟨c1, c2, c3⟩ := ch_pr c
    obtain ⟨e, n1, n2⟩ := pr_ok hG hb c1
    obtain ⟨e1, e2⟩ := hi_zero (mul_nonneg9 hg.1 n1.1) c3
    have := mul_any hgN n1 w
    rw [e1, e2] at this
    exact this
  case LV => exact fun V BV => lives_any V (hR.keep BV)
end Go.Proofs.YtlpmphldmfefkaaDoor
