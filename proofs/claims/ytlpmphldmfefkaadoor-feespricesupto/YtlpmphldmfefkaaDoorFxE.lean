import Derived.Test.YtlpmphldmfefkaaDoorFxQ
import Derived.Test.YtlpmphldmfefkaaDoorFxT
import Derived.Test.YtlpmphldmfefkaaDoorFxB
import Derived.Test.YtlpmphldmfefkaaDoorTxPs
/- Layer 18: Price and Cost of both sides, of any transaction. -/
namespace Go.Proofs.YtlpmphldmfefkaaDoor
open Go.RowKit Go.Sort
open tq
theorem df_ok {t : Txv} (h : dfN t = 0) : 0 ≤ t.ty ∧ t.ty < 5 := by
  by_cases c : t.ty < 0 ∨ 5 ≤ t.ty
  · rw [df_other c] at h; exact absurd h (by decide)
  · omega
theorem z4 : (.agg #[.int .u64 (l0 0), .int .u64 (l1 0), .int .u64 (l2 0), .int .u64 (l3 0)] : Value) = .agg #[.int .u64 0, .int .u64 0, .int .u64 0, .int .u64 0] := by
  obtain ⟨z0, z1, z2, z3⟩ := zero_limbs
  rw [z0, z1, z2, z3]
set_option maxHeartbeats 4000000 in
theorem rprice_any {t : Txv} {b : Int} (w : World) (hG : TxG w t) (hb : Num b) (hH : t.Hsl.length < 1000000000) (hU : t.Ul.length < 1000000000) :
    Calls Tryd.prog 32 #[.agg (txC t).toArray, .agg #[.int .u64 (l0 b), .int .u64 (l1 b), .int .u64 (l2 b), .int .u64 (l3 b)]] w fun e w' => e = .returned (.tuple #[.agg #[.int .u64 (l0 (prP t b)), .int .u64 (l1 (prP t b)), .int .u64 (l2 (prP t b)), .int .u64 (l3 (prP t b))], .agg #[.int .u64 (l0 (prT t b)), .int .u64 (l1 (prT t b)), .int .u64 (l2 (prT t b)), .int .u64 (l3 (prT t b))], .int .i64 (prE t b)]) ∧ Below w.heap.size w w' := by
  have h20 := hG.to.1
  have DR : Hid (∀ W, Below w.heap.size w W → Calls Tryd.prog 51 #[.agg (txC t).toArray] W fun e w' => e = .returned (.int .i64 (dfN t)) ∧ Below W.heap.size W w') := fun W B => rdraft_any W (hG.keep B) hH hU
  by_cases d0 : dfN t = 0
  · have hty := df_ok d0
    rw [show prP t b = ppV t b from if_pos d0, show prT t b = ptV t b from if_pos d0, show prE t b = peN t b from if_pos d0]
    rw [d0] at DR
    have hca := hG.ca
    have hti := hG.ti
    have hpr := hG.pr
    have hb' := hb
    obtain ⟨b0, b1⟩ := hb
    by_cases ct : 2 ≤ t.ty
    · have c : ¬ (t.ty = 0 ∨ t.ty = 1) := by omega
      have C1 : ∀ W, Below w.heap.size w W → _ := fun W (_ : Below w.heap.size w W) => rcmp_any hti hca W
      have CO : ∀ W, Below w.heap.size w W → _ := fun W (_ : Below w.heap.size w W) => rmost_any h20 hty.1 W
      have S1 : ∀ W, Below w.heap.size w W → _ := fun W (_ : Below w.heap.size w W) => rsub_any hca hb' W
      have e0 : peN t b = if t.ca < t.ti then 181 else if t.ca < b then 180 else 0 := if_neg c
      have e1 : ptN t b = if t.ti < t.ca - b then t.ti else t.ca - b := if_neg c
      rw [show capT t = t.ca from if_neg c] at CO
      obtain ⟨p0, p1⟩ := hti
      obtain ⟨q0, q1⟩ := hca
      by_cases h : t.ca < t.ti
      · rw [if_pos h] at e0
        rw [show ppV t b = 0 from if_neg (by omega), show ptV t b = 0 from if_neg (by omega), e0, z4]
        exact rprice_tip h20 w DR ct C1 (by unfold cmpN; rw [if_neg (by omega), if_neg (by omega)]; decide)
      have k1 : ¬ 0 < cmpN t.ti t.ca := by unfold cmpN; split <;> (try split) <;> omega
      by_cases h2 : t.ca < b
      · rw [if_neg h, if_pos h2] at e0
        rw [show borN t.ca b = 1 from if_pos h2] at S1
        rw [show ppV t b = 0 from if_neg (by omega), show ptV t b = 0 from if_neg (by omega), e0, z4]
        exact rprice_nlow h20 w DR ct C1 k1 CO S1
      · rw [if_neg h, if_neg h2] at e0
        have nd : Num (t.ca - b) := ⟨by omega, by omega⟩
        rw [show borN t.ca b = 0 from if_neg h2, show difN t.ca b = t.ca - b from Int.emod_eq_of_lt (by omega) (by omega)] at S1
        have C2 : ∀ W, Below w.heap.size w W → _ := fun W (_ : Below w.heap.size w W) => rcmp_any ⟨p0, p1⟩ nd W
        by_cases h3 : t.ti < t.ca - b
        · rw [if_pos h3] at e1
          have A1 : ∀ W, Below w.heap.size w W → _ := fun W (_ : Below w.heap.size w W) => radd_any hb' ⟨p0, p1⟩ W
          rw [show sumN b t.ti = b + t.ti from Int.emod_eq_of_lt (by omega) (by omega)] at A1
          rw [show ppV t b = b + t.ti by unfold ppV; rw [if_pos e0, e1], show ptV t b = t.ti by unfold ptV; rw [if_pos e0, e1], e0]
          exact rprice_nown h20 w DR ct C1 k1 CO S1 C2 (by unfold cmpN; rw [if_neg (by omega), if_pos h3]; decide) A1
        · rw [if_neg h3] at e1
          have A1 : ∀ W, Below w.heap.size w W → _ := fun W (_ : Below w.heap.size w W) => radd_any hb' nd W
          rw [show sumN b (t.ca - b) = b + (t.ca - b) from Int.emod_eq_of_lt (by omega) (by omega)] at A1
          rw [show ppV t b = b + (t.ca - b) by unfold ppV; rw [if_pos e0, e1], show ptV t b = t.ca - b by unfold ptV; rw [if_pos e0, e1], e0]
          exact rprice_nall h20 w DR ct C1 k1 CO S1 C2 (by unfold cmpN; split <;> (try split) <;> omega) A1
    · have c : t.ty = 0 ∨ t.ty = 1 := by omega
      have CO : ∀ W, Below w.heap.size w W → _ := fun W (_ : Below w.heap.size w W) => rmost_any h20 hty.1 W
      have S1 : ∀ W, Below w.heap.size w W → _ := fun W (_ : Below w.heap.size w W) => rsub_any hpr hb' W
      have e0 : peN t b = if t.pr < b then 180 else 0 := if_pos c
      have e1 : ptN t b = t.pr - b := if_pos c
      rw [show capT t = t.pr from if_pos c] at CO
      obtain ⟨p0, p1⟩ := hpr
      by_cases h : t.pr < b
      · rw [if_pos h] at e0
        rw [show borN t.pr b = 1 from if_pos h] at S1
        rw [show ppV t b = 0 from if_neg (by omega), show ptV t b = 0 from if_neg (by omega), e0, z4]
        exact rprice_low h20 w DR ct CO S1
      · rw [if_neg h] at e0
        have nd : Num (t.pr - b) := ⟨by omega, by omega⟩
        rw [show borN t.pr b = 0 from if_neg h, show difN t.pr b = t.pr - b from Int.emod_eq_of_lt (by omega) (by omega)] at S1
        have A1 : ∀ W, Below w.heap.size w W → _ := fun W (_ : Below w.heap.size w W) => radd_any hb' nd W
        rw [show sumN b (t.pr - b) = b + (t.pr - b) from Int.emod_eq_of_lt (by omega) (by omega)] at A1
        rw [show ppV t b = b + (t.pr - b) by unfold ppV; rw [if_pos e0, e1], show ptV t b = t.pr - b by unfold ptV; rw [if_pos e0, e1], e0]
        exact rprice_all h20 w DR ct CO S1 A1
  · rw [show prP t b = 0 from if_neg d0, show prT t b = 0 from if_neg d0, show prE t b = dfN t from if_neg d0, z4]
    exact rprice_bad h20 w DR d0
/-- What it may cost. -/
def sumT (t : Txv) : Int := t.gas * capT t + bgT t * t.bc + t.va
def csE (t : Txv) : Int := if dfN t = 0 then wideE (sumT t) else dfN t
def csV (t : Txv) : Int := if dfN t = 0 then wideV (sumT t) else 0
theorem capT_Num {W : World} {t : Txv} (h : TxG W t) : Num (capT t) := by
  unfold capT; split
  · exact h.pr
  · exact h.ca
set_option maxHeartbeats 4000000 in
theorem rcost_any {t : Txv} (w : World) (hG : TxG w t) (hH : t.Hsl.length < 1000000000) (hU : t.Ul.length < 1000000000) :
    Calls Tryd.prog 33 #[.agg (txC t).toArray] w fun e w' => e = .returned (.tuple #[.agg #[.int .u64 (l0 (csV t)), .int .u64 (l1 (csV t)), .int .u64 (l2 (csV t)), .int .u64 (l3 (csV t))], .int .i64 (csE t)]) ∧ Below w.heap.size w w' := by
  have h20 := hG.to.1
  have DR : Hid (∀ W, Below w.heap.size w W → Calls Tryd.prog 51 #[.agg (txC t).toArray] W fun e w' => e = .returned (.int .i64 (dfN t)) ∧ Below W.heap.size W w') := fun W B => rdraft_any W (hG.keep B) hH hU
  by_cases d0 : dfN t = 0
  · have hty := df_ok d0
    rw [d0] at DR
    rw [show csV t = wideV (sumT t) from if_pos d0, show csE t = wideE (sumT t) from if_pos d0]
    have hg := hG.gas
    have hgN := word_Num hg
    have hcap := capT_Num hG
    have hbg := bgT_word (t := t) hH
    have hbgN := word_Num hbg
    have p1 := mul_nonneg9 hg.1 hcap.1
    have p2 := mul_nonneg9 hbg.1 hG.bc.1
    have v0 := hG.va.1
    have hs : sumT t = t.gas * capT t + bgT t * t.bc + t.va := rfl
    by_cases c : sumT t < 115792089237316195423570985008687907853269984665640564039457584007913129639936
    · have x1 : t.gas * capT t < 115792089237316195423570985008687907853269984665640564039457584007913129639936 := by omega
      have x2 : bgT t * t.bc < 115792089237316195423570985008687907853269984665640564039457584007913129639936 := by omega
      have e1 : loN t.gas (capT t) = t.gas * capT t := (hi_zero p1 x1).2
      have e2 : loN (bgT t) t.bc = bgT t * t.bc := (hi_zero p2 x2).2
      have e3 : sumN (t.gas * capT t) t.va = t.gas * capT t + t.va := Int.emod_eq_of_lt (by omega) (by omega)
      have e4 : sumN (t.gas * capT t + t.va) (bgT t * t.bc) = sumT t := by rw [hs]; unfold sumN; omega
      have key := rcost_1 (t := t) (cap := capT t) (bg := bgT t) (g := t.gas * capT t) (bl := bgT t * t.bc) (f := t.gas * capT t + t.va) (r := sumT t) (a := true) (b := true) (c := true) (dd := true) (ok := true) h20 w DR (fun W _ => rfrom_any hg W) (fun W _ => rmost_any h20 hty.1 W)
        (fun W _ => by have k := rproductF_any hgN hcap W; rw [e1, decide_eq_true x1] at k; exact k) (fun W _ => rblobGas_any h20 hH W) (fun W _ => rfrom_any hbg W)
        (fun W _ => by have k := rproductF_any hbgN hG.bc W; rw [e2, decide_eq_true x2] at k; exact k)
        (fun W _ => by have k := rsumF_any (x := t.gas * capT t) ⟨p1, x1⟩ hG.va W; rw [e3, decide_eq_true (by omega)] at k; exact k)
        (fun W _ => by have k := rsumF_any (x := t.gas * capT t + t.va) (y := bgT t * t.bc) ⟨by omega, by omega⟩ ⟨p2, x2⟩ W; rw [e4, decide_eq_true (by omega)] at k; exact k) rfl
      rw [show wideV (sumT t) = sumT t from if_pos c, show wideE (sumT t) = 0 from if_pos c]
      simp only [if_true] at key
      exact key
    · have key := rcost_1 (t := t) (cap := capT t) (bg := bgT t) (g := loN t.gas (capT t)) (bl := loN (bgT t) t.bc) (f := sumN (loN t.gas (capT t)) t.va) (r := sumN (sumN (loN t.gas (capT t)) t.va) (loN (bgT t) t.bc)) (ok := false) h20 w DR (fun W _ => rfrom_any hg W) (fun W _ => rmost_any h20 hty.1 W) (fun W _ => rproductF_any hgN hcap W) (fun W _ => rblobGas_any h20 hH W) (fun W _ => rfrom_any hbg W) (fun W _ => rproductF_any hbgN hG.bc W) (fun W _ => rsumF_any (loN_Num _ _) hG.va W) (fun W _ => rsumF_any (sumN_Num _ _) (loN_Num _ _) W) (by
        by_cases x1 : t.gas * capT t < 115792089237316195423570985008687907853269984665640564039457584007913129639936
        · by_cases x2 : bgT t * t.bc < 115792089237316195423570985008687907853269984665640564039457584007913129639936
          · have e1 : loN t.gas (capT t) = t.gas * capT t := (hi_zero p1 x1).2
            have e2 : loN (bgT t) t.bc = bgT t * t.bc := (hi_zero p2 x2).2
            rw [e1, e2]
            by_cases x3 : t.gas * capT t + t.va < 115792089237316195423570985008687907853269984665640564039457584007913129639936
            · have e3 : sumN (t.gas * capT t) t.va = t.gas * capT t + t.va := Int.emod_eq_of_lt (by omega) (by omega)
              rw [e3, decide_eq_false (show ¬ t.gas * capT t + t.va + bgT t * t.bc < 115792089237316195423570985008687907853269984665640564039457584007913129639936 by omega)]
              simp
            · rw [decide_eq_false x3]; simp
          · rw [decide_eq_false x2]; simp
        · rw [decide_eq_false x1]; simp)
      rw [show wideV (sumT t) = 0 from if_neg c, show wideE (sumT t) = 183 from if_neg c, z4]
      exact key
  · rw [show csV t = 0 from if_neg d0, show csE t = dfN t from if_neg d0, z4]
    exact rcost_0 h20 w DR d0
set_option maxHeartbeats 4000000 in
theorem cost_any {t : Txv} (w : World) (hG : TxG w t) (hH : t.Hsl.length < 1000000000) (hU : t.Ul.length < 1000000000) (hR : Rws w) :
    Calls Tryd.prog 21 #[.agg (txC t).toArray] w fun e w' => e = .returned (.tuple #[.agg #[.int .u64 (l0 (csV t)), .int .u64 (l1 (csV t)), .int .u64 (l2 (csV t)), .int .u64 (l3 (csV t))], .int .i64 (csE t)]) ∧ Below w.heap.size w w' := by
  have h20 := hG.to.1
  have DR : Hid (∀ W, Below w.heap.size w W → Calls Tryd.prog 9 #[.agg (txC t).toArray] W fun e w' => e = .returned (.int .i64 (dfN t)) ∧ Below W.heap.size W w') := fun W B => draft_at hG hH hU hR B
  by_cases d0 : dfN t = 0
  · have hty := df_ok d0
    rw [d0] at DR
    rw [show csV t = wideV (sumT t) from if_pos d0, show csE t = wideE (sumT t) from if_pos d0]
    have hg := hG.gas
    have hcap := capT_Num hG
    have hbg := bgT_word (t := t) hH
    have p1 := mul_nonneg9 hg.1 hcap.1
    have p2 := mul_nonneg9 hbg.1 hG.bc.1
    have v0 := hG.va.1
    have hs : sumT t = t.gas * capT t + bgT t * t.bc + t.va := rfl
    have hv := hG.va
    have CO : ∀ W, Below w.heap.size w W → _ := fun W (_ : Below w.heap.size w W) => capOf_any h20 W
    have T1 : ∀ W, Below w.heap.size w W → _ := fun W (_ : Below w.heap.size w W) => times_any hg hcap W
    have BG : ∀ W, Below w.heap.size w W → _ := fun W (_ : Below w.heap.size w W) => blobGas_any h20 hH W
    have T2 : ∀ W, Below w.heap.size w W → _ := fun W (_ : Below w.heap.size w W) => times_any hbg hG.bc W
    by_cases x1 : t.gas * capT t < 115792089237316195423570985008687907853269984665640564039457584007913129639936
    · rw [show wideV (t.gas * capT t) = t.gas * capT t from if_pos x1, show wideE (t.gas * capT t) = 0 from if_pos x1] at T1
      by_cases x2 : bgT t * t.bc < 115792089237316195423570985008687907853269984665640564039457584007913129639936
      · rw [show wideV (bgT t * t.bc) = bgT t * t.bc from if_pos x2, show wideE (bgT t * t.bc) = 0 from if_pos x2] at T2
        have P1 : ∀ W, Below w.heap.size w W → _ := fun W (_ : Below w.heap.size w W) => plus_any (x := t.gas * capT t) (y := bgT t * t.bc) ⟨p1, x1⟩ ⟨p2, x2⟩ W
        by_cases x3 : t.gas * capT t + bgT t * t.bc < 115792089237316195423570985008687907853269984665640564039457584007913129639936
        · rw [show wideV (t.gas * capT t + bgT t * t.bc) = t.gas * capT t + bgT t * t.bc from if_pos x3, show wideE (t.gas * capT t + bgT t * t.bc) = 0 from if_pos x3] at P1
          have P2 : ∀ W, Below w.heap.size w W → _ := fun W (_ : Below w.heap.size w W) => plus_any (x := t.gas * capT t + bgT t * t.bc) (y := t.va) ⟨by omega, x3⟩ hv W
          exact cost_4 h20 w DR CO T1 BG T2 P1 P2
        · rw [show wideE (t.gas * capT t + bgT t * t.bc) = 183 from if_neg x3] at P1
          rw [show wideV (sumT t) = 0 from if_neg (by omega), show wideE (sumT t) = 183 from if_neg (by omega), z4]
          exact cost_3 h20 w DR CO T1 BG T2 P1 (by decide)
      · rw [show wideE (bgT t * t.bc) = 183 from if_neg x2] at T2
        rw [show wideV (sumT t) = 0 from if_neg (by omega), show wideE (sumT t) = 183 from if_neg (by omega), z4]
        exact cost_2 h20 w DR CO T1 BG T2 (by decide)
    · rw [show wideE (t.gas * capT t) = 183 from if_neg x1] at T1
      rw [show wideV (sumT t) = 0 from if_neg (by omega), show wideE (sumT t) = 183 from if_neg (by omega), z4]
      exact cost_1 h20 w DR CO T1 (by decide)
  · rw [show csV t = 0 from if_neg d0, show csE t = dfN t from if_neg d0, z4]
    exact cost_0 h20 w DR d0
end Go.Proofs.YtlpmphldmfefkaaDoor
