import Derived.Test.YtlpmphldmfefkaaDoorFxQ
import Derived.Test.YtlpmphldmfefkaaDoorFxP
import Derived.Test.YtlpmphldmfefkaaDoorFxD
import Derived.Test.YtlpmphldmfefkaaDoorTxPs
import Derived.Test.YtlpmphldmfefkaaDoorMulNum
import Derived.Test.YtlpmphldmfefkaaDoorQAlloc
import Derived.Test.YtlpmphldmfefkaaDoorMul2
import Derived.Test.YtlpmphldmfefkaaDoorShl
import Derived.Deep.RegionHeld3
import Derived.Test.YtlpmphldmfefkaaDoorTsG
import Derived.Test.YtlpmphldmfefkaaDoorTsE
/- Layer 18: Price and Cost of both sides, of any transaction. -/
namespace Go.Proofs.YtlpmphldmfefkaaDoor
open Go.RowKit Go.Sort
open tq
theorem df_ok {t : Txv} (h : dfN t = 0) : 0 ≤ t.ty ∧ t.ty < 5 := by
  by_cases c : t.ty < 0 ∨ 5 ≤ t.ty
  · rw [df_other c] at h; exact absurd h (by decide)
  · omega
theorem z4 : (.agg #[.int .u64 (l0 0), .int .u64 (l1 0), .int .u64 (l2 0), .int .u64 (l3 0)] : Value) = .agg #[.int .u64 0, .int .u64 0, .int .u64 0, .int .u64 0] := by
  obtain ⟨z0, z1, z2, z3⟩ := zero_limbs
  rw [z0, z1, z2, z3]
set_option maxHeartbeats 4000000 in
theorem rprice_any {t : Txv} {b : Int} (w : World) (hG : TxG w t) (hb : Num b) (hH : t.Hsl.length < 1000000000) (hU : t.Ul.length < 1000000000) :
    Calls Tryd.prog 32 #[.agg (txC t).toArray, .agg #[.int .u64 (l0 b), .int .u64 (l1 b), .int .u64 (l2 b), .int .u64 (l3 b)]] w fun e w' => e = .returned (.tuple #[.agg #[.int .u64 (l0 (prP t b)), .int .u64 (l1 (prP t b)), .int .u64 (l2 (prP t b)), .int .u64 (l3 (prP t b))], .agg #[.int .u64 (l0 (prT t b)), .int .u64 (l1 (prT t b)), .int .u64 (l2 (prT t b)), .int .u64 (l3 (prT t b))], .int .i64 (prE t b)]) ∧ Below w.heap.size w w' := by
  have h20 := hG.to.1
  have DR : Hid (∀ W, Below w.heap.size w W → Calls Tryd.prog 51 #[.agg (txC t).toArray] W fun e w' => e = .returned (.int .i64 (dfN t)) ∧ Below W.heap.size W w') := fun W B => rdraft_any W (hG.keep B) hH hU
  by_cases d0 : dfN t = 0
  · have hty := df_ok d0
    rw [show prP t b = ppV t b from if_pos d0, show prT t b = ptV t b from if_pos d0, show prE t b = peN t b from if_pos d0]
    rw [d0] at DR
    have hca := hG.ca
    have hti := hG.ti
    have hpr := hG.pr
    have hb' := hb
    obtain ⟨b0, b1⟩ := hb
    by_cases ct : 2 ≤ t.ty
    · have c : ¬ (t.ty = 0 ∨ t.ty = 1) := by omega
      have C1 : ∀ W, Below w.heap.size w W → _ := fun W (_ : Below w.heap.size w W) => rcmp_any hti hca W
      have CO : ∀ W, Below w.heap.size w W → _ := fun W (_ : Below w.heap.size w W) => rmost_any h20 hty.1 W
      have S1 : ∀ W, Below w.heap.size w W → _ := fun W (_ : Below w.heap.size w W) => rsub_any hca hb' W
      have e0 : peN t b = if t.ca < t.ti then 181 else if t.ca < b then 180 else 0 := if_neg c
      have e1 : ptN t b = if t.ti < t.ca - b then t.ti else t.ca - b := if_neg c
      rw [show capT t = t.ca from if_neg c] at CO
      obtain ⟨p0, p1⟩ := hti
      obtain ⟨q0, q1⟩ := hca
      by_cases h : t.ca < t.ti
      · rw [if_pos h] at e0
        rw [show ppV t b = 0 from if_neg (by omega), show ptV t b = 0 from if_neg (by omega), e0, z4]
        exact rprice_tip h20 w DR ct C1 (by unfold cmpN; rw [if_neg (by omega), if_neg (by omega)]; decide)
      have k1 : ¬ 0 < cmpN t.ti t.ca := by unfold cmpN; split <;> (try split) <;> omega
      by_cases h2 : t.ca < b
      · rw [if_neg h, if_pos h2] at e0
        rw [show borN t.ca b = 1 from if_pos h2] at S1
        rw [show ppV t b = 0 from if_neg (by omega), show ptV t b = 0 from if_neg (by omega), e0, z4]
        exact rprice_nlow h20 w DR ct C1 k1 CO S1
      · rw [if_neg h, if_neg h2] at e0
        have nd : Num (t.ca - b) := ⟨by omega, by omega⟩
        rw [show borN t.ca b = 0 from if_neg h2, show difN t.ca b = t.ca - b from Int.emod_eq_of_lt (by omega) (by omega)] at S1
        have C2 : ∀ W, Below w.heap.size w W → _ := fun W (_ : Below w.heap.size w W) => rcmp_any ⟨p0, p1⟩ nd W
        by_cases h3 : t.ti < t.ca - b
        · rw [if_pos h3] at e1
          have A1 : ∀ W, Below w.heap.size w W → _ := fun W (_ : Below w.heap.size w W) => radd_any hb' ⟨p0, p1⟩ W
          rw [show sumN b t.ti = b + t.ti from Int.emod_eq_of_lt (by omega) (by omega)] at A1
          rw [show ppV t b = b + t.ti by unfold ppV; rw [if_pos e0, e1], show ptV t b = t.ti by unfold ptV; rw [if_pos e0, e1], e0]
          exact rprice_nown h20 w DR ct C1 k1 CO S1 C2 (by unfold cmpN; rw [if_neg (by omega), if_pos h3]; decide) A1
        · rw [if_neg h3] at e1
          have A1 : ∀ W, Below w.heap.size w W → _ := fun W (_ : Below w.heap.size w W) => radd_any hb' nd W
          rw [show sumN b (t.ca - b) = b + (t.ca - b) from Int.emod_eq_of_lt (by omega) (by omega)] at A1
          rw [show ppV t b = b + (t.ca - b) by unfold ppV; rw [if_pos e0, e1], show ptV t b = t.ca - b by unfold ptV; rw [if_pos e0, e1], e0]
          exact rprice_nall h20 w DR ct C1 k1 CO S1 C2 (by unfold cmpN; split <;> (try split) <;> omega) A1
    · have c : t.ty = 0 ∨ t.ty = 1 := by omega
      have CO : ∀ W, Below w.heap.size w W → _ := fun W (_ : Below w.heap.size w W) => rmost_any h20 hty.1 W
      have S1 : ∀ W, Below w.heap.size w W → _ := fun W (_ : Below w.heap.size w W) => rsub_any hpr hb' W
      have e0 : peN t b = if t.pr < b then 180 else 0 := if_pos c
      have e1 : ptN t b = t.pr - b := if_pos c
      rw [show capT t = t.pr from if_pos c] at CO
      obtain ⟨p0, p1⟩ := hpr
      by_cases h : t.pr < b
      · rw [if_pos h] at e0
        rw [show borN t.pr b = 1 from if_pos h] at S1
        rw [show ppV t b = 0 from if_neg (by omega), show ptV t b = 0 from if_neg (by omega), e0, z4]
        exact rprice_low h20 w DR ct CO S1
      · rw [if_neg h] at e0
        have nd : Num (t.pr - b) := ⟨by omega, by omega⟩
        rw [show borN t.pr b = 0 from if_neg h, show difN t.pr b = t.pr - b from Int.emod_eq_of_lt (by omega) (by omega)] at S1
        have A1 : ∀ W, Below w.heap.size w W → _ := fun W (_ : Below w.heap.size w W) => radd_any hb' nd W
        rw [show sumN b (t.pr - b) = b + (t.pr - b) from Int.emod_eq_of_lt (by omega) (by omega)] at A1
        rw [show ppV t b = b + (t.pr - b) by unfold ppV; rw [if_pos e0, e1], show ptV t b = t.pr - b by unfold ptV; rw [if_pos e0, e1], e0]
        exact rprice_all h20 w DR ct CO S1 A1
  · rw [show prP t b = 0 from if_neg d0, show prT t b = 0 from if_neg d0, show prE t b = dfN t from if_neg d0, z4]
    exact rprice_bad h20 w DR d0
end Go.Proofs.YtlpmphldmfefkaaDoor
