import Derived.Test.YtllfmlgnemkklaaDoorTxPr
/- Layer 18: Price of the program, whole. -/
namespace Go.Proofs.YtllfmlgnemkklaaDoor
open Go.RowKit Go.Sort
open tq
theorem draft_at {t : Txv} {w W : World} (hG : TxG w t) (hH : t.Hsl.length < 1000000000) (hU : t.Ul.length < 1000000000) (hR : Rws w) (B : Below w.heap.size w W) :
    Calls Tryd.prog 6 #[.agg (txC t).toArray] W fun e w' => e = .returned (.int .i64 (dfN t)) ∧ Below W.heap.size W w' := by
  by_cases h : t.ty < 0 ∨ 5 ≤ t.ty
  · rw [dfN, if_pos h]
    exact draft_type hG.to.1 h W
  · obtain ⟨k, ek⟩ : ∃ k : Nat, t.ty = (k : Int) := ⟨t.ty.toNat, by omega⟩
    have hk : k < 5 := by omega
    refine draft_rest (W0 := w) (K := (k : Int)) hG ek (by omega) (by omega) (fun W hr => hasStrays_any hG ek hk W hr) W (hR.keep B) (fun W' B' => areBlobs_any W' (hG.Hs.keepZ (B.trans (B'.mono B.size))) hH) (fun W' B' => contains_au W' (hG.U.keepZ (B.trans (B'.mono B.size))) hU) ?_
    have e1 : t.ty.toNat = k := by rw [ek]; rfl
    have e2 : ((decide (t.Hsl.length ≤ 4096) && !t.Hsl.any badB) = false) ↔ ¬ (t.Hsl.length ≤ 4096 ∧ t.Hsl.any badB = false) := by
      cases t.Hsl.any badB <;> by_cases c : t.Hsl.length ≤ 4096 <;> simp [c]
    rw [dfN, if_neg h, e1, dfR, ← ek]
    exact ite_congr (propext (or_congr_right (or_congr_right e2.symm))) (fun _ => rfl) (fun _ => rfl)
/-- What Price answers: the price, the tip, the error. -/
def prE (t : Txv) (b : Int) : Int := if dfN t = 0 then peN t b else dfN t
def prP (t : Txv) (b : Int) : Int := if dfN t = 0 then ppV t b else 0
def prT (t : Txv) (b : Int) : Int := if dfN t = 0 then ptV t b else 0
theorem price_any {t : Txv} {b : Int} (w : World) (hG : TxG w t) (hb : Num b) (hH : t.Hsl.length < 1000000000) (hU : t.Ul.length < 1000000000) (hR : Rws w) :
    Calls Tryd.prog 20 #[.agg (txC t).toArray, .agg #[.int .u64 (l0 b), .int .u64 (l1 b), .int .u64 (l2 b), .int .u64 (l3 b)]] w fun e w' => e = .returned (.tuple #[.agg #[.int .u64 (l0 (prP t b)), .int .u64 (l1 (prP t b)), .int .u64 (l2 (prP t b)), .int .u64 (l3 (prP t b))], .agg #[.int .u64 (l0 (prT t b)), .int .u64 (l1 (prT t b)), .int .u64 (l2 (prT t b)), .int .u64 (l3 (prT t b))], .int .i64 (prE t b)]) ∧ Below w.heap.size w w' := by
  have DR : Hid (∀ W, Below w.heap.size w W → Calls Tryd.prog 6 #[.agg (txC t).toArray] W fun e w' => e = .returned (.int .i64 (dfN t)) ∧ Below W.heap.size W w') := fun W B => draft_at hG hH hU hR B
  by_cases d0 : dfN t = 0
  · rw [show prP t b = ppV t b from if_pos d0, show prT t b = ptV t b from if_pos d0, show prE t b = peN t b from if_pos d0]
    by_cases c : t.ty = 0 ∨ t.ty = 1
    · exact price_fixed hG.to.1 w d0 c (fun W => fixed_any hG.to.1 hG.pr hb c W) DR
    · exact price_capped hG.to.1 w d0 c (fun W => capped_any hG.to.1 hG.ti hG.ca hb c W) DR
  · have zl := zero_limbs
    obtain ⟨z0, z1, z2, z3⟩ := zl
    rw [show prP t b = 0 from if_neg d0, show prT t b = 0 from if_neg d0, show prE t b = dfN t from if_neg d0, z0, z1, z2, z3]
    exact price_bad hG.to.1 w d0 DR
end Go.Proofs.YtllfmlgnemkklaaDoor
