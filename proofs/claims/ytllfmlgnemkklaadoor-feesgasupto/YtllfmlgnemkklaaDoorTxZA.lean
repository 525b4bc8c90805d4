import Derived.Test.YtllfmlgnemkklaaDoorTxZ
import Derived.Test.YtllfmlgnemkklaaDoorTxQ
import Derived.Test.YtllfmlgnemkklaaDoorNum
import Derived.Test.YtllfmlgnemkklaaDoorHold
import Derived.Test.YtllfmlgnemkklaaDoorCmp
import Derived.Test.YtllfmlgnemkklaaDoorTail
import Derived.Test.YtllfmlgnemkklaaDoorShl
import Derived.StillTail
import Derived.BigQuiet
import Derived.Lib.QuietBelow
import Derived.Test.YtllfmlgnemkklaaDoorRows
import Derived.WalkKit
import Derived.WalkSpells
import Derived.WalkLawsBesides
import Derived.Laws.Externs
import Derived.Shelf.Spec.BitsCarry
import Derived.Lib.Mul64
import Derived.Laws.Bits64b
import Derived.LoopN
import Derived.BigRegion
import Derived.Deep.RegionWith
/- Layer 15: Draft of the program, whole. -/
namespace Go.Proofs.YtllfmlgnemkklaaDoor
open Go.RowKit Go.Sort
open tq
theorem tq.KsG.keepZ {W W' : World} {a : Option Addr} {b o c : Nat} {L : List (List Int)} (h : KsG W a b o c L) (B : Below W.heap.size W W') : KsG W' a b o c L :=
  ⟨h.1, h.2.1, fun i hi => ⟨(h.2.2 i hi).1, fun j v hv => cell_keep B ((h.2.2 i hi).2 j v hv)⟩⟩
theorem tq.UsG.keepZ {W W' : World} {a : Option Addr} {b o c : Nat} {L : List Aun} (h : UsG W a b o c L) (B : Below W.heap.size W W') : UsG W' a b o c L :=
  ⟨h.1, h.2.1, fun i hi => ⟨(h.2.2 i hi).1, fun j v hv => cell_keep B ((h.2.2 i hi).2 j v hv)⟩⟩
end Go.Proofs.YtllfmlgnemkklaaDoor

/- Layer 18: Price of the program, whole. -/
namespace Go.Proofs.YtllfmlgnemkklaaDoor
open Go.RowKit Go.Sort
open tq
theorem draft_at {t : Txv} {w W : World} (hG : TxG w t) (hH : t.Hsl.length < 1000000000) (hU : t.Ul.length < 1000000000) (hR : Rws w) (B : Below w.heap.size w W) :
    Calls Tryd.prog 6 #[.agg (txC t).toArray] W fun e w' => e = .returned (.int .i64 (dfN t)) ∧ Below W.heap.size W w' := by
  by_cases h : t.ty < 0 ∨ 5 ≤ t.ty
  · rw [dfN, if_pos h]
    exact draft_type hG.to.1 h W
  · obtain ⟨k, ek⟩ : ∃ k : Nat, t.ty = (k : Int) := ⟨t.ty.toNat, by omega⟩
    have hk : k < 5 := by omega
    refine draft_rest (W0 := w) (K := (k : Int)) hG ek (by omega) (by omega) (fun W hr => hasStrays_any hG ek hk W hr) W (hR.keep B) (fun W' B' => areBlobs_any W' (hG.Hs.keepZ (B.trans (B'.mono B.size))) hH) (fun W' B' => contains_au W' (hG.U.keepZ (B.trans (B'.mono B.size))) hU) ?_
    have e1 : t.ty.toNat = k := by rw [ek]; rfl
    have e2 : ((decide (t.Hsl.length ≤ 4096) && !t.Hsl.any badB) = false) ↔ ¬ (t.Hsl.length ≤ 4096 ∧ t.Hsl.any badB = false) := by
      cases t.Hsl.any badB <;> by_cases c : t.Hsl.length ≤ 4096 <;> simp [c]
    rw [dfN, if_neg h, e1, dfR, ← ek]
    exact ite_congr (propext (or_congr_right (or_congr_right e2.symm))) (fun _ => rfl) (fun _ => rfl)
end Go.Proofs.YtllfmlgnemkklaaDoor
