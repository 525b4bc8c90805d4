import Derived.Test.YtllfmlgnemkklaaDoorTxZA
import Derived.StillTail
import Derived.BigQuiet
import Derived.Lib.QuietBelow
import Derived.Test.YtllfmlgnemkklaaDoorNum
import Derived.Test.YtllfmlgnemkklaaDoorTsT
import Derived.Test.YtllfmlgnemkklaaDoorTsF
import Derived.Test.YtllfmlgnemkklaaDoorRows
import Derived.WalkKit
import Derived.WalkSpells
import Derived.WalkLawsBesides
import Derived.Laws.Externs
import Derived.Shelf.Spec.BitsCarry
import Derived.Lib.Mul64
import Derived.Laws.Bits64b
import Derived.BigRegion
import Derived.Deep.RegionWith
import Derived.Test.YtllfmlgnemkklaaDoorHold
import Derived.LoopN
import Derived.Test.YtllfmlgnemkklaaDoorCmp
import Derived.Test.YtllfmlgnemkklaaDoorTail
import Derived.Test.YtllfmlgnemkklaaDoorShl
import Derived.Test.YtllfmlgnemkklaaDoorShelf
import Derived.Lib.ItoaNum
import Derived.Deep.LoopGhost
import Derived.Deep.RegionHeld3
/- Layer 18: BlobGas of both sides; the document's sum, product, most. -/
namespace Go.Proofs.YtllfmlgnemkklaaDoor
open Go.RowKit Go.Sort
open tq
/-- The gas of the blobs. -/
def bgT (t : Txv) : Int := if t.ty = 3 then 131072 * (t.Hsl.length : Int) else 0
set_option maxRecDepth 100000 in
set_option maxHeartbeats 4000000 in
theorem blobGas_any {t : Txv} (h20 : t.to.length = 20) (hH : t.Hsl.length < 1000000000) (w : World) :
    Calls Tryd.prog 15 #[.agg (txC t).toArray] w fun e w' => e = .returned (.int .u64 (bgT t)) ∧ Below w.heap.size w w' := by
  have g := (txb_one (w := w) h20 32).ty
  have gh := (txb_one (w := w) h20 32).Hs
  have eb : bgT t = if t.ty = 3 then 131072 * (t.Hsl.length : Int) else 0 := rfl
  have n1 : (t.Hsl.length : Int) < 1000000000 := by omega
  have n0 : (0 : Int) ≤ (t.Hsl.length : Int) := by omega
  generalize bgT t = r at *
  generalize t.Hsl.length = n at *
  generalize txC t = M at *
  generalize t.ty = x at *
  clear hH h20
  by_cases c : x = 3
  · subst c
    rw [if_pos rfl] at eb
    have c1 : ((3 : Int) != 3) = false := rfl
    have e1 : IntKind.u64.wrap (n : Int) = n := by rw [IntKind.wrap_u64]; omega
    have e2 : IntKind.u64.wrap (131072 * (n : Int)) = 131072 * (n : Int) := by rw [IntKind.wrap_u64]; omega
    subst eb
    go_enter Tryd.func15, Tryd.ntmps15
    go_wp2
    simp [bodyPost, results, Tryd.results15, go_sem]
    repeat (first | with_reducible exact Below.refl _ _ | with_reducible refine Below.drew ?_ | with_reducible refine Below.alloc ?_ (by first | omega | (simp; done) | (simp; omega)) _)
  · rw [if_neg c] at eb
    have c1 : (x != 3) = true := bne_iff_ne.2 c
    subst eb
    go_enter Tryd.func15, Tryd.ntmps15
    go_wp2
    simp [bodyPost, results, Tryd.results15, go_sem]
    repeat (first | with_reducible exact Below.refl _ _ | with_reducible refine Below.drew ?_ | with_reducible refine Below.alloc ?_ (by first | omega | (simp; done) | (simp; omega)) _)
set_option maxRecDepth 100000 in
set_option maxHeartbeats 4000000 in
theorem rblobGas_any {t : Txv} (h20 : t.to.length = 20) (hH : t.Hsl.length < 1000000000) (w : World) :
    Calls Tryd.prog 17 #[.agg (txC t).toArray] w fun e w' => e = .returned (.int .u64 (bgT t)) ∧ Below w.heap.size w w' := by
  have g := (txb_one (w := w) h20 32).ty
  have gh := (txb_one (w := w) h20 32).Hs
  have eb : bgT t = if t.ty = 3 then 131072 * (t.Hsl.length : Int) else 0 := rfl
  have n1 : (t.Hsl.length : Int) < 1000000000 := by omega
  have n0 : (0 : Int) ≤ (t.Hsl.length : Int) := by omega
  generalize bgT t = r at *
  generalize t.Hsl.length = n at *
  generalize txC t = M at *
  generalize t.ty = x at *
  clear hH h20
  by_cases c : x = 3
  · subst c
    rw [if_pos rfl] at eb
    have c1 : ((3 : Int) != 3) = false := rfl
    have e1 : IntKind.u64.wrap (n : Int) = n := by rw [IntKind.wrap_u64]; omega
    have e2 : IntKind.u64.wrap (131072 * (n : Int)) = 131072 * (n : Int) := by rw [IntKind.wrap_u64]; omega
    subst eb
    go_enter Tryd.func17, Tryd.ntmps17
    go_wp2
    simp [bodyPost, results, Tryd.results17, go_sem]
    repeat (first | with_reducible exact Below.refl _ _ | with_reducible refine Below.drew ?_ | with_reducible refine Below.alloc ?_ (by first | omega | (simp; done) | (simp; omega)) _)
  · rw [if_neg c] at eb
    have c1 : (x != 3) = true := bne_iff_ne.2 c
    subst eb
    go_enter Tryd.func17, Tryd.ntmps17
    go_wp2
    simp [bodyPost, results, Tryd.results17, go_sem]
    repeat (first | with_reducible exact Below.refl _ _ | with_reducible refine Below.drew ?_ | with_reducible refine Below.alloc ?_ (by first | omega | (simp; done) | (simp; omega)) _)
end Go.Proofs.YtllfmlgnemkklaaDoor
