import Derived.Test.YtnokgnhcnhfkpaaDoorCards
import Derived.Test.YtnokgnhcnhfkpaaDoorTie
import Derived.Test.YtnokgnhcnhfkpaaDoorUtB
import Derived.Test.YtnokgnhcnhfkpaaDoorOpen
import Derived.WalkKit
import Derived.ProofKit
import Derived.OpenShut
import Derived.ChangeMaps5
import Derived.Deep.DeepHandedRow
import Derived.Lib.LaidTab
import Derived.Stop.LaidErr
/- What the table of powers holds; the world of the witness. -/
namespace Go.Proofs.YtnokgnhcnhfkpaaDoor
open Go.ChangeShapes Go.WideShapes Go.ChangeAt Go.RowKit

/-- A block's cells put anew. -/
def lay (cs : Array Value) : Obj → Obj
  | .cells _ t frozen => .cells cs t frozen
  | o => o
noncomputable def laidWorld (os : Os) : World :=
  { World.holding Tryd.prog os ⟨#[], #[], []⟩ with heap := (World.holding Tryd.prog os ⟨#[], #[], []⟩).heap.modify 0 (lay #[.int .u64 1, .int .u64 10, .int .u64 100, .int .u64 1000, .int .u64 10000, .int .u64 100000, .int .u64 1000000, .int .u64 10000000, .int .u64 100000000, .int .u64 1000000000, .int .u64 10000000000, .int .u64 100000000000, .int .u64 1000000000000, .int .u64 10000000000000, .int .u64 100000000000000, .int .u64 1000000000000000, .int .u64 10000000000000000, .int .u64 100000000000000000, .int .u64 1000000000000000000, .int .u64 10000000000000000000]) }
def pZ : List Int := [1, 10, 100, 1000, 10000, 100000, 1000000, 10000000, 100000000, 1000000000, 10000000000, 100000000000, 1000000000000, 10000000000000, 100000000000000, 1000000000000000, 10000000000000000, 100000000000000000, 1000000000000000000, 10000000000000000000]
theorem p_same : ∀ i, i < 20 → pZ.getD i 0 = 10 ^ i := by decide
theorem cells_u64 : Tryd.prog.cellsOf 22 = 1 := by kernel_rfl
theorem cells_20 : Tryd.prog.cellsOf 41 = 20 := by kernel_rfl
theorem g_powers : Tryd.prog.globalNamed "waybill/u256.powers" = some 0 := by kernel_rfl
theorem t_powers : (Tryd.prog.globals[0]?).map (·.type) = some 41 := by kernel_rfl
theorem pws_of {W : World} (h : laidMet Tryd.prog [("waybill/u256.powers", Rows.laid_waybill_u256_powers)] W) : Pws W := by
  have h0 : laidMet Tryd.prog [("waybill/u256.powers", Lib.tabData .u64 pZ)] W := h
  have T : Lib.TabIs Tryd.prog W "waybill/u256.powers" .u64 pZ := Lib.tabIs_of_head g_powers t_powers Tryd.underlying41 Tryd.underlying22 cells_u64 cells_20 h0
  intro i hi
  rw [T.cell g_powers i (by show i < 20; omega), p_same i (by omega)]
end Go.Proofs.YtnokgnhcnhfkpaaDoor
