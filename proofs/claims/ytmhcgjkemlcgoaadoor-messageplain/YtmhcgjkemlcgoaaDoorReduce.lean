import Derived.Test.YtmhcgjkemlcgoaaDoorLen
import Derived.Test.YtmhcgjkemlcgoaaDoorNum
import Derived.Deep.RegionHeld
import Derived.Test.YtmhcgjkemlcgoaaDoorRows
import Derived.WalkKit
import Derived.WalkSpells
import Derived.WalkLawsBesides
import Derived.Laws.Externs
import Derived.Shelf.Spec.BitsCarry
import Derived.Lib.Mul64
import Derived.Laws.Bits64b
import Derived.LoopN
import Derived.BigRegion
import Derived.Test.YtmhcgjkemlcgoaaDoorShelf
import Derived.Lib.ItoaNum
import Derived.Test.YtmhcgjkemlcgoaaDoorShiftNum
import Derived.Deep.RegionWith
import Derived.StillTail
import Derived.BigQuiet
import Derived.Lib.QuietBelow
import Derived.Test.YtmhcgjkemlcgoaaDoorCmp
import Derived.Test.YtmhcgjkemlcgoaaDoorTail
import Derived.Test.YtmhcgjkemlcgoaaDoorHold
import Derived.Deep.RegionHeld3
namespace Go.Proofs.YtmhcgjkemlcgoaaDoor
open Go.RowKit Go.Sort

theorem eq_zero {m : Int} (hm : Num m) (w : World) : (Op.equalIn 10000 37 (.agg #[.int .u64 (l0 m), .int .u64 (l1 m), .int .u64 (l2 m), .int .u64 (l3 m)]) (.agg #[.int .u64 0, .int .u64 0, .int .u64 0, .int .u64 0])).run Tryd.prog w = .ok (decide (m = 0)) w := by
  have h := eq_num hm (show Num 0 from ⟨by decide, by decide⟩) w
  obtain ⟨z0, z1, z2, z3⟩ := zero_limbs
  rw [z0, z1, z2, z3] at h
  exact h

theorem cell_set {w : World} {b i b' i' : Nat} {u v : Value} (h : w.cell? ⟨b, i, none⟩ = some v) (ne : b' ≠ b) : (w.setCell ⟨b', i', none⟩ u).cell? ⟨b, i, none⟩ = some v := by
  rw [World.cell?_setCell_far _ _ _ _ ne]; exact h

end Go.Proofs.YtmhcgjkemlcgoaaDoor
