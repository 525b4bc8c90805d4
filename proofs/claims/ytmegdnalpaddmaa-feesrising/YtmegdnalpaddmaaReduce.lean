import Derived.Test.YtmegdnalpaddmaaDivAny
import Derived.Test.YtmegdnalpaddmaaQTail
import Derived.Test.YtmegdnalpaddmaaMul2
import Derived.Test.YtmegdnalpaddmaaHold
import Derived.Test.YtmegdnalpaddmaaRow2
import Derived.Deep.RegionHeld3
namespace Go.Proofs.Ytmegdnalpaddmaa
open Go.RowKit Go.Sort

theorem eq_zero {m : Int} (hm : Num m) (w : World) : (Op.equalIn 10000 24 (.agg #[.int .u64 (l0 m), .int .u64 (l1 m), .int .u64 (l2 m), .int .u64 (l3 m)]) (.agg #[.int .u64 0, .int .u64 0, .int .u64 0, .int .u64 0])).run Try.prog w = .ok (decide (m = 0)) w := by
  have h := eq_num hm (show Num 0 from ⟨by decide, by decide⟩) w
  obtain ⟨z0, z1, z2, z3⟩ := zero_limbs
  rw [z0, z1, z2, z3] at h
  exact h

theorem cell_alloc {w : World} {o : Obj} {p : Addr} {v : Value} (h : w.cell? p = some v) : (w.alloc o).cell? p = some v := cell_keep ((Below.refl _ _).alloc (Nat.le_refl _) o) h
theorem cell_set {w : World} {b i b' i' : Nat} {u v : Value} (h : w.cell? ⟨b, i, none⟩ = some v) (ne : b' ≠ b) : (w.setCell ⟨b', i', none⟩ u).cell? ⟨b, i, none⟩ = some v := by
  rw [World.cell?_setCell_far _ _ _ _ ne]; exact h

end Go.Proofs.Ytmegdnalpaddmaa
