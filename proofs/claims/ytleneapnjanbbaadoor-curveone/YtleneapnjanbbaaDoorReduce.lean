import Derived.Test.YtleneapnjanbbaaDoorCBits
import Derived.Test.YtleneapnjanbbaaDoorQTail
import Derived.Test.YtleneapnjanbbaaDoorMul2
import Derived.Test.YtleneapnjanbbaaDoorHold
import Derived.Deep.RegionHeld3
namespace Go.Proofs.YtleneapnjanbbaaDoor
open Go.RowKit Go.Sort

theorem cell_alloc {w : World} {o : Obj} {p : Addr} {v : Value} (h : w.cell? p = some v) : (w.alloc o).cell? p = some v := cell_keep ((Below.refl _ _).alloc (Nat.le_refl _) o) h
theorem cell_set {w : World} {b i b' i' : Nat} {u v : Value} (h : w.cell? ⟨b, i, none⟩ = some v) (ne : b' ≠ b) : (w.setCell ⟨b', i', none⟩ u).cell? ⟨b, i, none⟩ = some v := by
  rw [World.cell?_setCell_far _ _ _ _ ne]; exact h

end Go.Proofs.YtleneapnjanbbaaDoor
