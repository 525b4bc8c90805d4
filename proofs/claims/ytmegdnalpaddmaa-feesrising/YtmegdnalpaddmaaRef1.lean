import Derived.Test.YtmegdnalpaddmaaHold
import Derived.Test.YtmegdnalpaddmaaRefNum
import Derived.Test.YtmegdnalpaddmaaAdd
import Derived.Test.YtmegdnalpaddmaaOut
import Derived.Test.YtmegdnalpaddmaaCmp
namespace Go.Proofs.Ytmegdnalpaddmaa
open Go.RowKit

/-- Block b holds these digits and may be written. -/
def Dgs (W : World) (b : Nat) (l : List Int) : Prop := Row W b l ∧ Loose W b l.length
theorem Dgs.keep {W w1 : World} {b : Nat} {l : List Int} (h : Dgs W b l) (hl : 0 < l.length) (hb : Below W.heap.size W w1) : Dgs w1 b l := ⟨h.1.keep hb, h.2.keep hb (h.1.lt hl)⟩
theorem Dgs.alloc {W : World} {b : Nat} {l : List Int} (h : Dgs W b l) (hl : 0 < l.length) (o : Obj) : Dgs (W.alloc o) b l := h.keep hl ((Below.refl _ _).alloc (Nat.le_refl _) o)
theorem Dgs.new (W : World) (l : List Int) (t : TypeId) : Dgs (W.alloc (.cells (l.map (Value.int .u64)).toArray t)) W.heap.size l := ⟨Row.new W l t, Loose.new _ _ _ _⟩
theorem Dgs.set {W : World} {b : Nat} {l : List Int} (h : Dgs W b l) (i : Nat) (hi : i < l.length) (v : Int) : Dgs (W.setCell ⟨b, i, none⟩ (.int .u64 v)) b (l.set i v) := ⟨h.1.set i hi v, by rw [List.length_set]; exact h.2.set _ _⟩
theorem Dgs.drew {W : World} {b : Nat} {l : List Int} (h : Dgs W b l) : Dgs W.drew b l := h
theorem Dgs.other {W : World} {b b' i : Nat} {l : List Int} (h : Dgs W b l) (ne : b' ≠ b) (v : Value) : Dgs (W.setCell ⟨b', i, none⟩ v) b l := ⟨h.1.setOther ne v, h.2.set _ _⟩

end Go.Proofs.Ytmegdnalpaddmaa

namespace Go.Proofs.Ytmegdnalpaddmaa
open Go.RowKit

end Go.Proofs.Ytmegdnalpaddmaa
