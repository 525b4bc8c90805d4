import Derived.Test.YtongiohdomacoaaBmX
import Derived.Laws.OwnMore
/- Bits. -/
namespace Go.Proofs.Ytongiohdomacoaa
open Go.RowKit Go.Sort

/-- A list of ints of one's own. -/
def OwI (B : Nat) (W : World) (v : Value) (L : List Int) : Prop := W.ownsRow B 3 1 v L.length (vals L)
theorem OwI.row {B : Nat} {W : World} {v : Value} {L : List Int} (h : OwI B W v L) : W.ownsRow B 3 1 v L.length (vals L) := h
theorem OwI.keep {B : Nat} {W W' : World} {v : Value} {L : List Int} (h : OwI B W v L) (hb : Below W.heap.size W W') : OwI B W' v L :=
  own_same h fun k hk => hb.block k (h.row.lt k hk).2
end Go.Proofs.Ytongiohdomacoaa
