import Derived.Test.YtcjabligkeaafaaDoorTxO
/- Layer 15: a transaction as an argument. -/
namespace Go.Proofs.YtcjabligkeaafaaDoor.tq
open Go.ChangeShapes Go.WideShapes Go.ChangeAt Go.RowKit Go.Deep
/-- Bytes as a list that can be read. -/
def BtG (W : World) (a : Option Addr) (b o c : Nat) (X : List Int) : Prop := (X.length ≤ c ∧ (a = none → c = 0)) ∧ Az a b o X ∧ Bz W b o X ∧ Bys X
section
variable {H : Type} {enc : TypeId × Value → H} {W : World}
end
end Go.Proofs.YtcjabligkeaafaaDoor.tq
