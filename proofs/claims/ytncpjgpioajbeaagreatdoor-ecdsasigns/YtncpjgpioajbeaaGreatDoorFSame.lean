import Derived.Test.YtncpjgpioajbeaaGreatDoorFList
namespace Go.Proofs.YtncpjgpioajbeaaGreatDoor
open Go.RowKit Go.Sort

/-- Where a list lies, if it has anything. -/
def At4 (a : Option Addr) (g o : Nat) (L : List Int) : Prop := L = [] ∨ a = some ⟨g, o, none⟩
end Go.Proofs.YtncpjgpioajbeaaGreatDoor
