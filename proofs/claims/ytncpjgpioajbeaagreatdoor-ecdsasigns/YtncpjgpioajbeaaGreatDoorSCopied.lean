import Derived.Test.YtncpjgpioajbeaaGreatDoorSBase
namespace Go.Proofs.YtncpjgpioajbeaaGreatDoor.S
open Go.RowKit Go.Sort

theorem own_nil {B : Nat} {W : World} : Own B W (.slice none 0 0) [] := ⟨by simp [byts], .inl ⟨rfl, by simp⟩⟩

end Go.Proofs.YtncpjgpioajbeaaGreatDoor.S
