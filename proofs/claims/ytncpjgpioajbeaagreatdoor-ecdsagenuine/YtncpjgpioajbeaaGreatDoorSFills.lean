import Derived.Test.YtncpjgpioajbeaaGreatDoorSPad
/- The law ShaFills. -/
namespace Go.Proofs.YtncpjgpioajbeaaGreatDoor.S
open Go.RowKit Go.Sort

/-- The number of bits, as far as it is read behind i bytes of the filling. -/
def read (n len i : Nat) : Nat := 8 * n % 18446744073709551616 / 2 ^ (8 * (len - i))
end Go.Proofs.YtncpjgpioajbeaaGreatDoor.S
