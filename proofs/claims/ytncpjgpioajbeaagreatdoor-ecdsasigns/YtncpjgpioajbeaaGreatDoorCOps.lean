import Derived.Test.YtncpjgpioajbeaaGreatDoorCSum
namespace Go.Proofs.YtncpjgpioajbeaaGreatDoor
open Go.RowKit Go.Sort

def gX : Int := 55066263022277343669578718895168534326250603453777594175500187360389116729240
def gY : Int := 32670510020758816978083085130507043184471273380659243275938904335757337482424
theorem g_limbs : l0 gX = 6481385041966929816 ∧ l1 gX = 188021827762530521 ∧ l2 gX = 6170039885052185351 ∧ l3 gX = 8772561819708210092 ∧ l0 gY = 11261198710074299576 ∧ l1 gY = 18237243440184513561 ∧ l2 gY = 6747795201694173352 ∧ l3 gY = 5204712524664259685 := by decide
theorem g_valid : Vd gX gY false := ⟨⟨by decide, by decide⟩, ⟨by decide, by decide⟩, by show EC.fp gY * EC.fp gY = EC.fp gX * EC.fp gX * EC.fp gX + 7; decide +kernel⟩
end Go.Proofs.YtncpjgpioajbeaaGreatDoor
