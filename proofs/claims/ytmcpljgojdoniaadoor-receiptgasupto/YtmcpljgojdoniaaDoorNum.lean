/- Plain numbers: limbs of a number below 2^256. -/
namespace Go.Proofs.YtmcpljgojdoniaaDoor

/-- A limb. -/
def Word (x : Int) : Prop := 0 ≤ x ∧ x < 18446744073709551616

/-- A number below 2^256. -/
def Num (n : Int) : Prop := 0 ≤ n ∧ n < 115792089237316195423570985008687907853269984665640564039457584007913129639936
def hiN (n m : Int) : Int := n * m / 115792089237316195423570985008687907853269984665640564039457584007913129639936
def loN (n m : Int) : Int := n * m % 115792089237316195423570985008687907853269984665640564039457584007913129639936
end Go.Proofs.YtmcpljgojdoniaaDoor
