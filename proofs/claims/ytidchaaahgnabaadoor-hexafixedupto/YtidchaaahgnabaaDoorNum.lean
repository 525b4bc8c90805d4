import Derived.Test.YtidchaaahgnabaaDoorKSpec
/- Plain numbers: limbs of a number below 2^256. -/
namespace Go.Proofs.YtidchaaahgnabaaDoor

/-! ### The four limbs of a number, the number of four limbs -/
def l0 (n : Int) : Int := n % 18446744073709551616
def l1 (n : Int) : Int := n / 18446744073709551616 % 18446744073709551616
def l2 (n : Int) : Int := n / 340282366920938463463374607431768211456 % 18446744073709551616
end Go.Proofs.YtidchaaahgnabaaDoor

/- The permutation is one to one. -/
namespace Go.Proofs.YtidchaaahgnabaaDoor

end Go.Proofs.YtidchaaahgnabaaDoor
