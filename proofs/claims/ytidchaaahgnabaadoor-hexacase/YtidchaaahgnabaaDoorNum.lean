/- Plain numbers: limbs of a number below 2^256. -/
namespace Go.Proofs.YtidchaaahgnabaaDoor

def l1 (n : Int) : Int := n / 18446744073709551616 % 18446744073709551616
end Go.Proofs.YtidchaaahgnabaaDoor
