import Derived.Test.YtnokgnhcnhfkpaaDoorMulNum
import Derived.Test.YtnokgnhcnhfkpaaDoorLen
/- Powers, bit by bit of the exponent. -/
namespace Go.Proofs.YtnokgnhcnhfkpaaDoor

end Go.Proofs.YtnokgnhcnhfkpaaDoor
