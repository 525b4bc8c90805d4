import Derived.Test.YtmcodflbngkdcaaDoorMul2
import Derived.Test.YtmcodflbngkdcaaDoorShelf
import Derived.Lib.ItoaNum
import Derived.Test.YtmcodflbngkdcaaDoorFNum
namespace Go.Proofs.YtmcodflbngkdcaaDoor
open Go.RowKit

end Go.Proofs.YtmcodflbngkdcaaDoor

/- The bits of a number that is moved. -/
namespace Go.Proofs.YtmcodflbngkdcaaDoor

end Go.Proofs.YtmcodflbngkdcaaDoor

/- Powers, bit by bit of the exponent. -/
namespace Go.Proofs.YtmcodflbngkdcaaDoor

end Go.Proofs.YtmcodflbngkdcaaDoor
