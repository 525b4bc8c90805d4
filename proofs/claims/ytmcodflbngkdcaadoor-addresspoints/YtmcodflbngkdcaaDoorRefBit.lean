import Derived.Test.YtmcodflbngkdcaaDoorLen
import Derived.Test.YtmcodflbngkdcaaDoorHold
import Derived.Test.YtmcodflbngkdcaaDoorMulNum
namespace Go.Proofs.YtmcodflbngkdcaaDoor
open Go.RowKit

end Go.Proofs.YtmcodflbngkdcaaDoor

namespace Go.Proofs.YtmcodflbngkdcaaDoor
open Go.RowKit

end Go.Proofs.YtmcodflbngkdcaaDoor

namespace Go.Proofs.YtmcodflbngkdcaaDoor
open Go.RowKit Go.Sort

end Go.Proofs.YtmcodflbngkdcaaDoor
