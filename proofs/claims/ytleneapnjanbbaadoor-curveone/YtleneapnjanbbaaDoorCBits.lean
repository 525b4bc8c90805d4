import Derived.Test.YtleneapnjanbbaaDoorNum
import Derived.Test.YtleneapnjanbbaaDoorLen
import Derived.Test.YtleneapnjanbbaaDoorHold
import Derived.Test.YtleneapnjanbbaaDoorDigit
import Derived.Test.YtleneapnjanbbaaDoorAdd
import Derived.Deep.RegionWith
/- A number's bits, as the doublings take them. -/
namespace Go.Proofs.YtleneapnjanbbaaDoor
namespace EC
end EC
end Go.Proofs.YtleneapnjanbbaaDoor

namespace Go.Proofs.YtleneapnjanbbaaDoor
open Go.RowKit Go.Sort

end Go.Proofs.YtleneapnjanbbaaDoor

namespace Go.Proofs.YtleneapnjanbbaaDoor
open Go.RowKit

end Go.Proofs.YtleneapnjanbbaaDoor

namespace Go.Proofs.YtleneapnjanbbaaDoor
open Go.RowKit

end Go.Proofs.YtleneapnjanbbaaDoor
