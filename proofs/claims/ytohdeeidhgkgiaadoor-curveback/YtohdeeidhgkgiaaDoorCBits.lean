import Derived.Test.YtohdeeidhgkgiaaDoorNum
import Derived.Test.YtohdeeidhgkgiaaDoorLen
import Derived.Test.YtohdeeidhgkgiaaDoorOut
/- A number's bits, as the doublings take them. -/
namespace Go.Proofs.YtohdeeidhgkgiaaDoor
namespace EC
end EC
end Go.Proofs.YtohdeeidhgkgiaaDoor

namespace Go.Proofs.YtohdeeidhgkgiaaDoor
open Go.RowKit Go.Sort

end Go.Proofs.YtohdeeidhgkgiaaDoor
