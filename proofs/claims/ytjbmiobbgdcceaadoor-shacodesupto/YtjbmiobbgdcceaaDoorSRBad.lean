import Derived.Test.YtjbmiobbgdcceaaDoorSRComp
/- A block of another length; '==' of states. -/
namespace Go.Proofs.YtjbmiobbgdcceaaDoor
open Go.RowKit Go.Sort

end Go.Proofs.YtjbmiobbgdcceaaDoor
