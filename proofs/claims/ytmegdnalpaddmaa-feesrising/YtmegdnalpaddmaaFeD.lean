import Derived.Test.YtmegdnalpaddmaaFeA
namespace Go.Proofs.Ytmegdnalpaddmaa
open Go.RowKit Go.Sort

end Go.Proofs.Ytmegdnalpaddmaa
