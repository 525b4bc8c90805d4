import Derived.Test.YtlmlhiookoediaaUpAny
namespace Go.Proofs.Ytlmlhiookoediaa
open Go.RowKit

end Go.Proofs.Ytlmlhiookoediaa
