import Derived.Test.YtlmlhiookoediaaShl
import Derived.Test.YtlmlhiookoediaaShelf
import Derived.Lib.ItoaNum
namespace Go.Proofs.Ytlmlhiookoediaa
open Go.RowKit

end Go.Proofs.Ytlmlhiookoediaa
