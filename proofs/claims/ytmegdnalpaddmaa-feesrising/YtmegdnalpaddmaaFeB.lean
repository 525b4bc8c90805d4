import Derived.Test.YtmegdnalpaddmaaFeA
import Derived.Test.YtmegdnalpaddmaaDivs
namespace Go.Proofs.Ytmegdnalpaddmaa
open Go.RowKit Go.Sort

end Go.Proofs.Ytmegdnalpaddmaa

namespace Go.Proofs.Ytmegdnalpaddmaa
open Go.RowKit Go.Sort

theorem cmp_low {n m : Int} (h : n ≤ m) : cmpN n m ≤ 0 := by
  unfold cmpN; split
  · omega
  · split <;> omega

end Go.Proofs.Ytmegdnalpaddmaa
