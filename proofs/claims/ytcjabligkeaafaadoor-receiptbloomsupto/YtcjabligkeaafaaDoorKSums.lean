import Derived.Test.YtcjabligkeaafaaDoorKDigest
namespace Go.Proofs.YtcjabligkeaafaaDoor.K
open Go.RowKit Go.Sort

/-- The digest of a text. -/
noncomputable def digV (k : Int) (X : List (BitVec 8)) : Value := .agg (byts (hashL (finL k (absb (List.replicate 25 0) 0 X) X.length))).toArray

end Go.Proofs.YtcjabligkeaafaaDoor.K
