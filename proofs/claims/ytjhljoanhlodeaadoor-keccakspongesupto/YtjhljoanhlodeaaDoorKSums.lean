import Derived.Test.YtjhljoanhlodeaaDoorKDigest
namespace Go.Proofs.YtjhljoanhlodeaaDoor
open Go.RowKit Go.Sort

/-- The digest of a text. -/
noncomputable def digV (k : Int) (X : List (BitVec 8)) : Value := .agg (byts (hashL (finL k (absb (List.replicate 25 0) 0 X) X.length))).toArray

end Go.Proofs.YtjhljoanhlodeaaDoor
