import Derived.Test.YtlmlhiookoediaaMulNum
/- Long division, limb by limb: the numbers of lists of limbs. -/
namespace Go.Proofs.Ytlmlhiookoediaa

def val : List Int → Int
  | [] => 0
  | x :: xs => x + 18446744073709551616 * val xs
def Words (l : List Int) : Prop := ∀ x ∈ l, Word x

end Go.Proofs.Ytlmlhiookoediaa
