import Derived.Test.YtanokeeffbiijaaDoorNum
/- The school's product of two numbers of four limbs. -/
namespace Go.Proofs.YtanokeeffbiijaaDoor

/-- A number below 2^512, by its halves. -/
theorem halves {n m h l : Int} (hl : Num l) (e : l + 115792089237316195423570985008687907853269984665640564039457584007913129639936 * h = n * m) : hiN n m = h ∧ loN n m = l := by
  obtain ⟨_, _⟩ := hl
  unfold hiN loN
  generalize n * m = p at *
  omega

end Go.Proofs.YtanokeeffbiijaaDoor
