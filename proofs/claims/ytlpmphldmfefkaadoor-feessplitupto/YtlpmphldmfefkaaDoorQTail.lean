import Derived.StillTail
import Derived.BigQuiet
import Derived.Lib.QuietBelow
/- A region that draws its order: up to operation n it is quiet in a class of worlds (callees may make memory); from n on the order is forced. -/
namespace Go.Proofs.YtlpmphldmfefkaaDoor
open Go.RowKit Go.Sort

section
variable {P : Program} {ops : Array Oper} {md : Region.Mode} {C : World → Prop}

/-- While an operation of the head is open none of the tail is ready. -/
theorem head_only {n i : Nat} {listed : Array Bool} (hs : Region.sinkB md ops n = true) (hc : Region.chainB md ops n = true) (hn : n < ops.size) (inv : HeadInv md ops n listed) (hi : i < n) (hr : i ∈ Region.ready md ops listed) :
    ∀ j ∈ Region.ready md ops listed, j < n := by
  intro j hj
  rcases Nat.lt_or_ge j n with h | h
  · exact h
  · exact absurd hj (tail_waits hs hc hn inv _ i rfl hi (mem_ready.1 hr).1 j h)

end
end Go.Proofs.YtlpmphldmfefkaaDoor
