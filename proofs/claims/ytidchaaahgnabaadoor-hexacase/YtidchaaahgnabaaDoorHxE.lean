import Derived.Test.YtidchaaahgnabaaDoorHxD
namespace Go.Proofs.YtidchaaahgnabaaDoor
open Go.RowKit Go.Sort

/-- The digits' values, from a cell on. -/
def Dl (W : World) (g : Nat) (t : ByteArray) : Prop := ∀ i, i < t.size → W.cell? ⟨g, i, none⟩ = some (.int .i64 (dv (bt t i)))
theorem Dl.keep {W W' : World} {g : Nat} {t : ByteArray} (h : Dl W g t) (hb : Below W.heap.size W W') : Dl W' g t := fun i hi => cellK hb (h i hi)
end Go.Proofs.YtidchaaahgnabaaDoor
