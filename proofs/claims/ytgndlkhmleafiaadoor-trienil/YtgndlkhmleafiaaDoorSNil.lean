import Derived.Test.YtgndlkhmleafiaaDoorSEqH
/- A nil hasher. -/
namespace Go.Proofs.YtgndlkhmleafiaaDoor
open Go.RowKit Go.Sort

theorem none_laid {w : World} {cs ds : List Value} (e : cs = ds) (hl : ds.length = 32) : ((w.alloc (.cells #[.int .u8 0, .int .u8 0, .int .u8 0, .int .u8 0, .int .u8 0, .int .u8 0, .int .u8 0, .int .u8 0, .int .u8 0, .int .u8 0, .int .u8 0, .int .u8 0, .int .u8 0, .int .u8 0, .int .u8 0, .int .u8 0, .int .u8 0, .int .u8 0, .int .u8 0, .int .u8 0, .int .u8 0, .int .u8 0, .int .u8 0, .int .u8 0, .int .u8 0, .int .u8 0, .int .u8 0, .int .u8 0, .int .u8 0, .int .u8 0, .int .u8 0, .int .u8 0] 34)).setCells w.heap.size 0 cs).rangeAt w.heap.size 0 ds := by
  subst e
  exact World.rangeAt_setCells_same _ _ _ _ (by rw [hl]; exact (Hsh.zeros _ rfl).there)
theorem zeros32 : (byts (List.replicate 32 0)).toArray = #[.int .u8 0, .int .u8 0, .int .u8 0, .int .u8 0, .int .u8 0, .int .u8 0, .int .u8 0, .int .u8 0, .int .u8 0, .int .u8 0, .int .u8 0, .int .u8 0, .int .u8 0, .int .u8 0, .int .u8 0, .int .u8 0, .int .u8 0, .int .u8 0, .int .u8 0, .int .u8 0, .int .u8 0, .int .u8 0, .int .u8 0, .int .u8 0, .int .u8 0, .int .u8 0, .int .u8 0, .int .u8 0, .int .u8 0, .int .u8 0, .int .u8 0, .int .u8 0] := by
  have h : Y 0#8 = 0 := Y_zero
  simp [byts, List.replicate, h]
end Go.Proofs.YtgndlkhmleafiaaDoor
