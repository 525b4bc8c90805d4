import Derived.Test.YtallcfijdjdciaaDoorSEqH
/- A nil hasher. -/
namespace Go.Proofs.YtallcfijdjdciaaDoor
open Go.RowKit Go.Sort

theorem zeros32 : (byts (List.replicate 32 0)).toArray = #[.int .u8 0, .int .u8 0, .int .u8 0, .int .u8 0, .int .u8 0, .int .u8 0, .int .u8 0, .int .u8 0, .int .u8 0, .int .u8 0, .int .u8 0, .int .u8 0, .int .u8 0, .int .u8 0, .int .u8 0, .int .u8 0, .int .u8 0, .int .u8 0, .int .u8 0, .int .u8 0, .int .u8 0, .int .u8 0, .int .u8 0, .int .u8 0, .int .u8 0, .int .u8 0, .int .u8 0, .int .u8 0, .int .u8 0, .int .u8 0, .int .u8 0, .int .u8 0] := by
  have h : Y 0#8 = 0 := Y_zero
  simp [byts, List.replicate, h]
end Go.Proofs.YtallcfijdjdciaaDoor
