import Derived.Test.YtpgpciaafjodgaaGreatDoorKSpec
import Derived.Test.YtpgpciaafjodgaaGreatDoorKRPerm
import Derived.Test.YtpgpciaafjodgaaGreatDoorKBase
namespace Go.Proofs.YtpgpciaafjodgaaGreatDoor
open Go.RowKit Go.Sort

theorem wpList_world {P : Program} {ops : Array Oper} {Q : Exit → Act → World → Prop} {rest : List Oper} {a : Act} {w : World} (S : World → Prop) (h : S w) (k : ∀ W, S W → wpList P ops Q rest a W) : wpList P ops Q rest a w := k w h
theorem fresh_arr {W : World} {b : Nat} (e : b = W.heap.size) : Arr (W.alloc (.cells #[.int .u64 0, .int .u64 0, .int .u64 0, .int .u64 0, .int .u64 0, .int .u64 0, .int .u64 0, .int .u64 0, .int .u64 0, .int .u64 0, .int .u64 0, .int .u64 0, .int .u64 0, .int .u64 0, .int .u64 0, .int .u64 0, .int .u64 0, .int .u64 0, .int .u64 0, .int .u64 0, .int .u64 0, .int .u64 0, .int .u64 0, .int .u64 0, .int .u64 0] 148)) b (List.replicate 25 0) := Arr.zeros _ e

end Go.Proofs.YtpgpciaafjodgaaGreatDoor
