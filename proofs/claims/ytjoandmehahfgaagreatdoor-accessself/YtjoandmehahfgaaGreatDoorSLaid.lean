import Derived.Test.YtjoandmehahfgaaGreatDoorCards
import Derived.Test.YtjoandmehahfgaaGreatDoorTie
import Derived.Test.YtjoandmehahfgaaGreatDoorSBase
import Derived.WalkKit
import Derived.ProofKit
import Derived.OpenShut
import Derived.Deep.DeepHandedRow
import Derived.Lib.LaidTab
import Derived.Stop.LaidErr
set_option maxRecDepth 100000
namespace Go.Proofs.YtjoandmehahfgaaGreatDoor.S
open Go.ChangeShapes Go.WideShapes Go.ChangeAt Go.RowKit
def lay (cs:Array Value):Obj→Obj
 | .cells _ t frozen=>.cells cs t frozen
 | o=>o
def hZ:List Int:=[1779033703,3144134277,1013904242,2773480762,1359893119,2600822924,528734635,1541459225]
def kZ:List Int:=[1116352408,1899447441,3049323471,3921009573,961987163,1508970993,2453635748,2870763221,3624381080,310598401,607225278,1426881987,1925078388,2162078206,2614888103,3248222580,3835390401,4022224774,264347078,604807628,770255983,1249150122,1555081692,1996064986,2554220882,2821834349,2952996808,3210313671,3336571891,3584528711,113926993,338241895,666307205,773529912,1294757372,1396182291,1695183700,1986661051,2177026350,2456956037,2730485921,2820302411,3259730800,3345764771,3516065817,3600352804,4094571909,275423344,430227734,506948616,659060556,883997877,958139571,1322822218,1537002063,1747873779,1955562222,2024104815,2227730452,2361852424,2428436474,2756734187,3204031479,3329325298]
theorem Dc:∀ i,i<8→hZ.getD i 0=((hN.getD i 0).toNat:Int):=by decide
theorem Dd:∀ i,i<64→kZ.getD i 0=((kN.getD i 0).toNat:Int):=by decide
theorem first_of {W:World} {name:String} {g:Nat} (hg:Tryz.prog.globalNamed name=some g) (h:Lib.TabIs Tryz.prog W name .u32 hZ):Wds W g 0 hN:=fun i hi=>by
 rw [Nat.zero_add,h.cell hg i hi,Dc i hi,eG]
theorem steps_of {W:World} {name:String} {g:Nat} (hg:Tryz.prog.globalNamed name=some g) (h:Lib.TabIs Tryz.prog W name .u32 kZ):Wds W g 0 kN:=fun i hi=>by
 rw [Nat.zero_add,h.cell hg i hi,Dd i hi,eG]
theorem cells8:Tryz.prog.cellsOf 147=8:=by kernel_rfl
theorem cells64:Tryz.prog.cellsOf 180=64:=by kernel_rfl
theorem cellsU:Tryz.prog.cellsOf 146=1:=by kernel_rfl
theorem g_first : Tryz.prog.globalNamed "waybill/sha.first" = some 4 := by kernel_rfl
theorem g_steps : Tryz.prog.globalNamed "waybill/sha.steps" = some 5 := by kernel_rfl
theorem t_first:(Tryz.prog.globals[4]?).map (·.type)=some 147:=by kernel_rfl
theorem t_steps:(Tryz.prog.globals[5]?).map (·.type)=some 180:=by kernel_rfl
end Go.Proofs.YtjoandmehahfgaaGreatDoor.S
