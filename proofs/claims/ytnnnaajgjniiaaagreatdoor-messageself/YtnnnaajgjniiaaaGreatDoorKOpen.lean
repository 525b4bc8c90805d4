import Derived.Test.YtnnnaajgjniiaaaGreatDoorKBase
import Derived.Test.YtnnnaajgjniiaaaGreatDoorNum
import Derived.ProofKit
import Derived.OpenShut
import Derived.Lib.LaidTab
import Derived.Stop.LaidErr
namespace Go.Proofs.YtnnnaajgjniiaaaGreatDoor.K
open Go.ChangeShapes Go.WideShapes Go.ChangeAt Go.RowKit
theorem Tryz.cellsW:Tryz.prog.cellsOf 22=1:=by kernel_rfl
noncomputable def dat {H:Type} (L:List (BitVec 64)):DataW H:=.agg (L.map fun x=>.lit (.int .u64 (V x)))
section
variable {H:Type} {enc:TypeId×Value→H} {w:World} {base:Nat} {spare:Nat→Bool} {held:Bool}
end
def wg:List Int:=[0,1,62,28,27,36,44,6,55,20,3,10,43,25,39,41,45,15,21,8,18,2,61,56,14]
def wi:List Int:=[1,32898,9223372036854808714,9223372039002292224,32907,2147483649,9223372039002292353,9223372036854808585,138,136,2147516425,2147483658,2147516555,9223372036854775947,9223372036854808713,9223372036854808579,9223372036854808578,9223372036854775936,32778,9223372039002259466,9223372039002292353,9223372036854808704,2147483649,9223372039002292232]
theorem qz:∀ i,i<25→wg.getD i 0=((turnsN.getD i 0:Nat):Int):=by decide
theorem qA:∀ i,i<24→wi.getD i 0=((marksN.getD i 0).toNat:Int):=by decide
theorem tab_of {W:World} {name:String} {g:Nat} (hg:Tryz.prog.globalNamed name=some g) (h:Lib.TabIs Tryz.prog W name .i64 wg):Tab W g turnsN:=fun i hi=>by
 rw [h.cell hg i hi,qz i hi]
theorem lns_of {W:World} {name:String} {g:Nat} (hg:Tryz.prog.globalNamed name=some g) (h:Lib.TabIs Tryz.prog W name .u64 wi):Lns W g marksN:=fun i hi=>by
 rw [h.cell hg i hi,qA i hi,gZ]
theorem cells24:Tryz.prog.cellsOf 184=24:=by kernel_rfl
theorem cellsT:Tryz.prog.cellsOf 211=25:=by kernel_rfl
theorem cellsI:Tryz.prog.cellsOf 3=1:=by kernel_rfl
theorem g_turns : Tryz.prog.globalNamed "waybill/keccak.turns" = some 6 := by kernel_rfl
theorem g_marks : Tryz.prog.globalNamed "waybill/keccak.marks" = some 2 := by kernel_rfl
theorem t_turns:(Tryz.prog.globals[6]?).map (·.type)=some 211:=by kernel_rfl
theorem t_marks:(Tryz.prog.globals[2]?).map (·.type)=some 184:=by kernel_rfl
end Go.Proofs.YtnnnaajgjniiaaaGreatDoor.K
