import Derived.Test.YtjoandmehahfgaaGreatDoorKBase
import Derived.Test.YtjoandmehahfgaaGreatDoorFNum
import Derived.ProofKit
import Derived.OpenShut
import Derived.Lib.LaidTab
import Derived.Stop.LaidErr
namespace Go.Proofs.YtjoandmehahfgaaGreatDoor.K
open Go.ChangeShapes Go.WideShapes Go.ChangeAt Go.RowKit
theorem Tryz.cellsW:Tryz.prog.cellsOf 22=1:=by kernel_rfl
theorem jh {α:Type} {p:Nat→α→Prop} (z:α):∀ n,(∀ i,i<n→∃ a,p i a)→∃ L:List α,L.length=n∧∀ i,i<n→p i (L.getD i z)
 | 0,_=>⟨[],rfl,fun _ h=>absurd h (Nat.not_lt_zero _)⟩
 | n+1,h=>by
  obtain ⟨L,hl,hp⟩:=jh z n fun i hi=>h i (by omega)
  obtain ⟨a,ha⟩:=h n (by omega)
  refine ⟨L++[a],by simp [hl],fun i hi=>?_⟩
  by_cases e:i=n
  ·subst e;simpa [List.getD,←hl] using ha
  ·have h1:=hp i (by omega)
   simpa [List.getD,List.getElem?_append_left (show i<L.length by omega)] using h1
theorem kY {α β γ:Type} (f:α→β):∀ L:List α,((L.map fun x=>(f x,([]:List γ))).flatMap (·.2))=[]
 | []=>rfl
 | _ :: L=>by rw [List.map_cons,List.flatMap_cons,kY f L];rfl
noncomputable def dat {H:Type} (L:List (BitVec 64)):DataW H:=.agg (L.map fun x=>.lit (.int .u64 (V x)))
section
variable {H:Type} {enc:TypeId×Value→H} {w:World} {base:Nat} {spare:Nat→Bool} {held:Bool}
end
def zC:List Int:=[0,1,62,28,27,36,44,6,55,20,3,10,43,25,39,41,45,15,21,8,18,2,61,56,14]
def zD:List Int:=[1,32898,9223372036854808714,9223372039002292224,32907,2147483649,9223372039002292353,9223372036854808585,138,136,2147516425,2147483658,2147516555,9223372036854775947,9223372036854808713,9223372036854808579,9223372036854808578,9223372036854775936,32778,9223372039002259466,9223372039002292353,9223372036854808704,2147483649,9223372039002292232]
theorem tK:∀ i,i<25→zC.getD i 0=((turnsN.getD i 0:Nat):Int):=by decide
theorem tL:∀ i,i<24→zD.getD i 0=((marksN.getD i 0).toNat:Int):=by decide
theorem tab_of {W:World} {name:String} {g:Nat} (hg:Tryz.prog.globalNamed name=some g) (h:Lib.TabIs Tryz.prog W name .i64 zC):Tab W g turnsN:=fun i hi=>by
 rw [h.cell hg i hi,tK i hi]
theorem lns_of {W:World} {name:String} {g:Nat} (hg:Tryz.prog.globalNamed name=some g) (h:Lib.TabIs Tryz.prog W name .u64 zD):Lns W g marksN:=fun i hi=>by
 rw [h.cell hg i hi,tL i hi,ji]
theorem cells24:Tryz.prog.cellsOf 162=24:=by kernel_rfl
theorem cellsT:Tryz.prog.cellsOf 179=25:=by kernel_rfl
theorem cellsI:Tryz.prog.cellsOf 3=1:=by kernel_rfl
theorem g_turns : Tryz.prog.globalNamed "waybill/keccak.turns" = some 3 := by kernel_rfl
theorem g_marks : Tryz.prog.globalNamed "waybill/keccak.marks" = some 2 := by kernel_rfl
theorem t_turns:(Tryz.prog.globals[3]?).map (·.type)=some 179:=by kernel_rfl
theorem t_marks:(Tryz.prog.globals[2]?).map (·.type)=some 162:=by kernel_rfl
end Go.Proofs.YtjoandmehahfgaaGreatDoor.K
