import Derived.Test.YtnnnaajgjniiaaaGreatDoorRefMul
import Derived.Deep.LoopGhost
import Derived.OwnWalk
import Derived.Deep.OwnRows
namespace Go.Proofs.YtnnnaajgjniiaaaGreatDoor
open Go.RowKit Go.Sort
theorem wC:(Tryz.prog.info? 24).map (fun i=>(i.zero,i.size,i.bytes))=some (some (.agg #[.int .u64 0,.int .u64 0,.int .u64 0,.int .u64 0]),4,32):=by kernel_rfl
theorem aA {P:Program} {ops:Array Oper} {Q:Exit→Act→World→Prop} {l:List Oper} {a:Act} {w:World} (S:World→Prop) (h:S w) (k:∀ W,S W→wpList P ops Q l a W):wpList P ops Q l a w:=k w h
def Nms (W:World) (b o:Nat) (L:List Int):Prop:=∀ i,i<L.length→W.cell? ⟨b,o+i*4,none⟩=some (.int .u64 (l0 (L.getD i 0)))∧W.cell? ⟨b,o+i*4+1,none⟩=some (.int .u64 (l1 (L.getD i 0)))∧W.cell? ⟨b,o+i*4+2,none⟩=some (.int .u64 (l2 (L.getD i 0)))∧W.cell? ⟨b,o+i*4+3,none⟩=some (.int .u64 (l3 (L.getD i 0)))
theorem Nms.keep {W w1:World} {b o:Nat} {L:List Int} (h:Nms W b o L) (hb:RowKit.Below W.heap.size W w1):Nms w1 b o L:=fun i hi =>
 ⟨cell_keep hb (h i hi).1,cell_keep hb (h i hi).2.1,cell_keep hb (h i hi).2.2.1,cell_keep hb (h i hi).2.2.2⟩
open Go.RowKit Go.Sort
def At4 (a:Option Addr) (g o:Nat) (L:List Int):Prop:=L=[]∨a=some ⟨g,o,none⟩
end Go.Proofs.YtnnnaajgjniiaaaGreatDoor
