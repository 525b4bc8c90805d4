import Derived.Test.YtnnnaajgjniiaaaGreatDoorGet
import Derived.Test.YtnnnaajgjniiaaaGreatDoorFExp
import Derived.Test.YtnnnaajgjniiaaaGreatDoorHold
import Derived.Test.YtnnnaajgjniiaaaGreatDoorLen
import Derived.Test.YtnnnaajgjniiaaaGreatDoorAdd
import Derived.Test.YtnnnaajgjniiaaaGreatDoorMul2
import Derived.Test.YtnnnaajgjniiaaaGreatDoorRowB
import Derived.Deep.LoopGhost
import Derived.Test.YtnnnaajgjniiaaaGreatDoorRoomy
import Derived.Maps.AppendAt
import Derived.Lib.AppendZeros
import Derived.StillTail
import Derived.Lib.QuietBelow
import Derived.Laws.OwnMore
namespace Go.Proofs.YtnnnaajgjniiaaaGreatDoor
open Go.RowKit Go.Sort
def Bz (W:World) (b o:Nat) (X:List Int):Prop:=∀ i,i<X.length→W.cell? ⟨b,o+i,none⟩=some (.int .u8 (X.getD i 0))
def Az (a:Option Addr) (b o:Nat) (X:List Int):Prop:=X=[]∨a=some ⟨b,o,none⟩
def Bys (X:List Int):Prop:=∀ x∈X,0≤x∧x<256
theorem Bys.at {X:List Int} (h:Bys X) (i:Nat):0≤X.getD i 0∧X.getD i 0<256:=by
 by_cases hi:i<X.length
 ·rw [List.getD,List.getElem?_eq_getElem hi]
  exact h _ (List.getElem_mem hi)
 ·rw [List.getD,List.getElem?_eq_none (by omega)]
  exact ⟨by decide,by decide⟩
theorem Bz.keep {W W':World} {b o:Nat} {X:List Int} (h:Bz W b o X) (hb:Below W.heap.size W W'):Bz W' b o X:=fun i hi=>cell_keep hb (h i hi)
theorem Bz.front {W:World} {b o:Nat} {X Z:List Int} (h:Bz W b o (X++Z)):Bz W b o X:=fun i hi=>by
 have:=h i (by rw [List.length_append];omega)
 rw [this,List.getD,List.getElem?_append_left hi,←List.getD]
end Go.Proofs.YtnnnaajgjniiaaaGreatDoor
