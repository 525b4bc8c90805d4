import Derived.Test.YtjoandmehahfgaaGreatDoorOpen
import Derived.Test.YtjoandmehahfgaaGreatDoorCLaid
import Derived.Test.YtjoandmehahfgaaGreatDoorNzN
import Derived.Test.YtjoandmehahfgaaGreatDoorFLaid
import Derived.Test.YtjoandmehahfgaaGreatDoorSLaid
namespace Go.Proofs.YtjoandmehahfgaaGreatDoor
open Go.ChangeShapes Go.WideShapes Go.ChangeAt Go.RowKit
theorem tG {x:String×DataW Unit} {r:List (String×DataW Unit)} {W:World} (h:laidMet Tryz.prog (x :: r) W):laidMet Tryz.prog [x] W:=by
 obtain ⟨n,dd⟩:=x
 obtain ⟨ps,h1,h2,h3⟩:=h
 obtain ⟨g,t,cs,fuel,p,q,e1,e2,e3,e4,hr,rfl⟩:=h1
 refine ⟨MemPlace.row ⟨g,0,none⟩ cs.size++p++[],⟨g,t,cs,fuel,p,[],e1,e2,e3,e4,rfl,rfl⟩,?_,fun b off hm=>h3 b off ?_⟩
 ·rw [List.append_nil]
  exact (List.nodup_append.1 h2).1
 ·rw [List.append_nil] at hm
  exact List.mem_append_left _ hm
theorem tH {r : List (String × DataW Unit)} {W : World} (h : laidMet Tryz.prog (("waybill/curve.columns", Rows.laid_waybill_curve_columns) :: r) W) : ar W := by
 obtain ⟨ps,h1,h2,h3⟩:=h
 exact AB h1
end Go.Proofs.YtjoandmehahfgaaGreatDoor
