import Derived.Test.YtjoandmehahfgaaGreatDoorRjA
import Derived.Test.YtjoandmehahfgaaGreatDoorRows
import Derived.ProofKit
import Derived.OpenShut
import Derived.Carry
import Derived.ChangeSlices
import Derived.ChangeMaps5
import Derived.Deep.Slices
import Derived.SizedLaws
set_option maxRecDepth 100000
namespace Go.Proofs.YtjoandmehahfgaaGreatDoor.tt
open Go.ChangeShapes Go.WideShapes Go.ChangeAt Go.RowKit Go.Deep
theorem laidOut:laidOutB Tryz.prog=true:=by kernel_rfl
theorem ownT:ownKnob Tryz.prog.godebug=none:=by kernel_rfl
theorem zB:Tryz.prog.cellsOf 5=1:=by kernel_rfl
theorem cellsI:Tryz.prog.cellsOf 69=3:=by kernel_rfl
theorem jh {α:Type} {p:Nat→α→Prop} (z:α):∀ n,(∀ i,i<n→∃ a,p i a)→∃ L:List α,L.length=n∧∀ i,i<n→p i (L.getD i z)
 | 0,_=>⟨[],rfl,fun _ h=>absurd h (Nat.not_lt_zero _)⟩
 | n+1,h=>by
  obtain ⟨L,hl,hp⟩:=jh z n fun i hi=>h i (by omega)
  obtain ⟨a,ha⟩:=h n (by omega)
  refine ⟨L++[a],by simp [hl],fun i hi=>?_⟩
  by_cases e:i=n
  ·subst e;simpa [List.getD,←hl] using ha
  ·have h1:=hp i (by omega)
   simpa [List.getD,List.getElem?_append_left (show i<L.length by omega)] using h1
section
variable {H:Type} {enc:TypeId×Value→H}
end
end Go.Proofs.YtjoandmehahfgaaGreatDoor.tt
namespace Go.Proofs.YtjoandmehahfgaaGreatDoor.hx
open Go.ChangeShapes Go.WideShapes Go.ChangeAt Go.RowKit Go.Deep
def cB (A:List Int):List Value:=A.map (Value.int .u8)
theorem De (A:List Int):(cB A).length=A.length:=List.length_map _
theorem laidOut:laidOutB Tryz.prog=true:=by kernel_rfl
theorem zB:Tryz.prog.cellsOf 5=1:=by kernel_rfl
theorem jh {α:Type} {p:Nat→α→Prop} (z:α):∀ n,(∀ i,i<n→∃ a,p i a)→∃ L:List α,L.length=n∧∀ i,i<n→p i (L.getD i z)
 | 0,_=>⟨[],rfl,fun _ h=>absurd h (Nat.not_lt_zero _)⟩
 | n+1,h=>by
  obtain ⟨L,hl,hp⟩:=jh z n fun i hi=>h i (by omega)
  obtain ⟨a,ha⟩:=h n (by omega)
  refine ⟨L++[a],by simp [hl],fun i hi=>?_⟩
  by_cases e:i=n
  ·subst e;simpa [List.getD,←hl] using ha
  ·have h1:=hp i (by omega)
   simpa [List.getD,List.getElem?_append_left (show i<L.length by omega)] using h1
theorem kY {α β γ:Type} (f:α→β):∀ L:List α,((L.map fun x=>(f x,([]:List γ))).flatMap (·.2))=[]
 | []=>rfl
 | _ :: L=>by rw [List.map_cons,List.flatMap_cons,kY f L];rfl
noncomputable def dat {H:Type} (X:List Int):DataW H:=.agg (X.map fun x=>.lit (.int .u8 x))
def Wfb (X:List Int):Prop:=∀ x∈X,(Lit.int .u8 x).wf=true
section
variable {H:Type} {enc:TypeId×Value→H} {w:World} {base:Nat} {spare:Nat→Bool} {held:Bool}
theorem cells_adN:Tryz.prog.cellsOf 26=20:=by kernel_rfl
theorem cells_ad {fuel:Nat} {cs:List Value} {x:DataW H×List MemPlace} (hf:DataW.trod enc Tryz.prog w base spare held fuel 26 cs=some x) :
  ∃ X:List Int,X.length=20∧Wfb X∧cs=cB X∧x=(dat X,[]):=by
 obtain ⟨xs,m,rfl,hx,hl,hn,hi⟩:=DataW.trod_array Tryz.underlying26 hf
 simp only [zB,Nat.mul_one] at hi hl
 rw [cells_adN] at hl
 obtain ⟨X,hX,hp⟩:=jh (p:=fun i (b:Int)=>cs[i]?=some (.int .u8 b)∧(Lit.int .u8 b).wf=true∧xs[i]?=some (.lit (.int .u8 b),[])) 0 20 (fun i h=>by
  have h1:=hi i h
  rw [List.getElem?_eq_getElem (by omega)] at h1
  obtain ⟨b,e1,e2,e3⟩:=DataW.trod_int Tryz.underlying5 h1
  refine ⟨b,?_,e3,?_⟩
  ·have:=congrArg (·[0]?) e1
   simpa [List.getElem?_take,List.getElem?_drop] using this
  ·rw [List.getElem?_eq_getElem (by omega),e2])
 have e1:cs=cB X:=by
  apply List.ext_getElem?
  intro i
  by_cases h:i<20
  ·rw [(hp i h).1];simp [cB,List.getD,show i<X.length by omega]
  ·rw [List.getElem?_eq_none (by omega),List.getElem?_eq_none (by rw [De];omega)]
 have e2:xs=X.map fun x=>(.lit (.int .u8 x),[]):=by
  apply List.ext_getElem?
  intro i
  by_cases h:i<20
  ·rw [(hp i h).2.2];simp [List.getD,show i<X.length by omega]
  ·rw [List.getElem?_eq_none (by omega),List.getElem?_eq_none (by simp;omega)]
 refine ⟨X,hX,fun z hz=>?_,e1,?_⟩
 ·obtain ⟨i,hi',rfl⟩:=List.getElem_of_mem hz
  have:=(hp i (by omega)).2.1
  rwa [List.getD,List.getElem?_eq_getElem hi'] at this
 ·rw [e2] at hx
  rw [hx,dat,kY]
  simp [Function.comp_def]
end
section
variable {H:Type} {enc:TypeId×Value→H} {W:World}
end
end Go.Proofs.YtjoandmehahfgaaGreatDoor.hx
