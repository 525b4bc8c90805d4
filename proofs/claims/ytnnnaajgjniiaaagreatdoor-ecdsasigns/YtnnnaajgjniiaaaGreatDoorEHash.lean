import Derived.Test.YtnnnaajgjniiaaaGreatDoorOpen
import Derived.Test.YtnnnaajgjniiaaaGreatDoorFLaid
import Derived.Test.YtnnnaajgjniiaaaGreatDoorENum
set_option maxRecDepth 100000
namespace Go.Proofs.YtnnnaajgjniiaaaGreatDoor
open Go.ChangeShapes Go.WideShapes Go.ChangeAt Go.RowKit
theorem Tryz.cells32:Tryz.prog.cellsOf 26=32:=by kernel_rfl
theorem Tryz.cellsB:Tryz.prog.cellsOf 5=1:=by kernel_rfl
theorem og {α:Type} {p:Nat→α→Prop} (z:α):∀ n,(∀ i,i<n→∃ a,p i a)→∃ L:List α,L.length=n∧∀ i,i<n→p i (L.getD i z)
 | 0,_=>⟨[],rfl,fun _ h=>absurd h (Nat.not_lt_zero _)⟩
 | n+1,h=>by
  obtain ⟨L,hl,hp⟩:=og z n fun i hi=>h i (by omega)
  obtain ⟨a,ha⟩:=h n (by omega)
  refine ⟨L++[a],by simp [hl],fun i hi=>?_⟩
  by_cases e:i=n
  ·subst e;simpa [List.getD,←hl] using ha
  ·have h1:=hp i (by omega)
   simpa [List.getD,List.getElem?_append_left (show i<L.length by omega)] using h1
theorem mI {α β:Type} {f:α→Option β} {g:α→β}:∀ (l:List α),(∀ i∈l,f i=some (g i))→l.mapM f=some (l.map g)
 | [],_=>rfl
 | a :: l,h=>by
  rw [List.mapM_cons,h a (by simp),mI l fun i hi=>h i (by simp [hi])]
  rfl
theorem i7 {α β γ:Type} (f:α→β):∀ L:List α,((L.map fun x=>(f x,([]:List γ))).flatMap (·.2))=[]
 | []=>rfl
 | _ :: L=>by rw [List.map_cons,List.flatMap_cons,i7 f L];rfl
noncomputable def zi {H:Type} (L:List Int):DataW H:=.agg (L.map fun x=>.lit (.int .u8 x))
section
variable {H:Type} {enc:TypeId×Value→H} {w:World} {base:Nat} {spare:Nat→Bool} {held:Bool}
theorem uJ {r:Reach} {b0:Nat} {v:Value} {d:DataW H} {p:List MemPlace} (hv:Value.okWide Tryz.prog w r b0 26 v) (h:DataW.Trod enc Tryz.prog w base spare held 26 v d p) :
  ∃ L:List Int,L.length=32∧dR L∧v=aO L∧d=zi L∧p=[]:=by
 obtain ⟨cs,rfl,hsz⟩:∃ cs:Array Value,v = .agg cs∧cs.size=32:=by
  simp only [Value.okWide,Tryz.underlying26] at hv
  obtain ⟨cs,h1,h2,_⟩:=hv
  exact ⟨cs,h1,h2.trans Tryz.cells32⟩
 obtain ⟨fuel,hf⟩:=h
 obtain ⟨xs,m,rfl,hx,hl,hn,hi⟩:=DataW.trod_array Tryz.underlying26 hf
 simp only [Value.cells,Tryz.cellsB,Nat.mul_one] at hi hl
 obtain ⟨L,hL,hp⟩:=og (p:=fun i (n:Int)=>(0≤n∧n<256)∧cs.toList[i]?=some (.int .u8 n)∧xs[i]?=some (.lit (.int .u8 n),[])) 0 32 (fun i h=>by
  have h1:=hi i h
  rw [List.getElem?_eq_getElem (by omega)] at h1
  obtain ⟨n,e1,e2,e3⟩:=DataW.trod_int Tryz.underlying5 h1
  have b:0≤n∧n<256:=by
   simp [Lit.wf,IntKind.min,IntKind.max,IntKind.signed,IntKind.bits] at e3
   exact ⟨by omega,by omega⟩
  refine ⟨n,b,?_,?_⟩
  ·have:=congrArg (·[0]?) e1
   simpa [List.getElem?_take,List.getElem?_drop] using this
  ·rw [List.getElem?_eq_getElem (by omega),e2])
 have e1:cs=(L.map fun z=>Value.int .u8 z).toArray:=by
  apply Array.toList_inj.1
  apply List.ext_getElem?
  intro i
  by_cases h:i<32
  ·rw [(hp i h).2.1];simp [List.getD,show i<L.length by omega]
  ·rw [List.getElem?_eq_none (by simp;omega),List.getElem?_eq_none (by simp;omega)]
 have e2:xs=L.map fun x=>(.lit (.int .u8 x),[]):=by
  apply List.ext_getElem?
  intro i
  by_cases h:i<32
  ·rw [(hp i h).2.2];simp [List.getD,show i<L.length by omega]
  ·rw [List.getElem?_eq_none (by omega),List.getElem?_eq_none (by simp;omega)]
 rw [e2] at hx
 refine ⟨L,hL,fun i=>?_,by rw [e1];rfl,?_,?_⟩
 ·by_cases h:i<32
  ·exact (hp i h).1
  ·rw [List.getD,List.getElem?_eq_none (by omega)];exact ⟨by decide,by decide⟩
 ·have:=congrArg Prod.fst hx
  simpa [zi,Function.comp_def] using this
 ·have:=congrArg Prod.snd hx
  rw [i7] at this
  exact this
theorem uK {L:List Int} (hl:L.length=32) (hb:dR L):DataW.Trod enc Tryz.prog w base spare held 26 (aO L) (zi L) []:=by
 refine ⟨2,?_⟩
 have wf:∀ i,(Lit.int .u8 (L.getD i 0)).wf=true:=by
  intro i
  obtain ⟨h1,h2⟩:=hb i
  generalize L.getD i 0=z at *
  simp [Lit.wf,IntKind.min,IntKind.max,IntKind.signed,IntKind.bits]
  omega
 have h:(List.range 32).mapM (fun i=>DataW.trod enc Tryz.prog w base spare held 1 5 (((L.map fun z=>Value.int .u8 z).drop (i*1)).take 1))=some ((List.range 32).map fun i=>(.lit (.int .u8 (L.getD i 0)),[])):=by
  apply mI
  intro i hi
  have hi':i<32:=List.mem_range.1 hi
  have e:((L.map fun z=>Value.int .u8 z).drop (i*1)).take 1=[.int .u8 (L.getD i 0)]:=by
   rw [Nat.mul_one]
   apply List.ext_getElem?
   intro j
   cases j with
   | zero=>simp [List.getElem?_drop,List.getD,show i<L.length by omega]
   | succ j=>simp [List.getElem?_take]
  rw [e]
  have wfz:=wf i
  generalize L.getD i 0=z at *
  simp [DataW.trod,Tryz.underlying5,wfz]
 have e:(List.range 32).map (fun i=>(DataW.lit (.int .u8 (L.getD i 0)):DataW H))=L.map fun x=>.lit (.int .u8 x):=by
  apply List.ext_getElem?
  intro i
  by_cases h:i<32
  ·simp [h,List.getD,show i<L.length by omega]
  ·rw [List.getElem?_eq_none (by simp;omega),List.getElem?_eq_none (by simp;omega)]
 unfold DataW.trod aO
 simp only [Value.cells,Tryz.underlying26,Tryz.cells32,Tryz.cellsB]
 rw [if_pos (by simp [hl]),show (1:Nat)=1 from rfl]
 rw [h]
 rw [Option.map_some,i7,List.map_map,zi,←e]
 rfl
end
end Go.Proofs.YtnnnaajgjniiaaaGreatDoor
