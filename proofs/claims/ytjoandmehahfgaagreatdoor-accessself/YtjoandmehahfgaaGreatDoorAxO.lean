import Derived.Test.YtjoandmehahfgaaGreatDoorAxA
import Derived.Test.YtjoandmehahfgaaGreatDoorOpen
import Derived.Test.YtjoandmehahfgaaGreatDoorRxO
set_option maxRecDepth 10000
namespace Go.Proofs.YtjoandmehahfgaaGreatDoor
open Go.ChangeShapes Go.WideShapes Go.ChangeAt Go.RowKit
theorem wO:Tryz.prog.cellsOf 28=34:=by kernel_rfl
theorem tI:Tryz.prog.cellsOf 22=1:=by kernel_rfl
theorem tJ:Tryz.prog.cellsOf 24=4:=by kernel_rfl
theorem Bt {α:Type} (l:List α) (h:l.length=34):l=List.take 4 (List.drop 0 l)++(List.take 20 (List.drop 4 l)++(List.take 1 (List.drop 24 l)++(List.take 1 (List.drop 25 l)++(List.take 4 (List.drop 26 l)++List.take 4 (List.drop 30 l))))):=by
 have h5:List.take 4 (List.drop 30 l)=List.drop 30 l:=List.take_of_length_le (by simp;omega)
 have h4:List.take 4 (List.drop 26 l)++List.drop 30 l=List.drop 26 l:=by rw [show List.drop 30 l=List.drop 4 (List.drop 26 l) by rw [List.drop_drop]];exact List.take_append_drop _ _
 have h3:List.take 1 (List.drop 25 l)++List.drop 26 l=List.drop 25 l:=by rw [show List.drop 26 l=List.drop 1 (List.drop 25 l) by rw [List.drop_drop]];exact List.take_append_drop _ _
 have h2:List.take 1 (List.drop 24 l)++List.drop 25 l=List.drop 24 l:=by rw [show List.drop 25 l=List.drop 1 (List.drop 24 l) by rw [List.drop_drop]];exact List.take_append_drop _ _
 have h1:List.take 20 (List.drop 4 l)++List.drop 24 l=List.drop 4 l:=by rw [show List.drop 24 l=List.drop 20 (List.drop 4 l) by rw [List.drop_drop]];exact List.take_append_drop _ _
 rw [h5,h4,h3,h2,h1,List.drop_zero,List.take_append_drop]
section
variable {H:Type} {enc:TypeId×Value→H} {w:World} {base:Nat} {spare:Nat→Bool} {held:Bool}
theorem lS {fuel:Nat} {cs:List Value} {x:DataW H×List MemPlace} (h:DataW.trod enc Tryz.prog w base spare held fuel 24 cs=some x) :
  ∃ n,Num n∧cs=[.int .u64 (l0 n),.int .u64 (l1 n),.int .u64 (l2 n),.int .u64 (l3 n)]:=by
 obtain ⟨xs,m,rfl,hx,hl,hn,hi⟩:=DataW.trod_array Tryz.underlying24 h
 rw [Tryz.cellsN] at hl
 simp only [Tryz.cellsW] at hi
 have i0:=hi 0 (by decide);have i1:=hi 1 (by decide);have i2:=hi 2 (by decide);have i3:=hi 3 (by decide)
 match cs,hl with
 | [c0,c1,c2,c3],_ =>
  match xs,hn with
  | [y0,y1,y2,y3],_ =>
   simp at i0 i1 i2 i3
   obtain ⟨a0,e0,rfl,w0⟩:=DataW.trod_int Tryz.underlying22 i0
   obtain ⟨a1,e1,rfl,w1⟩:=DataW.trod_int Tryz.underlying22 i1
   obtain ⟨a2,e2,rfl,w2⟩:=DataW.trod_int Tryz.underlying22 i2
   obtain ⟨a3,e3,rfl,w3⟩:=DataW.trod_int Tryz.underlying22 i3
   simp at e0 e1 e2 e3
   subst e0 e1 e2 e3
   have k0:=cz w0;have k1:=cz w1;have k2:=cz w2;have k3:=cz w3
   obtain ⟨r0,r1,r2,r3⟩:=bZ k0 k1 k2 k3 rfl
   refine ⟨num a0 a1 a2 a3,jM k0 k1 k2 k3,?_⟩
   rw [r0,r1,r2,r3]
theorem Bu {r:Reach} {b0:Nat} {v:Value} {d:DataW H} {p:List MemPlace} (hv:Value.okWide Tryz.prog w r b0 28 v) (h:DataW.Trod enc Tryz.prog w base spare held 28 v d p) :
  ∃ (c:Int) (A:List Int) (n pa R S:Int),Num c∧A.length=20∧hx.Wfb A∧aj n∧v = .agg (auM c A n pa R S).toArray:=by
 obtain ⟨cs,rfl,hsz⟩:∃ cs:Array Value,v = .agg cs∧cs.size=34:=by
  simp only [Value.okWide,Tryz.underlying28] at hv
  obtain ⟨cs,h1,h2,_⟩:=hv
  exact ⟨cs,h1,h2.trans wO⟩
 obtain ⟨fuel,hf⟩:=h
 obtain ⟨xs,m,rfl,hxx,hl,hn,hi⟩:=DataW.trod_struct Tryz.underlying28 hf
 match xs,hn with
 | [y0,y1,y2,y3,y4,y5],_ =>
  have a0:DataW.trod enc Tryz.prog w base spare held m 24 (List.take (Tryz.prog.cellsOf 24) (List.drop 0 (Value.agg cs).cells.toList))=some y0:=hi 0 _ rfl
  have a1:DataW.trod enc Tryz.prog w base spare held m 26 (List.take (Tryz.prog.cellsOf 26) (List.drop 4 (Value.agg cs).cells.toList))=some y1:=hi 1 _ rfl
  have a2:DataW.trod enc Tryz.prog w base spare held m 22 (List.take (Tryz.prog.cellsOf 22) (List.drop 24 (Value.agg cs).cells.toList))=some y2:=hi 2 _ rfl
  have a3:DataW.trod enc Tryz.prog w base spare held m 22 (List.take (Tryz.prog.cellsOf 22) (List.drop 25 (Value.agg cs).cells.toList))=some y3:=hi 3 _ rfl
  have a4:DataW.trod enc Tryz.prog w base spare held m 24 (List.take (Tryz.prog.cellsOf 24) (List.drop 26 (Value.agg cs).cells.toList))=some y4:=hi 4 _ rfl
  have a5:DataW.trod enc Tryz.prog w base spare held m 24 (List.take (Tryz.prog.cellsOf 24) (List.drop 30 (Value.agg cs).cells.toList))=some y5:=hi 5 _ rfl
  obtain ⟨c,nc,ec⟩:=lS a0
  obtain ⟨A,lA,wA,eA,_⟩:=hx.cells_ad a1
  obtain ⟨n,en,_,wn⟩:=DataW.trod_int Tryz.underlying22 a2
  obtain ⟨pa,ep,_,_⟩:=DataW.trod_int Tryz.underlying22 a3
  obtain ⟨R,_,eR⟩:=lS a4
  obtain ⟨S,_,eS⟩:=lS a5
  rw [tJ] at ec eR eS
  rw [tI] at en ep
  rw [hx.cells_adN] at eA
  simp only [Value.cells] at ec eA en ep eR eS
  refine ⟨c,A,n,pa,R,S,nc,lA,wA,cz wn,?_⟩
  congr 1
  apply Array.ext'
  rw [Bt cs.toList (by simpa using hsz),ec,eA,en,ep,eR,eS]
  rfl
end
end Go.Proofs.YtjoandmehahfgaaGreatDoor
