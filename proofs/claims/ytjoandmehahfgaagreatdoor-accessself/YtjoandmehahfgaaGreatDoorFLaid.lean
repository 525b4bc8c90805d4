import Derived.Test.YtjoandmehahfgaaGreatDoorCards
import Derived.Test.YtjoandmehahfgaaGreatDoorTie
import Derived.Test.YtjoandmehahfgaaGreatDoorFExp
import Derived.Test.YtjoandmehahfgaaGreatDoorOpen
import Derived.WalkKit
import Derived.ProofKit
import Derived.OpenShut
import Derived.Deep.DeepHandedRow
import Derived.Lib.LaidTab
import Derived.Stop.LaidErr
namespace Go.Proofs.YtjoandmehahfgaaGreatDoor
open Go.ChangeShapes Go.WideShapes Go.ChangeAt Go.RowKit
def lay (cs:Array Value):Obj→Obj
 | .cells _ t frozen=>.cells cs t frozen
 | o=>o
def mZ:List Int:=[18446744069414583343,18446744073709551615,18446744073709551615,18446744073709551615,4294968273,0,0,0,13822214165235122497,13451932020343611451,18446744073709551614,18446744073709551615,4624529908474429119,4994812053365940164,1,0]
theorem vP:Tryz.prog.cellsOf 22=1:=by kernel_rfl
theorem lu:Tryz.prog.cellsOf 24=4:=by kernel_rfl
theorem o5:Tryz.prog.cellsOf 117=8:=by kernel_rfl
theorem vQ:Tryz.prog.cellsOf 132=16:=by kernel_rfl
theorem qZ : Tryz.prog.globalNamed "waybill/field.moduli" = some 1 := by kernel_rfl
theorem yr:(Tryz.prog.globals[1]?).map (·.type)=some 132:=by kernel_rfl
theorem four {H:Type} {enc:TypeId×Value→H} {w:World} {base:Nat} {sp:Nat→Bool} {held:Bool} {fuel:Nat} {cs:List Value} {zs:List Int} {p:List MemPlace}
  (h:DataW.trod enc Tryz.prog w base sp held fuel 24 cs=some (Lib.tabData .u64 zs,p)):cs=zs.map fun z=>Value.int .u64 z :=
 Lib.cells_of_tab Tryz.underlying24 Tryz.underlying22 vP lu h
theorem mg {H:Type} {enc:TypeId×Value→H} {w:World} {base:Nat} {sp:Nat→Bool} {held:Bool} {fuel:Nat} {cs:List Value} {z1 z2:List Int} {p:List MemPlace}
  (h:DataW.trod enc Tryz.prog w base sp held fuel 117 cs=some (.agg [Lib.tabData .u64 z1,Lib.tabData .u64 z2],p)):cs=(z1.map fun z=>Value.int .u64 z)++(z2.map fun z=>Value.int .u64 z):=by
 obtain ⟨xs,m,rfl,hx,hl,hn,hi⟩:=DataW.trod_struct Tryz.underlying117 h
 have hxs:xs.map (·.1)=[Lib.tabData .u64 z1,Lib.tabData .u64 z2]:=by
  have:=congrArg Prod.fst hx
  simpa using this.symm
 match xs,hxs with
 | [(_,p1),(_,p2)],hxs =>
  simp only [List.map_cons,List.map_nil,List.cons.injEq,and_true] at hxs
  obtain ⟨rfl,rfl⟩:=hxs
  have a:List.take (Tryz.prog.cellsOf 24) (List.drop 0 cs)=z1.map fun z=>Value.int .u64 z:=four (hi 0 _ rfl)
  have b:List.take (Tryz.prog.cellsOf 24) (List.drop 4 cs)=z2.map fun z=>Value.int .u64 z:=four (hi 1 _ rfl)
  rw [lu] at a b
  rw [List.drop_zero] at a
  rw [o5] at hl
  rw [←a,←b]
  rw [show List.take 4 (List.drop 4 cs)=List.drop 4 cs from List.take_of_length_le (by simp;omega)]
  exact (List.take_append_drop 4 cs).symm
theorem Cu {W : World} (h : laidMet Tryz.prog [("waybill/field.moduli", Rows.laid_waybill_field_moduli)] W) : Mds W := by
 obtain ⟨ps,⟨g,t,cs,fuel,p,q,h1,h2,h3,h4,_,_⟩,_,_⟩:=h
 obtain rfl:1=g:=Option.some.inj (qZ.symm.trans h1)
 obtain rfl:132=t:=Option.some.inj (yr.symm.trans h2)
 obtain ⟨xs,m,rfl,hx,hl,hn,hi⟩:=DataW.trod_array Tryz.underlying132 h4
 have hxs:xs.map (·.1)=[.agg [Lib.tabData .u64 (mZ.take 4),Lib.tabData .u64 ((mZ.drop 4).take 4)],.agg [Lib.tabData .u64 ((mZ.drop 8).take 4),Lib.tabData .u64 (mZ.drop 12)]]:=by
  have:=congrArg Prod.fst hx
  simp only [Rows.laid_waybill_field_moduli,DataW.agg.injEq] at this
  exact this.symm
 have hcs:cs.toList=mZ.map fun z=>Value.int .u64 z:=by
  match xs,hxs with
  | [(_,p1),(_,p2)],hxs =>
   simp only [List.map_cons,List.map_nil,List.cons.injEq,and_true] at hxs
   obtain ⟨rfl,rfl⟩:=hxs
   have a:=mg (hi 0 (by decide))
   have b:=mg (hi 1 (by decide))
   simp only [o5,Nat.zero_mul,Nat.one_mul,List.drop_zero] at a b
   rw [vQ] at hl
   rw [show List.take 8 (List.drop 8 cs.toList)=List.drop 8 cs.toList from List.take_of_length_le (by simp only [List.length_drop];omega)] at b
   rw [←List.take_append_drop 8 cs.toList,a,b]
   rfl
 have T : Lib.TabIs Tryz.prog W "waybill/field.moduli" .u64 mZ := by
  show W.var? Tryz.prog "waybill/field.moduli" = _
  rw [h3,←hcs]
 intro i hi
 have hi':i<mZ.length:=hi
 rw [T.cell qZ i hi']
 obtain ⟨a0,a1,a2,a3⟩:=zK
 obtain ⟨b0,b1,b2,b3⟩:=wX
 obtain ⟨c0,c1,c2,c3⟩:=zL
 obtain ⟨d0,d1,d2,d3⟩:=wY
 rw [a0,a1,a2,a3,b0,b1,b2,b3,c0,c1,c2,c3,d0,d1,d2,d3]
 rfl
end Go.Proofs.YtjoandmehahfgaaGreatDoor
