import Derived.Test.YtjoandmehahfgaaGreatDoorNum
import Derived.Test.YtjoandmehahfgaaGreatDoorRows
import Derived.ProofKit
import Derived.OpenShut
import Derived.Lib.SmallJoins
set_option maxRecDepth 4000
namespace Go.Proofs.YtjoandmehahfgaaGreatDoor
open Go.ChangeShapes Go.WideShapes Go.ChangeAt Go.RowKit
theorem Tryz.cellsN:Tryz.prog.cellsOf 24=4:=by kernel_rfl
theorem Tryz.cellsW:Tryz.prog.cellsOf 22=1:=by kernel_rfl
theorem cz {x:Int} (h:(Lit.int .u64 x).wf=true):aj x:=by
 simp [Lit.wf,IntKind.min,IntKind.max,IntKind.signed,IntKind.bits] at h
 exact ⟨by omega,by omega⟩
theorem g8 {x:Int} (h:aj x):(Lit.int .u64 x).wf=true:=by
 obtain ⟨_,_⟩:=h
 simp [Lit.wf,IntKind.min,IntKind.max,IntKind.signed,IntKind.bits]
 omega
def dat {H:Type} (n:Int):DataW H:=.agg [.lit (.int .u64 (l0 n)),.lit (.int .u64 (l1 n)),.lit (.int .u64 (l2 n)),.lit (.int .u64 (l3 n))]
section
variable {H:Type} {enc:TypeId×Value→H} {w:World} {base:Nat} {spare:Nat→Bool} {held:Bool}
theorem yp {r:Reach} {b0:Nat} {v:Value} {d:DataW H} {p:List MemPlace} (hv:Value.okWide Tryz.prog w r b0 24 v) (h:DataW.Trod enc Tryz.prog w base spare held 24 v d p) :
  ∃ n,Num n∧v = .agg #[.int .u64 (l0 n),.int .u64 (l1 n),.int .u64 (l2 n),.int .u64 (l3 n)]∧d=dat n∧p=[]:=by
 obtain ⟨cs,rfl,hsz⟩:∃ cs:Array Value,v = .agg cs∧cs.size=4:=by
  simp only [Value.okWide,Tryz.underlying24] at hv
  obtain ⟨cs,h1,h2,_⟩:=hv
  exact ⟨cs,h1,h2.trans Tryz.cellsN⟩
 obtain ⟨c0,c1,c2,c3,rfl⟩:=Joins.array4 hsz
 obtain ⟨fuel,hf⟩:=h
 obtain ⟨xs,m,rfl,hx,hl,hn,hi⟩:=DataW.trod_array Tryz.underlying24 hf
 simp only [Value.cells,Tryz.cellsW] at hi
 have i0:=hi 0 (by decide);have i1:=hi 1 (by decide);have i2:=hi 2 (by decide);have i3:=hi 3 (by decide)
 match xs,hn with
 | [y0,y1,y2,y3],_ =>
  simp at i0 i1 i2 i3
  obtain ⟨a0,e0,rfl,w0⟩:=DataW.trod_int Tryz.underlying22 i0
  obtain ⟨a1,e1,rfl,w1⟩:=DataW.trod_int Tryz.underlying22 i1
  obtain ⟨a2,e2,rfl,w2⟩:=DataW.trod_int Tryz.underlying22 i2
  obtain ⟨a3,e3,rfl,w3⟩:=DataW.trod_int Tryz.underlying22 i3
  simp at e0 e1 e2 e3
  subst e0 e1 e2 e3
  have k0:=cz w0;have k1:=cz w1;have k2:=cz w2;have k3:=cz w3
  obtain ⟨r0,r1,r2,r3⟩:=bZ k0 k1 k2 k3 rfl
  refine ⟨num a0 a1 a2 a3,jM k0 k1 k2 k3,?_,?_,?_⟩
  ·rw [r0,r1,r2,r3]
  ·unfold dat;rw [r0,r1,r2,r3];simpa using congrArg Prod.fst hx
  ·simpa using congrArg Prod.snd hx
theorem yq (n:Int):DataW.Trod enc Tryz.prog w base spare held 24 (.agg #[.int .u64 (l0 n),.int .u64 (l1 n),.int .u64 (l2 n),.int .u64 (l3 n)]) (dat n) []:=by
 refine ⟨2,?_⟩
 have w0:=g8 (bW n);have w1:=g8 (bX n);have w2:=g8 (bY n);have w3:=g8 (cf n)
 simp [DataW.trod,Value.cells,Tryz.underlying24,Tryz.underlying22,Tryz.cellsN,Tryz.cellsW,w0,w1,w2,w3,dat,List.range_succ]
end
end Go.Proofs.YtjoandmehahfgaaGreatDoor
