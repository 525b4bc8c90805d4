import Derived.Test.YtnnnaajgjniiaaaGreatDoorUbA
import Derived.ProofKit
import Derived.OpenShut
import Derived.SizedLaws
import Derived.Carry
import Derived.ChangeSlices
import Derived.ChangeMaps5
import Derived.Deep.Slices
set_option maxRecDepth 100000
namespace Go.Proofs.YtnnnaajgjniiaaaGreatDoor
open Go.ChangeShapes Go.WideShapes Go.ChangeAt Go.RowKit
theorem Ab:ownKnob Tryz.prog.godebug=none:=by kernel_rfl
theorem wb:laidOutB Tryz.prog=true:=by kernel_rfl
theorem cells8:Tryz.prog.cellsOf 5=1:=by kernel_rfl
theorem yN:Tryz.prog.bytesOf 5=1:=by kernel_rfl
section
variable {H:Type} {enc:TypeId×Value→H}
end
open Go.ChangeShapes Go.WideShapes Go.ChangeAt Go.RowKit
section
variable {H:Type} {enc:TypeId×Value→H}
theorem we {W:World} {base:Nat} {v:Value} {d:DataW H} {p:List MemPlace} (hval:Value.okWide Tryz.prog W .any base 36 v) (h:DataW.Trod enc Tryz.prog W 0 (fun _=>true) true 36 v d p) :
  ∃ (a:Option Addr) (bt ot ct:Nat) (X:List Int),v = .slice a X.length ct∧Az a bt ot X∧Bz W bt ot X∧Bys X∧X.length≤ct∧(a=none→ct=0)∧((d.weights Tryz.prog 36).all (· ≤ reachBytes)=true→X.length≤140737488351232):=by
 obtain ⟨a1,len,cap,rfl⟩:=okWide_slice Tryz.underlying36 hval
 obtain ⟨fuel,hf⟩:=h
 rcases open_ints Tryz.underlying36 Tryz.underlying5 cells8 hf with ⟨hcs,hx⟩|⟨a,len',cap',zs,hcs,_,hl,hm,hz,hx,hcell,hwz⟩
 ·simp [Value.cells] at hcs
  obtain ⟨rfl,rfl,rfl⟩:=hcs
  exact ⟨.none,0,0,0,[],rfl,.inl rfl,fun i hi=>absurd hi (by simp),fun x hx=>(by simp at hx),Nat.le_refl _,(fun _=>rfl),fun _=>by simp⟩
 ·simp [Value.cells] at hcs
  obtain ⟨rfl,rfl,rfl⟩:=hcs
  simp only [Prod.mk.injEq] at hx
  obtain ⟨rfl,rfl⟩:=hx
  simp only [if_true] at hz
  have lL:(zs.take len).length=len:=by rw [List.length_take];omega
  have hB:Bys (zs.take len):=fun x hx=>by
   have:=hwz x (List.mem_of_mem_take hx)
   simp [Lit.wf,IntKind.min,IntKind.max,IntKind.signed,IntKind.bits] at this
   exact ⟨by omega,by omega⟩
  have bl:((DataW.slice (H:=H) (lits .u8 (zs.take len)) (lits .u8 (zs.drop len))).weights Tryz.prog 36).all (· ≤ reachBytes)=true→(zs.take len).length≤140737488351232:=fun hw=>by
   rw [DataW.weights,Tryz.underlying36] at hw
   simp only [List.all_cons,Bool.and_eq_true,decide_eq_true_eq,yN] at hw
   have h1:=hw.1
   have e1:(lits (H:=H) .u8 (zs.take len)).length=(zs.take len).length:=by simp [lits]
   rw [e1] at h1
   have e2:reachBytes=140737488351232:=by decide
   rw [e2] at h1
   omega
  by_cases h0:len=0
  ·exact ⟨some a,0,0,cap,zs.take len,by rw [lL],.inl (List.eq_nil_of_length_eq_zero (by omega)),fun i hi=>absurd hi (by omega),hB,by omega,(fun x=>by cases x),bl⟩
  ·obtain ⟨ab,ao,spot⟩:=a
   have hspot:spot = .none:=by simpa [Addr.add] using World.cell?_spot (hcell 0 (by omega))
   subst hspot
   refine ⟨some ⟨ab,ao,.none⟩,ab,ao,cap,zs.take len,by rw [lL],.inr rfl,fun i hi=>?_,hB,by omega,(fun x=>by cases x),bl⟩
   have hc:=hcell i (by omega)
   rw [Addr.add_lit] at hc
   rw [hc]
   simp [List.getD,show i<len by omega]
end
end Go.Proofs.YtnnnaajgjniiaaaGreatDoor
namespace Go.Proofs.YtnnnaajgjniiaaaGreatDoor.hx
open Go.ChangeShapes Go.WideShapes Go.ChangeAt Go.RowKit Go.Deep
noncomputable def dat {H:Type} (X:List Int):DataW H:=.agg (X.map fun x=>.lit (.int .u8 x))
section
variable {H:Type} {enc:TypeId×Value→H} {w:World} {base:Nat} {spare:Nat→Bool} {held:Bool}
end
section
variable {H:Type} {enc:TypeId×Value→H} {W:World}
end
end Go.Proofs.YtnnnaajgjniiaaaGreatDoor.hx
