import Derived.Test.YtnnnaajgjniiaaaGreatDoorCPt
import Derived.Test.YtnnnaajgjniiaaaGreatDoorGet
import Derived.Test.YtnnnaajgjniiaaaGreatDoorCLaid
import Derived.Test.YtnnnaajgjniiaaaGreatDoorCSumK
import Derived.Test.YtnnnaajgjniiaaaGreatDoorFFermat
import Derived.Test.YtnnnaajgjniiaaaGreatDoorCEq
import Derived.Test.YtnnnaajgjniiaaaGreatDoorHold
import Derived.Test.YtnnnaajgjniiaaaGreatDoorFReduce
import Derived.Deep.RegionHeld3
import Derived.Test.YtnnnaajgjniiaaaGreatDoorAdd
import Derived.Test.YtnnnaajgjniiaaaGreatDoorFExp
import Derived.Test.YtnnnaajgjniiaaaGreatDoorRefNum
import Derived.Test.YtnnnaajgjniiaaaGreatDoorLen
import Derived.Deep.LoopGhost
set_option maxRecDepth 100000
set_option maxHeartbeats 8000000
namespace Go.Proofs.YtnnnaajgjniiaaaGreatDoor
open Go.RowKit Go.Sort
theorem bR {P:Program} {C:World→Prop} {a:Act} {o:Oper} {K:Act→Prop} (ty:TypeId) (x:Operand) (ho:o.op = .load ty x)
  (b f:Nat) (hx:a.eval x = .pointer (some ⟨b,f,none⟩)) (cs:List Value) (d:TypeDesc) (hS:∀ w,C w→w.rangeAt b f cs)
  (hu:P.underlying ty=some d) (hd:d.isRow=true) (hi:(P.info? ty).map (·.size)=some cs.length) (h:K (a.put o.dst (.agg cs.toArray))):o.quiet P a C K :=
 ⟨.agg cs.toArray,fun w hw=>by
  unfold Oper.quietAt execOp
  simp only [ho,hx,Instr.loadAt,Instr.sureAddr,Sem.run_bind,Sem.run_pure,Result.andThen_ok,run_loadVar_mid w b f ty cs d (hS w hw) hu hd hi]
  exact ⟨rfl,rfl⟩,h⟩
def HAt (W:World) (b:Nat) (A:List Int):Prop:=A.length=32∧W.rangeAt b 0 (A.map fun z=>Value.int .u8 z)
theorem HAt.lt {W:World} {b:Nat} {A:List Int} (h:HAt W b A):b<W.heap.size:=by
 have hl:0<A.length:=by rw [h.1];decide
 exact World.block_lt_of_cell? W _ (h.2 0 _ (List.getElem?_eq_getElem (by simpa using hl)))
theorem HAt.keep {W w1:World} {b:Nat} {A:List Int} (h:HAt W b A) (hb:Below W.heap.size W w1):HAt w1 b A:=⟨h.1,fun j v hv=>cell_keep hb (h.2 j v hv)⟩
theorem HAt.alloc {W:World} {b:Nat} {A:List Int} (h:HAt W b A) (ob:Obj):HAt (W.alloc ob) b A:=h.keep ((Below.refl _ _).alloc (Nat.le_refl _) ob)
theorem HAt.put9 {W:World} {b b':Nat} {A:List Int} {x' y':Int} {j:Bool} (h:HAt W b A) (ne:b'≠b):HAt (Go.Proofs.YtnnnaajgjniiaaaGreatDoor.put9 W b' x' y' j) b A:=⟨h.1,fun k v hv=>by
 unfold Go.Proofs.YtnnnaajgjniiaaaGreatDoor.put9
 exact aC (aC (aC (aC (aC (aC (aC (aC (aC (h.2 k v hv) ne) ne) ne) ne) ne) ne) ne) ne) ne⟩
theorem HAt.new {W:World} {b:Nat} {A:List Int} {t:TypeId} (hl:A.length=32) (e:b=W.heap.size):HAt (W.alloc (.cells ((A.map fun z=>Value.int .u8 z).toArray) t)) b A:=⟨hl,fun j v hv=>by
 subst e
 rw [Nat.zero_add]
 simpa [go_sem] using hv⟩
theorem oK (dst:Option Tmp) (pos:String) (ty:TypeId) (ρ:Operand→Value) (w:World):(execOp ρ { dst:=dst,op:=Op.alloc 28,type:=ty,pos:=pos,after:=#[],guard:=none }).run Tryz.prog w = .ok (.value (.pointer (some ⟨w.heap.size,0,none⟩))) (w.alloc (.cells #[.int .u64 0,.int .u64 0,.int .u64 0,.int .u64 0,.int .u64 0,.int .u64 0,.int .u64 0,.int .u64 0,.bool false] 28)):=by
 simp [execOp,go_sem]
theorem uK {key non:Int} {A:List Int} (hl:A.length=32) (C0:Hid (∀ w,Mds w→Calls Tryz.prog 13 #[.agg #[.int .u64 (l0 key),.int .u64 (l1 key),.int .u64 (l2 key),.int .u64 (l3 key)]] w fun e w'=>e = .returned (.bool false)∧Below w.heap.size w w')) (w:World) (hm:Mds w) (hc:ar w) :
  Calls Tryz.prog 17 #[.agg #[.int .u64 (l0 key),.int .u64 (l1 key),.int .u64 (l2 key),.int .u64 (l3 key)],.agg #[.int .u64 (l0 non),.int .u64 (l1 non),.int .u64 (l2 non),.int .u64 (l3 non)],bT A] w fun e w'=>e = .returned (.tuple #[.agg #[.int .u64 (l0 0),.int .u64 (l1 0),.int .u64 (l2 0),.int .u64 (l3 0),.int .u64 (l0 0),.int .u64 (l1 0),.int .u64 (l2 0),.int .u64 (l3 0),.bool false],.int .i64 60])∧Below w.heap.size w w':=by
 obtain ⟨z0,z1,z2,z3⟩:=ap
 rw [z0,z1,z2,z3]
 clear z0 z1 z2 z3
 unfold bT at *
 go_enter Tryz.func17,Tryz.ntmps17
 go_wp2_with fail
 refine aa (fun W=>Below w.heap.size w W∧Mds W∧ar W∧Nm W w.heap.size key∧Nm W (w.heap.size+1) non∧HAt W (w.heap.size+1+1) A∧Bk9 W (w.heap.size+1+1+1)) ⟨by repeat (first|with_reducible exact Below.refl _ _|with_reducible refine Below.alloc ?_ (by first|omega|(simp;done)|(simp;omega)) _),(((hm.alloc _).alloc _).alloc _).alloc _,(((ar.alloc hc _).alloc _).alloc _).alloc _,((Nm.alloc (Cl.new _ rfl rfl) _).alloc _).alloc _,(Nm.alloc (Cl.new _ (by simp) rfl) _).alloc _,(HAt.new hl (by simp)).alloc _,Bk9.new (by simp)⟩ ?_
 rintro W ⟨B,hD,hO,hK,hE,hY,hR⟩
 have o3:w.heap.size≤w.heap.size+1+1+1:=by omega
 generalize w.heap.size+1+1+1=br at *
 generalize w.heap.size+1+1=bd at *
 generalize w.heap.size+1=bn at *
 with_reducible refine (C0.out _ hD).mono ?_
 rintro e w9 ⟨rfl,hb⟩
 replace B:=B.trans (hb.mono B.size)
 replace hD:=hD.keep hb;replace hO:=hO.keep hb;replace hK:=hK.keep hb;replace hE:=hE.keep hb;replace hY:=hY.keep hb;replace hR:=hR.keep hb
 clear hb W hD hO hK hE hY
 have gR:=hR.cells;have fR:=hR.free
 go_wp2
 simp [bodyPost,results,Tryz.results17,go_sem,gR]
 repeat (first|with_reducible exact B|with_reducible refine Below.setCell ?_ o3 _)
theorem uL {key non:Int} {A:List Int} (hl:A.length=32) (C0:Hid (∀ w,Mds w→Calls Tryz.prog 13 #[.agg #[.int .u64 (l0 key),.int .u64 (l1 key),.int .u64 (l2 key),.int .u64 (l3 key)]] w fun e w'=>e = .returned (.bool true)∧Below w.heap.size w w')) (C1:Hid (∀ w,Mds w→Calls Tryz.prog 13 #[.agg #[.int .u64 (l0 non),.int .u64 (l1 non),.int .u64 (l2 non),.int .u64 (l3 non)]] w fun e w'=>e = .returned (.bool false)∧Below w.heap.size w w')) (w:World) (hm:Mds w) (hc:ar w) :
  Calls Tryz.prog 17 #[.agg #[.int .u64 (l0 key),.int .u64 (l1 key),.int .u64 (l2 key),.int .u64 (l3 key)],.agg #[.int .u64 (l0 non),.int .u64 (l1 non),.int .u64 (l2 non),.int .u64 (l3 non)],bT A] w fun e w'=>e = .returned (.tuple #[.agg #[.int .u64 (l0 0),.int .u64 (l1 0),.int .u64 (l2 0),.int .u64 (l3 0),.int .u64 (l0 0),.int .u64 (l1 0),.int .u64 (l2 0),.int .u64 (l3 0),.bool false],.int .i64 60])∧Below w.heap.size w w':=by
 obtain ⟨z0,z1,z2,z3⟩:=ap
 rw [z0,z1,z2,z3]
 clear z0 z1 z2 z3
 unfold bT at *
 go_enter Tryz.func17,Tryz.ntmps17
 go_wp2_with fail
 refine aa (fun W=>Below w.heap.size w W∧Mds W∧ar W∧Nm W w.heap.size key∧Nm W (w.heap.size+1) non∧HAt W (w.heap.size+1+1) A∧Bk9 W (w.heap.size+1+1+1)) ⟨by repeat (first|with_reducible exact Below.refl _ _|with_reducible refine Below.alloc ?_ (by first|omega|(simp;done)|(simp;omega)) _),(((hm.alloc _).alloc _).alloc _).alloc _,(((ar.alloc hc _).alloc _).alloc _).alloc _,((Nm.alloc (Cl.new _ rfl rfl) _).alloc _).alloc _,(Nm.alloc (Cl.new _ (by simp) rfl) _).alloc _,(HAt.new hl (by simp)).alloc _,Bk9.new (by simp)⟩ ?_
 rintro W ⟨B,hD,hO,hK,hE,hY,hR⟩
 have o3:w.heap.size≤w.heap.size+1+1+1:=by omega
 generalize w.heap.size+1+1+1=br at *
 generalize w.heap.size+1+1=bd at *
 generalize w.heap.size+1=bn at *
 with_reducible refine (C0.out _ hD).mono ?_
 rintro e w1 ⟨rfl,hb⟩
 replace B:=B.trans (hb.mono B.size)
 replace hD:=hD.keep hb;replace hO:=hO.keep hb;replace hK:=hK.keep hb;replace hE:=hE.keep hb;replace hY:=hY.keep hb;replace hR:=hR.keep hb
 clear hb W
 have ghE:=hE.cells
 go_wp2_with fail
 refine aa (fun W=>Below w.heap.size w W∧Mds W∧ar W∧Nm W w.heap.size key∧Nm W bn non∧HAt W bd A∧Bk9 W br) ⟨B,hD,hO,hK,hE,hY,hR⟩ ?_
 clear B hD hO hK hE hY hR ghE
 rintro W ⟨B,hD,hO,hK,hE,hY,hR⟩
 with_reducible refine (C1.out _ hD).mono ?_
 rintro e w9 ⟨rfl,hb⟩
 replace B:=B.trans (hb.mono B.size)
 replace hD:=hD.keep hb;replace hO:=hO.keep hb;replace hK:=hK.keep hb;replace hE:=hE.keep hb;replace hY:=hY.keep hb;replace hR:=hR.keep hb
 clear hb W hD hO hK hE hY
 have gR:=hR.cells;have fR:=hR.free
 go_wp2
 simp [bodyPost,results,Tryz.results17,go_sem,gR]
 repeat (first|with_reducible exact B|with_reducible refine Below.setCell ?_ o3 _)
theorem Bk9.put9b {W:World} {b b':Nat} {x' y':Int} {j:Bool} (h:Bk9 W b) (ne:b'≠b):Bk9 (Go.Proofs.YtnnnaajgjniiaaaGreatDoor.put9 W b' x' y' j) b:=by
 unfold Go.Proofs.YtnnnaajgjniiaaaGreatDoor.put9
 exact ⟨Cl.set (Cl.set (Cl.set (Cl.set (Cl.set (Cl.set (Cl.set (Cl.set (Cl.set (h.1) ne _) ne _) ne _) ne _) ne _) ne _) ne _) ne _) ne _,(((((((((h.2.set _ _).set _ _).set _ _).set _ _).set _ _).set _ _).set _ _).set _ _).set _ _)⟩
theorem qW {key non dg X Y e0:Int} {j:Bool} {A:List Int} (hl:A.length=32) (C0:Hid (∀ w,Mds w→Calls Tryz.prog 13 #[.agg #[.int .u64 (l0 key),.int .u64 (l1 key),.int .u64 (l2 key),.int .u64 (l3 key)]] w fun e w'=>e = .returned (.bool true)∧Below w.heap.size w w')) (C1:Hid (∀ w,Mds w→Calls Tryz.prog 13 #[.agg #[.int .u64 (l0 non),.int .u64 (l1 non),.int .u64 (l2 non),.int .u64 (l3 non)]] w fun e w'=>e = .returned (.bool true)∧Below w.heap.size w w')) (CN:Hid (∀ w,Mds w→Calls Tryz.prog 30 #[.agg ((A.map fun z=>Value.int .u8 z).toArray)] w fun e w'=>e = .returned (.agg #[.int .u64 (l0 dg),.int .u64 (l1 dg),.int .u64 (l2 dg),.int .u64 (l3 dg)])∧Below w.heap.size w w')) (CG:Hid (∀ w,Mds w→ar w→Calls Tryz.prog 23 #[.agg #[.int .u64 (l0 non),.int .u64 (l1 non),.int .u64 (l2 non),.int .u64 (l3 non)]] w fun e w'=>e = .returned (.agg #[.int .u64 (l0 X),.int .u64 (l1 X),.int .u64 (l2 X),.int .u64 (l3 X),.int .u64 (l0 Y),.int .u64 (l1 Y),.int .u64 (l2 Y),.int .u64 (l3 Y),.bool j])∧Below w.heap.size w w')) (CT:Hid (∀ w,Mds w→Calls Tryz.prog 31 #[.agg #[.int .u64 (l0 key),.int .u64 (l1 key),.int .u64 (l2 key),.int .u64 (l3 key)],.agg #[.int .u64 (l0 non),.int .u64 (l1 non),.int .u64 (l2 non),.int .u64 (l3 non)],.agg #[.int .u64 (l0 dg),.int .u64 (l1 dg),.int .u64 (l2 dg),.int .u64 (l3 dg)],.agg #[.int .u64 (l0 X),.int .u64 (l1 X),.int .u64 (l2 X),.int .u64 (l3 X),.int .u64 (l0 Y),.int .u64 (l1 Y),.int .u64 (l2 Y),.int .u64 (l3 Y),.bool j]] w fun e w'=>e = .returned (.tuple #[.agg #[.int .u64 (l0 0),.int .u64 (l1 0),.int .u64 (l2 0),.int .u64 (l3 0),.int .u64 (l0 0),.int .u64 (l1 0),.int .u64 (l2 0),.int .u64 (l3 0),.bool false],.int .i64 e0])∧Below w.heap.size w w')) (he:e0≠0) (w:World) (hm:Mds w) (hc:ar w) :
    Calls Tryz.prog 17 #[.agg #[.int .u64 (l0 key),.int .u64 (l1 key),.int .u64 (l2 key),.int .u64 (l3 key)],.agg #[.int .u64 (l0 non),.int .u64 (l1 non),.int .u64 (l2 non),.int .u64 (l3 non)],bT A] w fun e w'=>e = .returned (.tuple #[.agg #[.int .u64 (l0 0),.int .u64 (l1 0),.int .u64 (l2 0),.int .u64 (l3 0),.int .u64 (l0 0),.int .u64 (l1 0),.int .u64 (l2 0),.int .u64 (l3 0),.bool false],.int .i64 e0])∧Below w.heap.size w w':=by
  unfold bT at *
  go_enter Tryz.func17,Tryz.ntmps17
  go_wp2_with fail
  refine aa (fun W=>Below w.heap.size w W∧Mds W∧ar W∧Nm W w.heap.size key∧Nm W (w.heap.size+1) non∧HAt W (w.heap.size+1+1) A∧Bk9 W (w.heap.size+1+1+1)) ⟨by repeat (first|with_reducible exact Below.refl _ _|with_reducible refine Below.alloc ?_ (by first|omega|(simp;done)|(simp;omega)) _),(((hm.alloc _).alloc _).alloc _).alloc _,(((ar.alloc hc _).alloc _).alloc _).alloc _,((Nm.alloc (Cl.new _ rfl rfl) _).alloc _).alloc _,(Nm.alloc (Cl.new _ (by simp) rfl) _).alloc _,(HAt.new hl (by simp)).alloc _,Bk9.new (by simp)⟩ ?_
  rintro W ⟨B,hD,hO,hK,hE,hY,hR⟩
  have o3:w.heap.size≤w.heap.size+1+1+1:=by omega
  generalize w.heap.size+1+1+1=br at *
  generalize w.heap.size+1+1=bd at *
  generalize w.heap.size+1=bn at *
  with_reducible refine (C0.out _ hD).mono ?_
  rintro e w1 ⟨rfl,hb⟩
  replace B:=B.trans (hb.mono B.size)
  replace hD:=hD.keep hb;replace hO:=hO.keep hb;replace hK:=hK.keep hb;replace hE:=hE.keep hb;replace hY:=hY.keep hb;replace hR:=hR.keep hb
  clear hb W
  have ghE:=hE.cells
  go_wp2_with fail
  refine aa (fun W=>Below w.heap.size w W∧Mds W∧ar W∧Nm W w.heap.size key∧Nm W bn non∧HAt W bd A∧Bk9 W br) ⟨B,hD,hO,hK,hE,hY,hR⟩ ?_
  clear B hD hO hK hE hY hR ghE
  rintro W ⟨B,hD,hO,hK,hE,hY,hR⟩
  with_reducible refine (C1.out _ hD).mono ?_
  rintro e w2 ⟨rfl,hb⟩
  replace B:=B.trans (hb.mono B.size)
  replace hD:=hD.keep hb;replace hO:=hO.keep hb;replace hK:=hK.keep hb;replace hE:=hE.keep hb;replace hY:=hY.keep hb;replace hR:=hR.keep hb
  clear hb W
  go_wp2_with fail
  refine aj (fun W=>Below w.heap.size w W∧Mds W∧ar W∧Nm W w.heap.size key∧Nm W bn non∧HAt W bd A∧Bk9 W br) ⟨B,hD,hO,hK,hE,hY,hR⟩ ?_
  clear B hD hO hK hE hY hR
  rintro W ⟨B,hD,hO,hK,hE,hY,hR⟩
  refine iH (A:=?AA1) 10 (fun V kk=>put9 V kk 0 0 false) (by kernel_rfl) (by kernel_rfl) rfl rfl rfl (oK _ _ _) (fun V V0 h0 h1=>bi (au h0 h1) h0.size) (fun V hV=>?HH1) (fun V V0 h0 h1=>?EE1) (fun V0 V w1 h0 h1 h2=>?TT1)
  case HH1 =>
    have hDg:∀ d os,Mds (grow (redrawn V d) os):=fun d os=>(hD.keep hV).keep (below_regrown V d os)
    have hOg:∀ d os,ar (grow (redrawn V d) os):=fun d os=>(hO.keep hV).keep (below_regrown V d os)
    have ghK:=(hK.keep hV).grown
    have ghE:=(hE.keep hV).grown
    have ldY:∀ w',(∃ p:Regrown,w'=grow (redrawn V p.d) p.os)→w'.rangeAt bd 0 (A.map fun z=>Value.int .u8 z):=by rintro w' ⟨p,rfl⟩;exact ((hY.keep hV).keep (below_regrown V p.d p.os)).2
    have hl32:=hY.1
    unfold Gr
    simp only [List.take_succ_cons,List.take_zero]
    repeat
      first
        | go_big_quiet_skip
        | (go_big_quiet_want;go_big_quiet_op;go_big_quiet_on)
        | (go_big_quiet_want;refine bR 26 _ rfl bd 0 rfl (A.map fun z=>Value.int .u8 z) _ ldY Tryz.underlying26 rfl (by rw [List.length_map,hl32];kernel_rfl) ?_;simp only [Act.put,List.setIfInBounds_toArray,List.set_cons_succ,List.set_cons_zero];go_big_quiet_on)
        | (go_big_quiet_want
           go_big_quiet_op
           apply Exists.intro
           refine ⟨fun p=>?_,?_⟩
           · (first|(go_at_call 30;with_reducible exact Calls.regrown_of (CN.out _ (hDg p.d p.os)))|(go_at_call 23;with_reducible exact Calls.regrown_of (CG.out _ (hDg p.d p.os) (hOg p.d p.os)))|(go_at_call 31;with_reducible exact Calls.regrown_of (CT.out _ (hDg p.d p.os))))
           go_big_quiet_on)
    refine wpQuiet_nil ?_
    exact rfl
  case EE1 =>
    obtain ⟨c0,c1,c2,c3,c4,c5,c6,c7,c8⟩:=((Bk9.new rfl).keep h1).cells
    obtain ⟨f0,f1,f2,f3,f4,f5,f6,f7,f8⟩:=((Bk9.new rfl).keep h1).free
    unfold put9
    simp [execOp,Act.put,Act.eval,go_sem,c0,c1,c2,c3,c4,c5,c6,c7,c8,f0,f1,f2,f3,f4,f5,f6,f7,f8]
  case TT1 =>
    have hN:=(((Bk9.new rfl).keep h1).put9 0 0 false).keep h2
    have hb:=au h0 h1
    have nhD:V0.heap.size≠1:=Nat.ne_of_gt (Nat.lt_of_lt_of_le hD.lt h0.size)
    have nhO:V0.heap.size≠0:=Nat.ne_of_gt (Nat.lt_of_lt_of_le hO.lt h0.size)
    have nhK:V0.heap.size≠w.heap.size:=Nat.ne_of_gt (Nat.lt_of_lt_of_le hK.lt h0.size)
    have nhE:V0.heap.size≠bn:=Nat.ne_of_gt (Nat.lt_of_lt_of_le hE.lt h0.size)
    have nhY:V0.heap.size≠bd:=Nat.ne_of_gt (Nat.lt_of_lt_of_le hY.lt h0.size)
    have nhR:V0.heap.size≠br:=Nat.ne_of_gt (Nat.lt_of_lt_of_le hR.lt h0.size)
    have gn:w.heap.size≤V0.heap.size:=Nat.le_trans B.size h0.size
    have B1:=bi (x':=0) (y':=0) (j:=false) (B.trans (hb.mono B.size)) gn
    replace B:=B1.trans (h2.mono B1.size)
    replace hD:=((hD.keep hb).put9 nhD).keep h2
    replace hO:=((hO.keep hb).put9 nhO).keep h2
    replace hK:=((hK.keep hb).put9 nhK).keep h2
    replace hE:=((hE.keep hb).put9 nhE).keep h2
    replace hY:=((hY.keep hb).put9 nhY).keep h2
    replace hR:=((hR.keep hb).put9b nhR).keep h2
    clear hb h0 h1 h2 B1 W gn nhD nhO nhK nhE nhY nhR
    generalize V0.heap.size=bs at *
    clear V V0
    simp only [List.drop_succ_cons,List.drop_zero,Act.put,List.setIfInBounds_toArray,List.set_cons_zero,List.set_cons_succ]
    have gR:=hR.cells;have fR:=hR.free
    go_wp2
    simp [bodyPost,results,Tryz.results17,go_sem,gR]
    refine ⟨by decide,?_⟩
    repeat (first|with_reducible exact B|with_reducible refine Below.setCell ?_ o3 _)
theorem uM {key non dg X Y r s r' s':Int} {j od od':Bool} {A:List Int} (hl:A.length=32) (C0:Hid (∀ w,Mds w→Calls Tryz.prog 13 #[.agg #[.int .u64 (l0 key),.int .u64 (l1 key),.int .u64 (l2 key),.int .u64 (l3 key)]] w fun e w'=>e = .returned (.bool true)∧Below w.heap.size w w')) (C1:Hid (∀ w,Mds w→Calls Tryz.prog 13 #[.agg #[.int .u64 (l0 non),.int .u64 (l1 non),.int .u64 (l2 non),.int .u64 (l3 non)]] w fun e w'=>e = .returned (.bool true)∧Below w.heap.size w w')) (CN:Hid (∀ w,Mds w→Calls Tryz.prog 30 #[.agg ((A.map fun z=>Value.int .u8 z).toArray)] w fun e w'=>e = .returned (.agg #[.int .u64 (l0 dg),.int .u64 (l1 dg),.int .u64 (l2 dg),.int .u64 (l3 dg)])∧Below w.heap.size w w')) (CG:Hid (∀ w,Mds w→ar w→Calls Tryz.prog 23 #[.agg #[.int .u64 (l0 non),.int .u64 (l1 non),.int .u64 (l2 non),.int .u64 (l3 non)]] w fun e w'=>e = .returned (.agg #[.int .u64 (l0 X),.int .u64 (l1 X),.int .u64 (l2 X),.int .u64 (l3 X),.int .u64 (l0 Y),.int .u64 (l1 Y),.int .u64 (l2 Y),.int .u64 (l3 Y),.bool j])∧Below w.heap.size w w')) (CT:Hid (∀ w,Mds w→Calls Tryz.prog 31 #[.agg #[.int .u64 (l0 key),.int .u64 (l1 key),.int .u64 (l2 key),.int .u64 (l3 key)],.agg #[.int .u64 (l0 non),.int .u64 (l1 non),.int .u64 (l2 non),.int .u64 (l3 non)],.agg #[.int .u64 (l0 dg),.int .u64 (l1 dg),.int .u64 (l2 dg),.int .u64 (l3 dg)],.agg #[.int .u64 (l0 X),.int .u64 (l1 X),.int .u64 (l2 X),.int .u64 (l3 X),.int .u64 (l0 Y),.int .u64 (l1 Y),.int .u64 (l2 Y),.int .u64 (l3 Y),.bool j]] w fun e w'=>e = .returned (.tuple #[.agg #[.int .u64 (l0 r),.int .u64 (l1 r),.int .u64 (l2 r),.int .u64 (l3 r),.int .u64 (l0 s),.int .u64 (l1 s),.int .u64 (l2 s),.int .u64 (l3 s),.bool od],.int .i64 0])∧Below w.heap.size w w')) (CL:Hid (∀ w,Mds w→Calls Tryz.prog 32 #[.agg #[.int .u64 (l0 r),.int .u64 (l1 r),.int .u64 (l2 r),.int .u64 (l3 r),.int .u64 (l0 s),.int .u64 (l1 s),.int .u64 (l2 s),.int .u64 (l3 s),.bool od]] w fun e w'=>e = .returned (.agg #[.int .u64 (l0 r'),.int .u64 (l1 r'),.int .u64 (l2 r'),.int .u64 (l3 r'),.int .u64 (l0 s'),.int .u64 (l1 s'),.int .u64 (l2 s'),.int .u64 (l3 s'),.bool od'])∧Below w.heap.size w w')) (w:World) (hm:Mds w) (hc:ar w) :
    Calls Tryz.prog 17 #[.agg #[.int .u64 (l0 key),.int .u64 (l1 key),.int .u64 (l2 key),.int .u64 (l3 key)],.agg #[.int .u64 (l0 non),.int .u64 (l1 non),.int .u64 (l2 non),.int .u64 (l3 non)],bT A] w fun e w'=>e = .returned (.tuple #[.agg #[.int .u64 (l0 r'),.int .u64 (l1 r'),.int .u64 (l2 r'),.int .u64 (l3 r'),.int .u64 (l0 s'),.int .u64 (l1 s'),.int .u64 (l2 s'),.int .u64 (l3 s'),.bool od'],.int .i64 0])∧Below w.heap.size w w':=by
  unfold bT at *
  go_enter Tryz.func17,Tryz.ntmps17
  go_wp2_with fail
  refine aa (fun W=>Below w.heap.size w W∧Mds W∧ar W∧Nm W w.heap.size key∧Nm W (w.heap.size+1) non∧HAt W (w.heap.size+1+1) A∧Bk9 W (w.heap.size+1+1+1)) ⟨by repeat (first|with_reducible exact Below.refl _ _|with_reducible refine Below.alloc ?_ (by first|omega|(simp;done)|(simp;omega)) _),(((hm.alloc _).alloc _).alloc _).alloc _,(((ar.alloc hc _).alloc _).alloc _).alloc _,((Nm.alloc (Cl.new _ rfl rfl) _).alloc _).alloc _,(Nm.alloc (Cl.new _ (by simp) rfl) _).alloc _,(HAt.new hl (by simp)).alloc _,Bk9.new (by simp)⟩ ?_
  rintro W ⟨B,hD,hO,hK,hE,hY,hR⟩
  have o3:w.heap.size≤w.heap.size+1+1+1:=by omega
  generalize w.heap.size+1+1+1=br at *
  generalize w.heap.size+1+1=bd at *
  generalize w.heap.size+1=bn at *
  with_reducible refine (C0.out _ hD).mono ?_
  rintro e w1 ⟨rfl,hb⟩
  replace B:=B.trans (hb.mono B.size)
  replace hD:=hD.keep hb;replace hO:=hO.keep hb;replace hK:=hK.keep hb;replace hE:=hE.keep hb;replace hY:=hY.keep hb;replace hR:=hR.keep hb
  clear hb W
  have ghE:=hE.cells
  go_wp2_with fail
  refine aa (fun W=>Below w.heap.size w W∧Mds W∧ar W∧Nm W w.heap.size key∧Nm W bn non∧HAt W bd A∧Bk9 W br) ⟨B,hD,hO,hK,hE,hY,hR⟩ ?_
  clear B hD hO hK hE hY hR ghE
  rintro W ⟨B,hD,hO,hK,hE,hY,hR⟩
  with_reducible refine (C1.out _ hD).mono ?_
  rintro e w2 ⟨rfl,hb⟩
  replace B:=B.trans (hb.mono B.size)
  replace hD:=hD.keep hb;replace hO:=hO.keep hb;replace hK:=hK.keep hb;replace hE:=hE.keep hb;replace hY:=hY.keep hb;replace hR:=hR.keep hb
  clear hb W
  go_wp2_with fail
  refine aj (fun W=>Below w.heap.size w W∧Mds W∧ar W∧Nm W w.heap.size key∧Nm W bn non∧HAt W bd A∧Bk9 W br) ⟨B,hD,hO,hK,hE,hY,hR⟩ ?_
  clear B hD hO hK hE hY hR
  rintro W ⟨B,hD,hO,hK,hE,hY,hR⟩
  refine iH (A:=?AA1) 10 (fun V kk=>put9 V kk r s od) (by kernel_rfl) (by kernel_rfl) rfl rfl rfl (oK _ _ _) (fun V V0 h0 h1=>bi (au h0 h1) h0.size) (fun V hV=>?HH1) (fun V V0 h0 h1=>?EE1) (fun V0 V w1 h0 h1 h2=>?TT1)
  case HH1 =>
    have hDg:∀ d os,Mds (grow (redrawn V d) os):=fun d os=>(hD.keep hV).keep (below_regrown V d os)
    have hOg:∀ d os,ar (grow (redrawn V d) os):=fun d os=>(hO.keep hV).keep (below_regrown V d os)
    have ghK:=(hK.keep hV).grown
    have ghE:=(hE.keep hV).grown
    have ldY:∀ w',(∃ p:Regrown,w'=grow (redrawn V p.d) p.os)→w'.rangeAt bd 0 (A.map fun z=>Value.int .u8 z):=by rintro w' ⟨p,rfl⟩;exact ((hY.keep hV).keep (below_regrown V p.d p.os)).2
    have hl32:=hY.1
    unfold Gr
    simp only [List.take_succ_cons,List.take_zero]
    repeat
      first
        | go_big_quiet_skip
        | (go_big_quiet_want;go_big_quiet_op;go_big_quiet_on)
        | (go_big_quiet_want;refine bR 26 _ rfl bd 0 rfl (A.map fun z=>Value.int .u8 z) _ ldY Tryz.underlying26 rfl (by rw [List.length_map,hl32];kernel_rfl) ?_;simp only [Act.put,List.setIfInBounds_toArray,List.set_cons_succ,List.set_cons_zero];go_big_quiet_on)
        | (go_big_quiet_want
           go_big_quiet_op
           apply Exists.intro
           refine ⟨fun p=>?_,?_⟩
           · (first|(go_at_call 30;with_reducible exact Calls.regrown_of (CN.out _ (hDg p.d p.os)))|(go_at_call 23;with_reducible exact Calls.regrown_of (CG.out _ (hDg p.d p.os) (hOg p.d p.os)))|(go_at_call 31;with_reducible exact Calls.regrown_of (CT.out _ (hDg p.d p.os))))
           go_big_quiet_on)
    refine wpQuiet_nil ?_
    exact rfl
  case EE1 =>
    obtain ⟨c0,c1,c2,c3,c4,c5,c6,c7,c8⟩:=((Bk9.new rfl).keep h1).cells
    obtain ⟨f0,f1,f2,f3,f4,f5,f6,f7,f8⟩:=((Bk9.new rfl).keep h1).free
    unfold put9
    simp [execOp,Act.put,Act.eval,go_sem,c0,c1,c2,c3,c4,c5,c6,c7,c8,f0,f1,f2,f3,f4,f5,f6,f7,f8]
  case TT1 =>
    have hN:=(((Bk9.new rfl).keep h1).put9 r s od).keep h2
    have hb:=au h0 h1
    have nhD:V0.heap.size≠1:=Nat.ne_of_gt (Nat.lt_of_lt_of_le hD.lt h0.size)
    have nhO:V0.heap.size≠0:=Nat.ne_of_gt (Nat.lt_of_lt_of_le hO.lt h0.size)
    have nhK:V0.heap.size≠w.heap.size:=Nat.ne_of_gt (Nat.lt_of_lt_of_le hK.lt h0.size)
    have nhE:V0.heap.size≠bn:=Nat.ne_of_gt (Nat.lt_of_lt_of_le hE.lt h0.size)
    have nhY:V0.heap.size≠bd:=Nat.ne_of_gt (Nat.lt_of_lt_of_le hY.lt h0.size)
    have nhR:V0.heap.size≠br:=Nat.ne_of_gt (Nat.lt_of_lt_of_le hR.lt h0.size)
    have gn:w.heap.size≤V0.heap.size:=Nat.le_trans B.size h0.size
    have B1:=bi (x':=r) (y':=s) (j:=od) (B.trans (hb.mono B.size)) gn
    replace B:=B1.trans (h2.mono B1.size)
    replace hD:=((hD.keep hb).put9 nhD).keep h2
    replace hO:=((hO.keep hb).put9 nhO).keep h2
    replace hK:=((hK.keep hb).put9 nhK).keep h2
    replace hE:=((hE.keep hb).put9 nhE).keep h2
    replace hY:=((hY.keep hb).put9 nhY).keep h2
    replace hR:=((hR.keep hb).put9b nhR).keep h2
    clear hb h0 h1 h2 B1 W gn nhD nhO nhK nhE nhY nhR
    generalize V0.heap.size=bs at *
    clear V V0
    have gN:=hN.cells
    simp only [List.drop_succ_cons,List.drop_zero,Act.put,List.setIfInBounds_toArray,List.set_cons_zero,List.set_cons_succ]
    go_wp2_with fail
    refine aa (fun W=>Below w.heap.size w W∧Mds W∧ar W∧Nm W w.heap.size key∧Nm W bn non∧HAt W bd A∧Bk9 W br∧Pnt W bs r s od) ⟨B,hD,hO,hK,hE,hY,hR,hN⟩ ?_
    clear B hN gN hD hO hK hE hY hR
    rintro W ⟨B,hD,hO,hK,hE,hY,hR,hS⟩
    clear w1
    with_reducible refine (CL.out _ hD).mono ?_
    rintro e w9 ⟨rfl,hb⟩
    replace B:=B.trans (hb.mono B.size)
    replace hD:=hD.keep hb;replace hO:=hO.keep hb;replace hK:=hK.keep hb;replace hE:=hE.keep hb;replace hY:=hY.keep hb;replace hR:=hR.keep hb;replace hS:=hS.keep hb
    clear hb W hD hO hK hE hY hS
    have gR:=hR.cells;have fR:=hR.free
    go_wp2
    simp [bodyPost,results,Tryz.results17,go_sem,gR]
    repeat (first|with_reducible exact B|with_reducible refine Below.setCell ?_ o3 _)
def swS (key non dg X:Int):Int:=ac nN (ac nN (dg+ac nN (X*key))*aR nN non)
open Go.RowKit Go.Sort
def dgN (A:List Int):Int:=ac nN (aH A 32)
def oddB (y:Int):Bool:=decide (ij y 0=1)
structure SwR where
 r:Int
 s:Int
 o:Bool
 e:Int
def swR (key non:Int) (A:List Int) (X Y:Int):SwR :=
 if (bW key&&bW non)=false then ⟨0,0,false,60⟩ else if ¬X<nN then ⟨0,0,false,64⟩ else if X=0∨swS key non (dgN A) X=0 then ⟨0,0,false,65⟩ else
  if lowN (swS key non (dgN A) X) then ⟨X,swS key non (dgN A) X,oddB Y,0⟩ else ⟨X,ac nN (0-swS key non (dgN A) X),!oddB Y,0⟩
theorem fV {x:Int} (h:bW x=true):x≠0∧x<nN:=by
 unfold bW at h
 simpa using h
theorem xi {key non X Y:Int} {A:List Int} {j:Bool} (hk:Num key) (hn:Num non) (hA:fJ A) (hl:A.length=32) (hv:Vd X Y j) (ev:aS X Y j=EC.smul non.toNat EC.gJ.pt) :
  ∀ w,Mds w→ar w→Calls Tryz.prog 17 #[.agg #[.int .u64 (l0 key),.int .u64 (l1 key),.int .u64 (l2 key),.int .u64 (l3 key)],.agg #[.int .u64 (l0 non),.int .u64 (l1 non),.int .u64 (l2 non),.int .u64 (l3 non)],bT A] w fun e w'=>e = .returned (.tuple #[.agg #[.int .u64 (l0 (swR key non A X Y).r),.int .u64 (l1 (swR key non A X Y).r),.int .u64 (l2 (swR key non A X Y).r),.int .u64 (l3 (swR key non A X Y).r),.int .u64 (l0 (swR key non A X Y).s),.int .u64 (l1 (swR key non A X Y).s),.int .u64 (l2 (swR key non A X Y).s),.int .u64 (l3 (swR key non A X Y).s),.bool (swR key non A X Y).o],.int .i64 (swR key non A X Y).e])∧Below w.heap.size w w':=fun w hm hc=>by
 have nX:=hv.low.1.num;have nY:=hv.low.2.num
 have i1:=co hk;have i2:=co hn
 cases h1:bW key with
 | false =>
  rw [h1] at i1
  have e:swR key non A X Y=⟨0,0,false,60⟩:=by unfold swR;rw [h1,Bool.false_and,if_pos rfl]
  rw [e]
  exact uK hl i1 w hm hc
 | true =>
  rw [h1] at i1
  cases h2:bW non with
  | false =>
   rw [h2] at i2
   have e:swR key non A X Y=⟨0,0,false,60⟩:=by unfold swR;rw [h1,h2,Bool.and_false,if_pos rfl]
   rw [e]
   exact uL hl i1 i2 w hm hc
  | true =>
   rw [h2] at i2
   have CN:Hid (∀ w,Mds w→Calls Tryz.prog 30 #[.agg ((A.map fun z=>Value.int .u8 z).toArray)] w fun e w'=>e = .returned (.agg #[.int .u64 (l0 (dgN A)),.int .u64 (l1 (dgN A)),.int .u64 (l2 (dgN A)),.int .u64 (l3 (dgN A))])∧Below w.heap.size w w'):=fun w hm=>fQ hA hl w hm
   have CG:Hid (∀ w,Mds w→ar w→Calls Tryz.prog 23 #[.agg #[.int .u64 (l0 non),.int .u64 (l1 non),.int .u64 (l2 non),.int .u64 (l3 non)]] w fun e w'=>e = .returned (.agg #[.int .u64 (l0 X),.int .u64 (l1 X),.int .u64 (l2 X),.int .u64 (l3 X),.int .u64 (l0 Y),.int .u64 (l1 Y),.int .u64 (l2 Y),.int .u64 (l3 Y),.bool j])∧Below w.heap.size w w'):=fun w hm hc=>mC hn hv ev w hm hc
   have b0:swR key non A X Y=if ¬X<nN then ⟨0,0,false,64⟩ else if X=0∨swS key non (dgN A) X=0 then ⟨0,0,false,65⟩ else if lowN (swS key non (dgN A) X) then ⟨X,swS key non (dgN A) X,oddB Y,0⟩ else ⟨X,ac nN (0-swS key non (dgN A) X),!oddB Y,0⟩:=by
    unfold swR;rw [h1,h2,Bool.and_self,if_neg (by decide)]
   have nd:Num (dgN A):=ag eN _
   have hz:ac nN non≠0:=by
    obtain ⟨a1,a2⟩:=fV h2
    rw [cw hn.1 a2];exact a1
   have BL:∀ v,decide (X<nN)=v→Hid (∀ w,Mds w→Calls Tryz.prog 27 #[.agg #[.int .u64 (l0 X),.int .u64 (l1 X),.int .u64 (l2 X),.int .u64 (l3 X)]] w fun e w'=>e = .returned (.bool v)∧Below w.heap.size w w'):=fun v e w hm=>jC (fun w hm=>ik w hm) (fun w=>jU nX qO w) ((ud X nN).trans e) w hm
   by_cases c1:X<nN
   ·rw [if_neg (not_not_intro c1)] at b0
    have ns:Num (swS key non (dgN A) X):=ag eN _
    have A1:Hid (∀ w,Mds w→Calls Tryz.prog 50 #[.agg #[.int .u64 (l0 X),.int .u64 (l1 X),.int .u64 (l2 X),.int .u64 (l3 X)],.agg #[.int .u64 (l0 key),.int .u64 (l1 key),.int .u64 (l2 key),.int .u64 (l3 key)]] w fun e w'=>e = .returned (.agg #[.int .u64 (l0 (ac nN (X*key))),.int .u64 (l1 (ac nN (X*key))),.int .u64 (l2 (ac nN (X*key))),.int .u64 (l3 (ac nN (X*key)))])∧Below w.heap.size w w'):=gE nX hk
    have A2:Hid (∀ w,Mds w→Calls Tryz.prog 60 #[.agg #[.int .u64 (l0 (dgN A)),.int .u64 (l1 (dgN A)),.int .u64 (l2 (dgN A)),.int .u64 (l3 (dgN A))],.agg #[.int .u64 (l0 (ac nN (X*key))),.int .u64 (l1 (ac nN (X*key))),.int .u64 (l2 (ac nN (X*key))),.int .u64 (l3 (ac nN (X*key)))]] w fun e w'=>e = .returned (.agg #[.int .u64 (l0 (ac nN (dgN A+ac nN (X*key)))),.int .u64 (l1 (ac nN (dgN A+ac nN (X*key)))),.int .u64 (l2 (ac nN (dgN A+ac nN (X*key)))),.int .u64 (l3 (ac nN (dgN A+ac nN (X*key))))])∧Below w.heap.size w w'):=ug nd (ag eN _)
    have A3:=kw hn hz
    have A4:Hid (∀ w,Mds w→Calls Tryz.prog 50 #[.agg #[.int .u64 (l0 (ac nN (dgN A+ac nN (X*key)))),.int .u64 (l1 (ac nN (dgN A+ac nN (X*key)))),.int .u64 (l2 (ac nN (dgN A+ac nN (X*key)))),.int .u64 (l3 (ac nN (dgN A+ac nN (X*key))))],.agg #[.int .u64 (l0 (aR nN non)),.int .u64 (l1 (aR nN non)),.int .u64 (l2 (aR nN non)),.int .u64 (l3 (aR nN non))]] w fun e w'=>e = .returned (.agg #[.int .u64 (l0 (swS key non (dgN A) X)),.int .u64 (l1 (swS key non (dgN A) X)),.int .u64 (l2 (swS key non (dgN A) X)),.int .u64 (l3 (swS key non (dgN A) X))])∧Below w.heap.size w w'):=gE (ag eN _) (dr eN _ _)
    have C0:=BL true (decide_eq_true c1)
    by_cases c2:X=0∨swS key non (dgN A) X=0
    ·rw [if_pos c2] at b0
     rw [b0]
     refine qW hl i1 i2 CN CG (fun w hm=>?_) (by decide) w hm hc
     by_cases c3:X=0
     ·exact uz C0 A1 A2 A3 A4 (fun w=>cJ (pO nX (decide_eq_true c3)) w) w hm
     ·have c4:swS key non (dgN A) X=0:=c2.resolve_left c3
      exact uA C0 A1 A2 A3 A4 (fun w=>cJ (pO nX (decide_eq_false c3)) w) (fun w=>cJ (pO ns (decide_eq_true c4)) w) w hm
    ·rw [if_neg c2] at b0
     have c3:X≠0:=fun e=>c2 (.inl e)
     have c4:swS key non (dgN A) X≠0:=fun e=>c2 (.inr e)
     have CT:=fun w hm=>uB C0 A1 A2 A3 A4 (fun w=>cJ (pO nX (decide_eq_false c3)) w) (fun w=>cJ (pO ns (decide_eq_false c4)) w) (fun w=>ui nY w) (i:=j) w hm
     have LW:=n9 ns
     cases h5:lowN (swS key non (dgN A) X) with
     | true =>
      rw [h5] at LW b0
      rw [if_pos rfl] at b0
      rw [b0]
      exact uM hl i1 i2 CN CG CT (fun w hm=>ng LW w hm) w hm hc
     | false =>
      rw [h5] at LW b0
      rw [if_neg (by decide)] at b0
      rw [b0]
      exact uM hl i1 i2 CN CG CT (fun w hm=>oD LW (oe ns) w hm) w hm hc
   ·rw [if_pos c1] at b0
    rw [b0]
    exact qW hl i1 i2 CN CG (fun w hm=>xb (BL false (decide_eq_false c1)) w hm) (by decide) w hm hc
open Go.RowKit Go.Sort
theorem Nm.new {W:World} {b:Nat} {t:TypeId} {n:Int} (e:b=W.heap.size):Nm (W.alloc (.cells #[.int .u64 (l0 n),.int .u64 (l1 n),.int .u64 (l2 n),.int .u64 (l3 n)] t)) b n:=Cl.new _ e rfl
theorem ys {r s e0:Int} {o:Bool} {A:List Int} (hl:A.length=32) (C0:Hid (∀ w,Mds w→Calls Tryz.prog 40 #[.agg #[.int .u64 (l0 r),.int .u64 (l1 r),.int .u64 (l2 r),.int .u64 (l3 r),.int .u64 (l0 s),.int .u64 (l1 s),.int .u64 (l2 s),.int .u64 (l3 s),.bool o]] w fun e w'=>e = .returned (.int .i64 e0)∧Below w.heap.size w w')) (he:e0≠0) (w:World) (hm:Mds w) (hc:ar w) :
  Calls Tryz.prog 25 #[bT A,.agg #[.int .u64 (l0 r),.int .u64 (l1 r),.int .u64 (l2 r),.int .u64 (l3 r),.int .u64 (l0 s),.int .u64 (l1 s),.int .u64 (l2 s),.int .u64 (l3 s),.bool o]] w fun e w'=>e = .returned (.tuple #[.agg #[.int .u64 (l0 0),.int .u64 (l1 0),.int .u64 (l2 0),.int .u64 (l3 0),.int .u64 (l0 0),.int .u64 (l1 0),.int .u64 (l2 0),.int .u64 (l3 0),.bool false],.int .i64 e0])∧Below w.heap.size w w':=by
 obtain ⟨z0,z1,z2,z3⟩:=ap
 rw [z0,z1,z2,z3]
 clear z0 z1 z2 z3
 unfold bT at *
 go_enter Tryz.func25,Tryz.ntmps25
 go_wp2_with fail
 refine aa (fun W=>Below w.heap.size w W∧Mds W∧ar W∧HAt W w.heap.size A∧Pnt W (w.heap.size+1) r s o∧Bk9 W (w.heap.size+1+1)) ⟨by repeat (first|with_reducible exact Below.refl _ _|with_reducible refine Below.alloc ?_ (by first|omega|(simp;done)|(simp;omega)) _),((hm.alloc _).alloc _).alloc _,((ar.alloc hc _).alloc _).alloc _,((HAt.new hl rfl).alloc _).alloc _,(Pnt.new (by simp)).alloc _,Bk9.new (by simp)⟩ ?_
 rintro W ⟨B,hD,hO,hY,hP,hR⟩
 have o3:w.heap.size≤w.heap.size+1+1:=by omega
 generalize w.heap.size+1+1=br at *
 generalize w.heap.size+1=bp at *
 with_reducible refine (C0.out _ hD).mono ?_
 rintro e w9 ⟨rfl,hb⟩
 replace B:=B.trans (hb.mono B.size)
 replace hD:=hD.keep hb;replace hO:=hO.keep hb;replace hY:=hY.keep hb;replace hP:=hP.keep hb;replace hR:=hR.keep hb
 clear hb W hD hO hY hP
 have gR:=hR.cells;have fR:=hR.free
 go_wp2
 simp [bodyPost,results,Tryz.results25,go_sem,gR]
 repeat (first|with_reducible exact B|with_reducible refine Below.setCell ?_ o3 _)
theorem sq {r s lx ly v dg a b c X Y:Int} {o li:Bool} {A:List Int} (hl:A.length=32) (C0:Hid (∀ w,Mds w→Calls Tryz.prog 40 #[.agg #[.int .u64 (l0 r),.int .u64 (l1 r),.int .u64 (l2 r),.int .u64 (l3 r),.int .u64 (l0 s),.int .u64 (l1 s),.int .u64 (l2 s),.int .u64 (l3 s),.bool o]] w fun e w'=>e = .returned (.int .i64 0)∧Below w.heap.size w w')) (C1:Hid (∀ w,Mds w→Calls Tryz.prog 47 #[.agg #[.int .u64 (l0 r),.int .u64 (l1 r),.int .u64 (l2 r),.int .u64 (l3 r)],.bool o] w fun e w'=>e = .returned (.tuple #[.agg #[.int .u64 (l0 lx),.int .u64 (l1 lx),.int .u64 (l2 lx),.int .u64 (l3 lx),.int .u64 (l0 ly),.int .u64 (l1 ly),.int .u64 (l2 ly),.int .u64 (l3 ly),.bool li],.int .i64 0])∧Below w.heap.size w w')) (C2:Hid (∀ w,Mds w→Calls Tryz.prog 48 #[.agg #[.int .u64 (l0 r),.int .u64 (l1 r),.int .u64 (l2 r),.int .u64 (l3 r)]] w fun e w'=>e = .returned (.agg #[.int .u64 (l0 v),.int .u64 (l1 v),.int .u64 (l2 v),.int .u64 (l3 v)])∧Below w.heap.size w w')) (CN:Hid (∀ w,Mds w→Calls Tryz.prog 30 #[.agg ((A.map fun z=>Value.int .u8 z).toArray)] w fun e w'=>e = .returned (.agg #[.int .u64 (l0 dg),.int .u64 (l1 dg),.int .u64 (l2 dg),.int .u64 (l3 dg)])∧Below w.heap.size w w')) (CO:Hid (∀ w,Mds w→Calls Tryz.prog 51 #[.agg #[.int .u64 (l0 dg),.int .u64 (l1 dg),.int .u64 (l2 dg),.int .u64 (l3 dg)]] w fun e w'=>e = .returned (.agg #[.int .u64 (l0 a),.int .u64 (l1 a),.int .u64 (l2 a),.int .u64 (l3 a)])∧Below w.heap.size w w')) (C3:Hid (∀ w,Mds w→Calls Tryz.prog 50 #[.agg #[.int .u64 (l0 a),.int .u64 (l1 a),.int .u64 (l2 a),.int .u64 (l3 a)],.agg #[.int .u64 (l0 v),.int .u64 (l1 v),.int .u64 (l2 v),.int .u64 (l3 v)]] w fun e w'=>e = .returned (.agg #[.int .u64 (l0 b),.int .u64 (l1 b),.int .u64 (l2 b),.int .u64 (l3 b)])∧Below w.heap.size w w')) (C4:Hid (∀ w,Mds w→Calls Tryz.prog 50 #[.agg #[.int .u64 (l0 s),.int .u64 (l1 s),.int .u64 (l2 s),.int .u64 (l3 s)],.agg #[.int .u64 (l0 v),.int .u64 (l1 v),.int .u64 (l2 v),.int .u64 (l3 v)]] w fun e w'=>e = .returned (.agg #[.int .u64 (l0 c),.int .u64 (l1 c),.int .u64 (l2 c),.int .u64 (l3 c)])∧Below w.heap.size w w')) (CM:Hid (∀ w,Mds w→ar w→Calls Tryz.prog 49 #[.agg #[.int .u64 (l0 b),.int .u64 (l1 b),.int .u64 (l2 b),.int .u64 (l3 b)],.agg #[.int .u64 (l0 c),.int .u64 (l1 c),.int .u64 (l2 c),.int .u64 (l3 c)],.agg #[.int .u64 (l0 lx),.int .u64 (l1 lx),.int .u64 (l2 lx),.int .u64 (l3 lx),.int .u64 (l0 ly),.int .u64 (l1 ly),.int .u64 (l2 ly),.int .u64 (l3 ly),.bool li]] w fun e w'=>e = .returned (.tuple #[.agg #[.int .u64 (l0 X),.int .u64 (l1 X),.int .u64 (l2 X),.int .u64 (l3 X),.int .u64 (l0 Y),.int .u64 (l1 Y),.int .u64 (l2 Y),.int .u64 (l3 Y),.bool true],.int .i64 0])∧Below w.heap.size w w')) (w:World) (hm:Mds w) (hc:ar w) :
    Calls Tryz.prog 25 #[bT A,.agg #[.int .u64 (l0 r),.int .u64 (l1 r),.int .u64 (l2 r),.int .u64 (l3 r),.int .u64 (l0 s),.int .u64 (l1 s),.int .u64 (l2 s),.int .u64 (l3 s),.bool o]] w fun e w'=>e = .returned (.tuple #[.agg #[.int .u64 (l0 0),.int .u64 (l1 0),.int .u64 (l2 0),.int .u64 (l3 0),.int .u64 (l0 0),.int .u64 (l1 0),.int .u64 (l2 0),.int .u64 (l3 0),.bool false],.int .i64 65])∧Below w.heap.size w w':=by
  obtain ⟨z0,z1,z2,z3⟩:=ap
  rw [z0,z1,z2,z3]
  clear z0 z1 z2 z3
  unfold bT at *
  go_enter Tryz.func25,Tryz.ntmps25
  go_wp2_with fail
  refine aa (fun W=>Below w.heap.size w W∧Mds W∧ar W∧HAt W w.heap.size A∧Pnt W (w.heap.size+1) r s o∧Bk9 W (w.heap.size+1+1)) ⟨by repeat (first|with_reducible exact Below.refl _ _|with_reducible refine Below.alloc ?_ (by first|omega|(simp;done)|(simp;omega)) _),((hm.alloc _).alloc _).alloc _,((ar.alloc hc _).alloc _).alloc _,((HAt.new hl rfl).alloc _).alloc _,(Pnt.new (by simp)).alloc _,Bk9.new (by simp)⟩ ?_
  rintro W ⟨B,hD,hO,hY,hP,hR⟩
  have o3:w.heap.size≤w.heap.size+1+1:=by omega
  generalize w.heap.size+1+1=br at *
  generalize w.heap.size+1=bp at *
  with_reducible refine (C0.out _ hD).mono ?_
  rintro e w1 ⟨rfl,hb⟩
  replace B:=B.trans (hb.mono B.size)
  replace hD:=hD.keep hb;replace hO:=hO.keep hb;replace hY:=hY.keep hb;replace hP:=hP.keep hb;replace hR:=hR.keep hb
  clear hb W
  have ghP:=hP.cells
  go_wp2_with fail
  refine aa (fun W=>Below w.heap.size w W∧Mds W∧ar W∧HAt W w.heap.size A∧Pnt W bp r s o∧Bk9 W br) ⟨B,hD,hO,hY,hP,hR⟩ ?_
  clear B hD hO hY hP hR ghP
  rintro W ⟨B,hD,hO,hY,hP,hR⟩
  with_reducible refine (C1.out _ hD).mono ?_
  rintro e w2 ⟨rfl,hb⟩
  replace B:=B.trans (hb.mono B.size)
  replace hD:=hD.keep hb;replace hO:=hO.keep hb;replace hY:=hY.keep hb;replace hP:=hP.keep hb;replace hR:=hR.keep hb
  clear hb W
  have ghP:=fun o=>(hP.alloc o).cells
  go_wp2_with fail
  refine aa (fun W=>Below w.heap.size w W∧Mds W∧ar W∧HAt W w.heap.size A∧Pnt W bp r s o∧Bk9 W br∧Pnt W w2.heap.size lx ly li) ⟨B.alloc B.size _,hD.alloc _,hO.alloc _,hY.alloc _,hP.alloc _,hR.alloc _,Pnt.new rfl⟩ ?_
  clear B hD hO hY hP hR ghP
  rintro W ⟨B,hD,hO,hY,hP,hR,hA⟩
  generalize w2.heap.size=ba at *
  with_reducible refine (C2.out _ hD).mono ?_
  rintro e w3 ⟨rfl,hb⟩
  replace B:=B.trans (hb.mono B.size)
  replace hD:=hD.keep hb;replace hO:=hO.keep hb;replace hY:=hY.keep hb;replace hP:=hP.keep hb;replace hR:=hR.keep hb;replace hA:=hA.keep hb
  clear hb W
  go_wp2_with fail
  refine aj (fun W=>Below w.heap.size w W∧Mds W∧ar W∧HAt W w.heap.size A∧Pnt W bp r s o∧Bk9 W br∧Pnt W ba lx ly li∧Nm W w3.heap.size v) ⟨B.alloc B.size _,hD.alloc _,hO.alloc _,hY.alloc _,hP.alloc _,hR.alloc _,hA.alloc _,Nm.new rfl⟩ ?_
  clear B hD hO hY hP hR hA
  rintro W ⟨B,hD,hO,hY,hP,hR,hA,hV1⟩
  generalize w3.heap.size=bv at *
  refine iH (A:=?AA1) 14 (fun V kk=>put9 V kk X Y true) (by kernel_rfl) (by kernel_rfl) rfl rfl rfl (la _ _ _) (fun V V0 h0 h1=>bi (au h0 h1) h0.size) (fun V hV=>?HH1) (fun V V0 h0 h1=>?EE1) (fun V0 V w1 h0 h1 h2=>?TT1)
  case HH1 =>
    have hDg:∀ d os,Mds (grow (redrawn V d) os):=fun d os=>(hD.keep hV).keep (below_regrown V d os)
    have hOg:∀ d os,ar (grow (redrawn V d) os):=fun d os=>(hO.keep hV).keep (below_regrown V d os)
    have ghP:=(hP.keep hV).grown
    have ghA:=(hA.keep hV).grown
    have ghV1:=(hV1.keep hV).grown
    have ldY:∀ w',(∃ p:Regrown,w'=grow (redrawn V p.d) p.os)→w'.rangeAt w.heap.size 0 (A.map fun z=>Value.int .u8 z):=by rintro w' ⟨p,rfl⟩;exact ((hY.keep hV).keep (below_regrown V p.d p.os)).2
    unfold Gr
    simp only [List.take_succ_cons,List.take_zero]
    repeat
      first
        | go_big_quiet_skip
        | (go_big_quiet_want;go_big_quiet_op;go_big_quiet_on)
        | (go_big_quiet_want;refine bR 26 _ rfl w.heap.size 0 rfl (A.map fun z=>Value.int .u8 z) _ ldY Tryz.underlying26 rfl (by rw [List.length_map,hl];kernel_rfl) ?_;simp only [Act.put,List.setIfInBounds_toArray,List.set_cons_succ,List.set_cons_zero];go_big_quiet_on)
        | (go_big_quiet_want
           go_big_quiet_op
           apply Exists.intro
           refine ⟨fun p=>?_,?_⟩
           · (first|(go_at_call 30;with_reducible exact Calls.regrown_of (CN.out _ (hDg p.d p.os)))|(go_at_call 51;with_reducible exact Calls.regrown_of (CO.out _ (hDg p.d p.os)))|(go_at_call 50;with_reducible exact Calls.regrown_of (C3.out _ (hDg p.d p.os)))|(go_at_call 50;with_reducible exact Calls.regrown_of (C4.out _ (hDg p.d p.os)))|(go_at_call 49;with_reducible exact Calls.regrown_of (CM.out _ (hDg p.d p.os) (hOg p.d p.os))))
           go_big_quiet_on)
    refine wpQuiet_nil ?_
    exact rfl
  case EE1 =>
    obtain ⟨c0,c1,c2,c3,c4,c5,c6,c7,c8⟩:=((Bk9.new rfl).keep h1).cells
    obtain ⟨f0,f1,f2,f3,f4,f5,f6,f7,f8⟩:=((Bk9.new rfl).keep h1).free
    unfold put9
    simp [execOp,Act.put,Act.eval,go_sem,c0,c1,c2,c3,c4,c5,c6,c7,c8,f0,f1,f2,f3,f4,f5,f6,f7,f8]
  case TT1 =>
    have hN:=(((Bk9.new rfl).keep h1).put9 X Y true).keep h2
    have hb:=au h0 h1
    have nhD:V0.heap.size≠1:=Nat.ne_of_gt (Nat.lt_of_lt_of_le hD.lt h0.size)
    have nhO:V0.heap.size≠0:=Nat.ne_of_gt (Nat.lt_of_lt_of_le hO.lt h0.size)
    have nhY:V0.heap.size≠w.heap.size:=Nat.ne_of_gt (Nat.lt_of_lt_of_le hY.lt h0.size)
    have nhP:V0.heap.size≠bp:=Nat.ne_of_gt (Nat.lt_of_lt_of_le hP.lt h0.size)
    have nhR:V0.heap.size≠br:=Nat.ne_of_gt (Nat.lt_of_lt_of_le hR.lt h0.size)
    have nhA:V0.heap.size≠ba:=Nat.ne_of_gt (Nat.lt_of_lt_of_le hA.lt h0.size)
    have nhV1:V0.heap.size≠bv:=Nat.ne_of_gt (Nat.lt_of_lt_of_le hV1.lt h0.size)
    have gn:w.heap.size≤V0.heap.size:=Nat.le_trans B.size h0.size
    have B1:=bi (x':=X) (y':=Y) (j:=true) (B.trans (hb.mono B.size)) gn
    replace B:=B1.trans (h2.mono B1.size)
    replace hD:=((hD.keep hb).put9 nhD).keep h2
    replace hO:=((hO.keep hb).put9 nhO).keep h2
    replace hY:=((hY.keep hb).put9 nhY).keep h2
    replace hP:=((hP.keep hb).put9 nhP).keep h2
    replace hR:=((hR.keep hb).put9b nhR).keep h2
    replace hA:=((hA.keep hb).put9 nhA).keep h2
    replace hV1:=((hV1.keep hb).put9 nhV1).keep h2
    clear hb h0 h1 h2 B1 W gn nhD nhO nhY nhP nhR nhA nhV1
    generalize V0.heap.size=bq at *
    clear V V0
    have gN:=hN.cells
    simp only [List.drop_succ_cons,List.drop_zero,Act.put,List.setIfInBounds_toArray,List.set_cons_zero,List.set_cons_succ]
    have gR:=hR.cells;have fR:=hR.free
    go_wp2
    simp [bodyPost,results,Tryz.results25,go_sem,gR]
    repeat (first|with_reducible exact B|with_reducible refine Below.setCell ?_ o3 _)
theorem xj {r s lx ly v dg a b c X Y:Int} {o li:Bool} {A:List Int} (hl:A.length=32) (C0:Hid (∀ w,Mds w→Calls Tryz.prog 40 #[.agg #[.int .u64 (l0 r),.int .u64 (l1 r),.int .u64 (l2 r),.int .u64 (l3 r),.int .u64 (l0 s),.int .u64 (l1 s),.int .u64 (l2 s),.int .u64 (l3 s),.bool o]] w fun e w'=>e = .returned (.int .i64 0)∧Below w.heap.size w w')) (C1:Hid (∀ w,Mds w→Calls Tryz.prog 47 #[.agg #[.int .u64 (l0 r),.int .u64 (l1 r),.int .u64 (l2 r),.int .u64 (l3 r)],.bool o] w fun e w'=>e = .returned (.tuple #[.agg #[.int .u64 (l0 lx),.int .u64 (l1 lx),.int .u64 (l2 lx),.int .u64 (l3 lx),.int .u64 (l0 ly),.int .u64 (l1 ly),.int .u64 (l2 ly),.int .u64 (l3 ly),.bool li],.int .i64 0])∧Below w.heap.size w w')) (C2:Hid (∀ w,Mds w→Calls Tryz.prog 48 #[.agg #[.int .u64 (l0 r),.int .u64 (l1 r),.int .u64 (l2 r),.int .u64 (l3 r)]] w fun e w'=>e = .returned (.agg #[.int .u64 (l0 v),.int .u64 (l1 v),.int .u64 (l2 v),.int .u64 (l3 v)])∧Below w.heap.size w w')) (CN:Hid (∀ w,Mds w→Calls Tryz.prog 30 #[.agg ((A.map fun z=>Value.int .u8 z).toArray)] w fun e w'=>e = .returned (.agg #[.int .u64 (l0 dg),.int .u64 (l1 dg),.int .u64 (l2 dg),.int .u64 (l3 dg)])∧Below w.heap.size w w')) (CO:Hid (∀ w,Mds w→Calls Tryz.prog 51 #[.agg #[.int .u64 (l0 dg),.int .u64 (l1 dg),.int .u64 (l2 dg),.int .u64 (l3 dg)]] w fun e w'=>e = .returned (.agg #[.int .u64 (l0 a),.int .u64 (l1 a),.int .u64 (l2 a),.int .u64 (l3 a)])∧Below w.heap.size w w')) (C3:Hid (∀ w,Mds w→Calls Tryz.prog 50 #[.agg #[.int .u64 (l0 a),.int .u64 (l1 a),.int .u64 (l2 a),.int .u64 (l3 a)],.agg #[.int .u64 (l0 v),.int .u64 (l1 v),.int .u64 (l2 v),.int .u64 (l3 v)]] w fun e w'=>e = .returned (.agg #[.int .u64 (l0 b),.int .u64 (l1 b),.int .u64 (l2 b),.int .u64 (l3 b)])∧Below w.heap.size w w')) (C4:Hid (∀ w,Mds w→Calls Tryz.prog 50 #[.agg #[.int .u64 (l0 s),.int .u64 (l1 s),.int .u64 (l2 s),.int .u64 (l3 s)],.agg #[.int .u64 (l0 v),.int .u64 (l1 v),.int .u64 (l2 v),.int .u64 (l3 v)]] w fun e w'=>e = .returned (.agg #[.int .u64 (l0 c),.int .u64 (l1 c),.int .u64 (l2 c),.int .u64 (l3 c)])∧Below w.heap.size w w')) (CM:Hid (∀ w,Mds w→ar w→Calls Tryz.prog 49 #[.agg #[.int .u64 (l0 b),.int .u64 (l1 b),.int .u64 (l2 b),.int .u64 (l3 b)],.agg #[.int .u64 (l0 c),.int .u64 (l1 c),.int .u64 (l2 c),.int .u64 (l3 c)],.agg #[.int .u64 (l0 lx),.int .u64 (l1 lx),.int .u64 (l2 lx),.int .u64 (l3 lx),.int .u64 (l0 ly),.int .u64 (l1 ly),.int .u64 (l2 ly),.int .u64 (l3 ly),.bool li]] w fun e w'=>e = .returned (.tuple #[.agg #[.int .u64 (l0 X),.int .u64 (l1 X),.int .u64 (l2 X),.int .u64 (l3 X),.int .u64 (l0 Y),.int .u64 (l1 Y),.int .u64 (l2 Y),.int .u64 (l3 Y),.bool false],.int .i64 0])∧Below w.heap.size w w')) (w:World) (hm:Mds w) (hc:ar w) :
    Calls Tryz.prog 25 #[bT A,.agg #[.int .u64 (l0 r),.int .u64 (l1 r),.int .u64 (l2 r),.int .u64 (l3 r),.int .u64 (l0 s),.int .u64 (l1 s),.int .u64 (l2 s),.int .u64 (l3 s),.bool o]] w fun e w'=>e = .returned (.tuple #[.agg #[.int .u64 (l0 X),.int .u64 (l1 X),.int .u64 (l2 X),.int .u64 (l3 X),.int .u64 (l0 Y),.int .u64 (l1 Y),.int .u64 (l2 Y),.int .u64 (l3 Y),.bool false],.int .i64 0])∧Below w.heap.size w w':=by
  unfold bT at *
  go_enter Tryz.func25,Tryz.ntmps25
  go_wp2_with fail
  refine aa (fun W=>Below w.heap.size w W∧Mds W∧ar W∧HAt W w.heap.size A∧Pnt W (w.heap.size+1) r s o∧Bk9 W (w.heap.size+1+1)) ⟨by repeat (first|with_reducible exact Below.refl _ _|with_reducible refine Below.alloc ?_ (by first|omega|(simp;done)|(simp;omega)) _),((hm.alloc _).alloc _).alloc _,((ar.alloc hc _).alloc _).alloc _,((HAt.new hl rfl).alloc _).alloc _,(Pnt.new (by simp)).alloc _,Bk9.new (by simp)⟩ ?_
  rintro W ⟨B,hD,hO,hY,hP,hR⟩
  have o3:w.heap.size≤w.heap.size+1+1:=by omega
  generalize w.heap.size+1+1=br at *
  generalize w.heap.size+1=bp at *
  with_reducible refine (C0.out _ hD).mono ?_
  rintro e w1 ⟨rfl,hb⟩
  replace B:=B.trans (hb.mono B.size)
  replace hD:=hD.keep hb;replace hO:=hO.keep hb;replace hY:=hY.keep hb;replace hP:=hP.keep hb;replace hR:=hR.keep hb
  clear hb W
  have ghP:=hP.cells
  go_wp2_with fail
  refine aa (fun W=>Below w.heap.size w W∧Mds W∧ar W∧HAt W w.heap.size A∧Pnt W bp r s o∧Bk9 W br) ⟨B,hD,hO,hY,hP,hR⟩ ?_
  clear B hD hO hY hP hR ghP
  rintro W ⟨B,hD,hO,hY,hP,hR⟩
  with_reducible refine (C1.out _ hD).mono ?_
  rintro e w2 ⟨rfl,hb⟩
  replace B:=B.trans (hb.mono B.size)
  replace hD:=hD.keep hb;replace hO:=hO.keep hb;replace hY:=hY.keep hb;replace hP:=hP.keep hb;replace hR:=hR.keep hb
  clear hb W
  have ghP:=fun o=>(hP.alloc o).cells
  go_wp2_with fail
  refine aa (fun W=>Below w.heap.size w W∧Mds W∧ar W∧HAt W w.heap.size A∧Pnt W bp r s o∧Bk9 W br∧Pnt W w2.heap.size lx ly li) ⟨B.alloc B.size _,hD.alloc _,hO.alloc _,hY.alloc _,hP.alloc _,hR.alloc _,Pnt.new rfl⟩ ?_
  clear B hD hO hY hP hR ghP
  rintro W ⟨B,hD,hO,hY,hP,hR,hA⟩
  generalize w2.heap.size=ba at *
  with_reducible refine (C2.out _ hD).mono ?_
  rintro e w3 ⟨rfl,hb⟩
  replace B:=B.trans (hb.mono B.size)
  replace hD:=hD.keep hb;replace hO:=hO.keep hb;replace hY:=hY.keep hb;replace hP:=hP.keep hb;replace hR:=hR.keep hb;replace hA:=hA.keep hb
  clear hb W
  go_wp2_with fail
  refine aj (fun W=>Below w.heap.size w W∧Mds W∧ar W∧HAt W w.heap.size A∧Pnt W bp r s o∧Bk9 W br∧Pnt W ba lx ly li∧Nm W w3.heap.size v) ⟨B.alloc B.size _,hD.alloc _,hO.alloc _,hY.alloc _,hP.alloc _,hR.alloc _,hA.alloc _,Nm.new rfl⟩ ?_
  clear B hD hO hY hP hR hA
  rintro W ⟨B,hD,hO,hY,hP,hR,hA,hV1⟩
  generalize w3.heap.size=bv at *
  refine iH (A:=?AA1) 14 (fun V kk=>put9 V kk X Y false) (by kernel_rfl) (by kernel_rfl) rfl rfl rfl (la _ _ _) (fun V V0 h0 h1=>bi (au h0 h1) h0.size) (fun V hV=>?HH1) (fun V V0 h0 h1=>?EE1) (fun V0 V w1 h0 h1 h2=>?TT1)
  case HH1 =>
    have hDg:∀ d os,Mds (grow (redrawn V d) os):=fun d os=>(hD.keep hV).keep (below_regrown V d os)
    have hOg:∀ d os,ar (grow (redrawn V d) os):=fun d os=>(hO.keep hV).keep (below_regrown V d os)
    have ghP:=(hP.keep hV).grown
    have ghA:=(hA.keep hV).grown
    have ghV1:=(hV1.keep hV).grown
    have ldY:∀ w',(∃ p:Regrown,w'=grow (redrawn V p.d) p.os)→w'.rangeAt w.heap.size 0 (A.map fun z=>Value.int .u8 z):=by rintro w' ⟨p,rfl⟩;exact ((hY.keep hV).keep (below_regrown V p.d p.os)).2
    unfold Gr
    simp only [List.take_succ_cons,List.take_zero]
    repeat
      first
        | go_big_quiet_skip
        | (go_big_quiet_want;go_big_quiet_op;go_big_quiet_on)
        | (go_big_quiet_want;refine bR 26 _ rfl w.heap.size 0 rfl (A.map fun z=>Value.int .u8 z) _ ldY Tryz.underlying26 rfl (by rw [List.length_map,hl];kernel_rfl) ?_;simp only [Act.put,List.setIfInBounds_toArray,List.set_cons_succ,List.set_cons_zero];go_big_quiet_on)
        | (go_big_quiet_want
           go_big_quiet_op
           apply Exists.intro
           refine ⟨fun p=>?_,?_⟩
           · (first|(go_at_call 30;with_reducible exact Calls.regrown_of (CN.out _ (hDg p.d p.os)))|(go_at_call 51;with_reducible exact Calls.regrown_of (CO.out _ (hDg p.d p.os)))|(go_at_call 50;with_reducible exact Calls.regrown_of (C3.out _ (hDg p.d p.os)))|(go_at_call 50;with_reducible exact Calls.regrown_of (C4.out _ (hDg p.d p.os)))|(go_at_call 49;with_reducible exact Calls.regrown_of (CM.out _ (hDg p.d p.os) (hOg p.d p.os))))
           go_big_quiet_on)
    refine wpQuiet_nil ?_
    exact rfl
  case EE1 =>
    obtain ⟨c0,c1,c2,c3,c4,c5,c6,c7,c8⟩:=((Bk9.new rfl).keep h1).cells
    obtain ⟨f0,f1,f2,f3,f4,f5,f6,f7,f8⟩:=((Bk9.new rfl).keep h1).free
    unfold put9
    simp [execOp,Act.put,Act.eval,go_sem,c0,c1,c2,c3,c4,c5,c6,c7,c8,f0,f1,f2,f3,f4,f5,f6,f7,f8]
  case TT1 =>
    have hN:=(((Bk9.new rfl).keep h1).put9 X Y false).keep h2
    have hb:=au h0 h1
    have nhD:V0.heap.size≠1:=Nat.ne_of_gt (Nat.lt_of_lt_of_le hD.lt h0.size)
    have nhO:V0.heap.size≠0:=Nat.ne_of_gt (Nat.lt_of_lt_of_le hO.lt h0.size)
    have nhY:V0.heap.size≠w.heap.size:=Nat.ne_of_gt (Nat.lt_of_lt_of_le hY.lt h0.size)
    have nhP:V0.heap.size≠bp:=Nat.ne_of_gt (Nat.lt_of_lt_of_le hP.lt h0.size)
    have nhR:V0.heap.size≠br:=Nat.ne_of_gt (Nat.lt_of_lt_of_le hR.lt h0.size)
    have nhA:V0.heap.size≠ba:=Nat.ne_of_gt (Nat.lt_of_lt_of_le hA.lt h0.size)
    have nhV1:V0.heap.size≠bv:=Nat.ne_of_gt (Nat.lt_of_lt_of_le hV1.lt h0.size)
    have gn:w.heap.size≤V0.heap.size:=Nat.le_trans B.size h0.size
    have B1:=bi (x':=X) (y':=Y) (j:=false) (B.trans (hb.mono B.size)) gn
    replace B:=B1.trans (h2.mono B1.size)
    replace hD:=((hD.keep hb).put9 nhD).keep h2
    replace hO:=((hO.keep hb).put9 nhO).keep h2
    replace hY:=((hY.keep hb).put9 nhY).keep h2
    replace hP:=((hP.keep hb).put9 nhP).keep h2
    replace hR:=((hR.keep hb).put9b nhR).keep h2
    replace hA:=((hA.keep hb).put9 nhA).keep h2
    replace hV1:=((hV1.keep hb).put9 nhV1).keep h2
    clear hb h0 h1 h2 B1 W gn nhD nhO nhY nhP nhR nhA nhV1
    generalize V0.heap.size=bq at *
    clear V V0
    have gN:=hN.cells
    simp only [List.drop_succ_cons,List.drop_zero,Act.put,List.setIfInBounds_toArray,List.set_cons_zero,List.set_cons_succ]
    have gR:=hR.cells;have fR:=hR.free
    go_wp2
    simp [bodyPost,results,Tryz.results25,go_sem,gR]
    repeat (first|with_reducible exact B|with_reducible refine Below.setCell ?_ o3 _)
open Go.RowKit Go.Sort
theorem qa {x y x' y':Int} {i j:Bool} (hx:Num x) (hy:Num y) (hx':Num x') (hy':Num y') (w:World) :
  (Op.equalIn 10000 28 (.agg #[.int .u64 (l0 x),.int .u64 (l1 x),.int .u64 (l2 x),.int .u64 (l3 x),.int .u64 (l0 y),.int .u64 (l1 y),.int .u64 (l2 y),.int .u64 (l3 y),.bool i]) (.agg #[.int .u64 (l0 x'),.int .u64 (l1 x'),.int .u64 (l2 x'),.int .u64 (l3 x'),.int .u64 (l0 y'),.int .u64 (l1 y'),.int .u64 (l2 y'),.int .u64 (l3 y'),.bool j])).run Tryz.prog w = .ok (decide (x=x')&&(decide (y=y')&&(i==j))) w:=by
 have e1:=j6 hx hx'
 have e2:=j6 hy hy'
 have tf : (Tryz.prog.fieldsOf 28) = #[{ name := "R", type := 24, offset := 0, embedded := false, tag := "", pkgPath := "", byteOffset := 0 }, { name := "S", type := 24, offset := 4, embedded := false, tag := "", pkgPath := "", byteOffset := 32 }, { name := "Odd", type := 4, offset := 8, embedded := false, tag := "", pkgPath := "", byteOffset := 64 }] := by
  unfold Program.fieldsOf;rw [Tryz.underlying28]
 rw [show (10000:Nat)=9999+1 from rfl,run_equalIn_struct w 9999 _ _ _ (by rw [tf];exact Tryz.underlying28) (by kernel_rfl),tf]
 have tu:=Tryz.underlying4
 have ta:=Tryz.isAgg4
 have tz:=Tryz.sizeOf4
 have ta':=Tryz.isAgg24
 have tz':=Tryz.sizeOf24
 simp only [Op.eqFields]
 go_simp
 by_cases h1:x=x'<;>by_cases h2:y=y'<;>by_cases h3:i=j<;>simp [h1,h2,h3]
open Go.RowKit Go.Sort
theorem Nm.newb {W:World} {b:Nat} {t:TypeId} {n:Int} (e:b=W.heap.size):Nm (W.alloc (.cells #[.int .u64 (l0 n),.int .u64 (l1 n),.int .u64 (l2 n),.int .u64 (l3 n)] t)) b n:=Cl.new _ e rfl
open Go.RowKit Go.Sort
theorem xk {t non:Int} (hn:0≤non) (hz:ac nN non≠0) (ht:ac nN t=t):ac nN (ac nN (t*aR nN non)*non)=t:=by
 have e:=EC.inv_n hn hz
 unfold ac at *
 have h1:(t*aR nN non%nN*non)%nN=(t*(non*aR nN non%nN))%nN:=by
  rw [Int.mul_emod,Int.emod_emod_of_dvd _ (Int.dvd_refl _),←Int.mul_emod,Int.mul_emod t (non*aR nN non%nN),Int.emod_emod_of_dvd _ (Int.dvd_refl _),←Int.mul_emod]
  congr 1
  rw [Int.mul_assoc,Int.mul_comm (aR nN non) non]
 rw [h1,e,Int.mul_one,ht]
theorem yt:mQ nN 1=57896044618658097711785492504343953926418782139537452191302581570759080747168:=by decide +kernel
theorem qX:nN=115792089237316195423570985008687907852837564279074904382605163141518161494337:=rfl
theorem de {x:Int}:0≤ac nN x∧ac nN x<nN:=cQ eN x
theorem ji {s:Int} (h0:0<s) (h1:s<nN):ac nN (0-s)=nN-s:=by
 unfold ac
 have:(0-s)%nN=(0-s+nN)%nN:=by rw [Int.add_emod_right]
 rw [this,Int.emod_eq_of_lt (by omega) (by omega)]
 omega
theorem oL {x:Int} (h0:x≠0) (h1:x<nN):bW x=true:=by unfold bW;simp [h0,h1]
open Go.RowKit Go.Sort
theorem qZ {X Y:Int} {j:Bool} (h:Vd X Y j):Vd X (ac pN (0-Y)) j∧aS X (ac pN (0-Y)) j=(aS X Y j).neg:=by
 cases j with
 | true=>obtain ⟨rfl,rfl⟩:=h;exact ⟨⟨rfl,rfl⟩,rfl⟩
 | false =>
  have en:EC.fp (ac pN (0-Y)) = -EC.fp Y:=by
   rw [EC.fp_mod,EC.fp_sub,EC.fp_zero]
   generalize EC.fp Y=y
   grind -lia -linarith
  have e:aS X (ac pN (0-Y)) false=(aS X Y false).neg:=by
   show EC.Pt.a _ _=EC.Pt.a _ _
   rw [en]
  refine ⟨⟨h.1,EC.low_mod _,?_⟩,e⟩
  rw [e]
  have h0:EC.fp Y*EC.fp Y=EC.fp X*EC.fp X*EC.fp X+7:=h.2.2
  show -EC.fp Y * -EC.fp Y=EC.fp X*EC.fp X*EC.fp X+7
  generalize EC.fp Y=y at *; generalize EC.fp X=x at *
  grind -lia -linarith
theorem qb {s:Int} (h0:0<s) (h1:s<nN):lowN (ac nN (0-s)) = !lowN s:=by
 unfold lowN
 rw [ji h0 h1,yt,qX]
 by_cases h:s≤57896044618658097711785492504343953926418782139537452191302581570759080747168
 ·rw [decide_eq_true h,decide_eq_false (by omega)];rfl
 ·rw [decide_eq_false h,decide_eq_true (by rw [qX] at h1;omega)];rfl
theorem lg {X Y:Int} (h:Vd X Y false):oddB (ac pN (0-Y)) = !oddB Y:=by
 have hy:Y≠0:=fun e=>by
  subst e
  have h0:EC.fp 0*EC.fp 0=EC.fp X*EC.fp X*EC.fp X+7:=h.2.2
  rw [EC.fp_zero] at h0
  refine EC.no_two_p (EC.fp X) ?_
  rw [←h0]
  decide +kernel
 obtain ⟨a,b⟩:=h.2.1
 have e:ac pN (0-Y)=pN-Y:=by
  unfold ac
  have:(0-Y)%pN=(0-Y+pN)%pN:=by rw [Int.add_emod_right]
  rw [this,Int.emod_eq_of_lt (by omega) (by omega)]
  omega
 rw [EC.pN_is] at b
 rw [e,EC.pN_is]
 unfold oddB ij
 rw [if_neg (by decide),if_neg (by decide)]
 simp only [show (0:Int).toNat=0 from rfl,Int.pow_zero,Int.ediv_one]
 by_cases h1:Y%2=1
 ·rw [decide_eq_true h1,decide_eq_false (by omega)];rfl
 ·rw [decide_eq_false h1,decide_eq_true (by omega)];rfl
theorem sr {non:Int} (h0:0<non) (h1:non<nN):EC.smul (ac nN (0-non)).toNat EC.gJ.pt=(EC.smul non.toNat EC.gJ.pt).neg:=by
 rw [ji h0 h1]
 have hn:non.toNat≤115792089237316195423570985008687907852837564279074904382605163141518161494337:=by rw [qX] at h1;omega
 rw [EC.base_g.neg hn]
 congr 1
 rw [qX];omega
open Go.RowKit Go.Sort
theorem nk {x:Int} (hx:Num x) (h:dA x) (i:Bool):Vd x (dt i x) false:=by
 obtain ⟨h1,h2⟩:=h
 have lx:EC.Low x:=⟨hx.1,h1⟩
 have hc:ac pN (aD pN (bV x) qN*aD pN (bV x) qN)=ac pN (bV x):=by
  unfold kH at h2
  by_cases e:ac pN (aD pN (bV x) qN*aD pN (bV x) qN)=ac pN (bV x)
  ·exact e
  ·rw [if_neg e] at h2;exact absurd h2 (by decide)
 have hr:=r8 hc
 have lr:EC.Low (bG (bV x)):=by
  have:=iV (ef am (bV x) qN).1 (ef am (bV x) qN).2
  unfold bG
  rw [if_pos hc]
  exact ⟨this.2.1,this.2.2.1⟩
 have base:Vd x (bG (bV x)) false:=by
  refine ⟨lx,lr,?_⟩
  have e:=congrArg EC.fp hr
  unfold bV at e
  simp only [EC.fp_mod,EC.fp_mul,EC.fp_add] at e
  rw [show EC.fp 7=7 by decide +kernel] at e
  show EC.fp _*EC.fp _=_
  unfold bV
  exact e
 have el:dt i x=if i then ac pN (0-bG (bV x)) else bG (bV x):=by
  unfold dt;rw [if_pos ⟨h1,h2⟩]
 rw [el]
 cases i with
 | false=>exact base
 | true=>exact (qZ base).1
open Go.RowKit Go.Sort
theorem uN {r s:Int} {od:Bool} (hr:Num r) (hs:Num s):∀ w,(Op.equalIn 10000 28 (.agg #[.int .u64 (l0 r),.int .u64 (l1 r),.int .u64 (l2 r),.int .u64 (l3 r),.int .u64 (l0 s),.int .u64 (l1 s),.int .u64 (l2 s),.int .u64 (l3 s),.bool od]) (.agg #[.int .u64 (l0 r),.int .u64 (l1 r),.int .u64 (l2 r),.int .u64 (l3 r),.int .u64 (l0 s),.int .u64 (l1 s),.int .u64 (l2 s),.int .u64 (l3 s),.bool od])).run Tryz.prog w = .ok true w:=fun w=>by
 have:=qa (i:=od) (j:=od) hr hs hr hs w
 simpa using this
open Go.RowKit Go.Sort
theorem xl {r s:Int} (h:ku r s=0):bW r=true∧bW s=true∧lowN s=true:=by
 unfold ku at h
 cases h1:bW r with
 | false=>rw [h1,if_pos rfl] at h;exact absurd h (by decide)
 | true =>
  rw [h1,if_neg (by decide)] at h
  cases h2:bW s with
  | false=>rw [h2,if_pos rfl] at h;exact absurd h (by decide)
  | true =>
   rw [h2,if_neg (by decide)] at h
   cases h3:lowN s with
   | false=>rw [h3,if_pos rfl] at h;exact absurd h (by decide)
   | true=>exact ⟨rfl,rfl,rfl⟩
def mc (r:Int) (A:List Int):Int:=ac nN (ac nN (0-dgN A)*aR nN r)
def me (r s:Int):Int:=ac nN (s*aR nN r)
theorem oM {r s X Y:Int} {o j:Bool} {A:List Int} (hr:Num r) (hs:Num s) (hA:fJ A) (hl:A.length=32) (h:ku r s=0) (h2:dA r) (hj:Vd X Y j)
  (ej:aS X Y j=(EC.smul (mc r A).toNat EC.gJ.pt).add (EC.smul (me r s).toNat (aS r (dt o r) false))):∀ w,Mds w→ar w→Calls Tryz.prog 25 #[bT A,.agg #[.int .u64 (l0 r),.int .u64 (l1 r),.int .u64 (l2 r),.int .u64 (l3 r),.int .u64 (l0 s),.int .u64 (l1 s),.int .u64 (l2 s),.int .u64 (l3 s),.bool o]] w fun e w'=>e = .returned (.tuple #[.agg #[.int .u64 (l0 (if j then 0 else X)),.int .u64 (l1 (if j then 0 else X)),.int .u64 (l2 (if j then 0 else X)),.int .u64 (l3 (if j then 0 else X)),.int .u64 (l0 (if j then 0 else Y)),.int .u64 (l1 (if j then 0 else Y)),.int .u64 (l2 (if j then 0 else Y)),.int .u64 (l3 (if j then 0 else Y)),.bool false],.int .i64 (if j then 65 else 0)])∧Below w.heap.size w w':=fun w hm hc=>by
 have C0:=im (o:=o) hr hs
 rw [h] at C0
 obtain ⟨f1,_,_⟩:=xl h
 obtain ⟨r0,r1⟩:=fV f1
 have hz:ac nN r≠0:=by rw [cw hr.1 r1];exact r0
 have C1:=fun w hm=>sa hr o w hm
 have e1:my r=0:=by unfold my;rw [if_pos h2]
 have e2:iW r=r:=by unfold iW;rw [if_pos h2]
 rw [e1,e2] at C1
 have hv:=nk hr h2 o
 have nv:Num (aR nN r):=dr eN _ _
 have CN:Hid (∀ w,Mds w→Calls Tryz.prog 30 #[.agg ((A.map fun z=>Value.int .u8 z).toArray)] w fun e w'=>e = .returned (.agg #[.int .u64 (l0 (dgN A)),.int .u64 (l1 (dgN A)),.int .u64 (l2 (dgN A)),.int .u64 (l3 (dgN A))])∧Below w.heap.size w w'):=fun w hm=>fQ hA hl w hm
 have CO:=oe (x:=dgN A) (ag eN _)
 have C3:Hid (∀ w,Mds w→Calls Tryz.prog 50 #[.agg #[.int .u64 (l0 (ac nN (0-dgN A))),.int .u64 (l1 (ac nN (0-dgN A))),.int .u64 (l2 (ac nN (0-dgN A))),.int .u64 (l3 (ac nN (0-dgN A)))],.agg #[.int .u64 (l0 (aR nN r)),.int .u64 (l1 (aR nN r)),.int .u64 (l2 (aR nN r)),.int .u64 (l3 (aR nN r))]] w fun e w'=>e = .returned (.agg #[.int .u64 (l0 (mc r A)),.int .u64 (l1 (mc r A)),.int .u64 (l2 (mc r A)),.int .u64 (l3 (mc r A))])∧Below w.heap.size w w'):=gE (ag eN _) nv
 have C4:Hid (∀ w,Mds w→Calls Tryz.prog 50 #[.agg #[.int .u64 (l0 s),.int .u64 (l1 s),.int .u64 (l2 s),.int .u64 (l3 s)],.agg #[.int .u64 (l0 (aR nN r)),.int .u64 (l1 (aR nN r)),.int .u64 (l2 (aR nN r)),.int .u64 (l3 (aR nN r))]] w fun e w'=>e = .returned (.agg #[.int .u64 (l0 (me r s)),.int .u64 (l1 (me r s)),.int .u64 (l2 (me r s)),.int .u64 (l3 (me r s))])∧Below w.heap.size w w'):=gE hs nv
 have CM:=fun w hm hc=>oJ (a:=mc r A) (b:=me r s) (ag eN _) (ag eN _) hv hj ej w hm hc
 cases j with
 | true=>exact sq hl C0 C1 (kw hr hz) CN CO C3 C4 CM w hm hc
 | false=>exact xj hl C0 C1 (kw hr hz) CN CO C3 C4 CM w hm hc
open Go.RowKit Go.Sort
theorem ss {p:EC.Pt} (hp:EC.On p) (k:Nat):EC.smul (k%115792089237316195423570985008687907852837564279074904382605163141518161494337) p=EC.smul k p:=by
 have e:=Nat.div_add_mod k 115792089237316195423570985008687907852837564279074904382605163141518161494337
 conv=>rhs;rw [←e]
 rw [EC.smul_add hp,EC.smul_mul hp,EC.ord_all hp,EC.smul_o]
 rfl
def sm (a:Int) (P:EC.Pt):EC.Pt:=EC.smul (ac nN a).toNat P
theorem jk {a:Int} {P:EC.Pt} (hP:EC.On P) (h:0≤a):EC.smul a.toNat P=sm a P:=by
 unfold sm
 rw [←ss hP a.toNat]
 have e:a.toNat%115792089237316195423570985008687907852837564279074904382605163141518161494337=(ac nN a).toNat:=by
  show _=(a%nN).toNat
  rw [EC.nN_is]
  omega
 rw [e]
theorem uO {a b:Int} {P:EC.Pt} (h:ac nN a=ac nN b):sm a P=sm b P:=by unfold sm;rw [h]
theorem yu {a b:Int} {P:EC.Pt} (hP:EC.On P):sm (a+b) P=(sm a P).add (sm b P):=by
 have a0:=(de (x:=a)).1
 have b0:=(de (x:=b)).1
 rw [uO (show ac nN (a+b)=ac nN (ac nN a+ac nN b) by rw [iq,dW]),←jk hP (by omega),Int.toNat_add a0 b0,EC.smul_add hP]
 rfl
theorem yv {a b:Int} {P:EC.Pt} (hP:EC.On P):sm (a*b) P=sm a (sm b P):=by
 have a0:=(de (x:=a)).1
 have b0:=(de (x:=b)).1
 rw [uO (show ac nN (a*b)=ac nN (ac nN b*ac nN a) by rw [cu,cv,Int.mul_comm]),←jk hP (Int.mul_nonneg b0 a0),Int.toNat_mul b0 a0,EC.smul_mul hP]
 rfl
theorem uP {r:Int} {A:List Int} (hr:0≤r) (hz:ac nN r≠0):ac nN (r*mc r A)=ac nN (0-dgN A):=by
 have i:=EC.inv_n hr hz
 unfold mc
 rw [cv,show r*(ac nN (0-dgN A)*aR nN r)=ac nN (0-dgN A)*(r*aR nN r) by rw [Int.mul_left_comm],←cv,i,Int.mul_one,fN]
theorem uQ {r s:Int} (hr:0≤r) (hz:ac nN r≠0):ac nN (r*me r s)=ac nN s:=by
 have i:=EC.inv_n hr hz
 unfold me
 rw [cv,show r*(s*aR nN r)=s*(r*aR nN r) by rw [Int.mul_left_comm],←cv,i,Int.mul_one]
end Go.Proofs.YtnnnaajgjniiaaaGreatDoor
