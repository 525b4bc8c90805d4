import Derived.Test.YtjoandmehahfgaaGreatDoorAb
import Derived.Test.YtjoandmehahfgaaGreatDoorFFermat
import Derived.Test.YtjoandmehahfgaaGreatDoorGet
import Derived.Test.YtjoandmehahfgaaGreatDoorCLaid
import Derived.Test.YtjoandmehahfgaaGreatDoorCSumK
import Derived.Test.YtjoandmehahfgaaGreatDoorMul2
import Derived.Maps.AppendAt
import Derived.Test.YtjoandmehahfgaaGreatDoorRowB
import Derived.Lib.AppendZerosOnto
set_option maxRecDepth 100000
set_option maxHeartbeats 8000000
namespace Go.Proofs.YtjoandmehahfgaaGreatDoor
open Go.RowKit Go.Sort
theorem cg {P:Program} {C:World→Prop} {a:Act} {o:Oper} {K:Act→Prop} (ty:TypeId) (x:Operand) (ho:o.op = .load ty x)
  (b f:Nat) (hx:a.eval x = .pointer (some ⟨b,f,none⟩)) (cs:List Value) (d:TypeDesc) (hS:∀ w,C w→w.rangeAt b f cs)
  (hu:P.underlying ty=some d) (hd:d.isRow=true) (hi:(P.info? ty).map (·.size)=some cs.length) (h:K (a.put o.dst (.agg cs.toArray))):o.quiet P a C K :=
 ⟨.agg cs.toArray,fun w hw=>by
  unfold Oper.quietAt execOp
  simp only [ho,hx,Instr.loadAt,Instr.sureAddr,Sem.run_bind,Sem.run_pure,Result.andThen_ok,run_loadVar_mid w b f ty cs d (hS w hw) hu hd hi]
  exact ⟨rfl,rfl⟩,h⟩
def HAt (W:World) (b:Nat) (A:List Int):Prop:=A.length=32∧W.rangeAt b 0 (A.map fun z=>Value.int .u8 z)
theorem HAt.lt {W:World} {b:Nat} {A:List Int} (h:HAt W b A):b<W.heap.size:=by
 have hl:0<A.length:=by rw [h.1];decide
 exact World.block_lt_of_cell? W _ (h.2 0 _ (List.getElem?_eq_getElem (by simpa using hl)))
theorem HAt.keep {W w1:World} {b:Nat} {A:List Int} (h:HAt W b A) (hb:Below W.heap.size W w1):HAt w1 b A:=⟨h.1,fun j v hv=>cell_keep hb (h.2 j v hv)⟩
theorem HAt.alloc {W:World} {b:Nat} {A:List Int} (h:HAt W b A) (ob:Obj):HAt (W.alloc ob) b A:=h.keep ((Below.refl _ _).alloc (Nat.le_refl _) ob)
theorem HAt.put9 {W:World} {b b':Nat} {A:List Int} {x' y':Int} {j:Bool} (h:HAt W b A) (ne:b'≠b):HAt (Go.Proofs.YtjoandmehahfgaaGreatDoor.put9 W b' x' y' j) b A:=⟨h.1,fun k v hv=>by
 unfold Go.Proofs.YtjoandmehahfgaaGreatDoor.put9
 exact aG (aG (aG (aG (aG (aG (aG (aG (aG (h.2 k v hv) ne) ne) ne) ne) ne) ne) ne) ne) ne⟩
theorem HAt.new {W:World} {b:Nat} {A:List Int} {t:TypeId} (hl:A.length=32) (e:b=W.heap.size):HAt (W.alloc (.cells ((A.map fun z=>Value.int .u8 z).toArray) t)) b A:=⟨hl,fun j v hv=>by
 subst e
 rw [Nat.zero_add]
 simpa [go_sem] using hv⟩
theorem kJ (dst:Option Tmp) (pos:String) (ty:TypeId) (ρ:Operand→Value) (w:World):(execOp ρ { dst:=dst,op:=Op.alloc 43,type:=ty,pos:=pos,after:=#[],guard:=none }).run Tryz.prog w = .ok (.value (.pointer (some ⟨w.heap.size,0,none⟩))) (w.alloc (.cells #[.int .u64 0,.int .u64 0,.int .u64 0,.int .u64 0,.int .u64 0,.int .u64 0,.int .u64 0,.int .u64 0,.bool false] 43)):=by
 simp [execOp,go_sem]
theorem yD {key non:Int} {A:List Int} (hl:A.length=32) (C0:Hid (∀ w,Mds w→Rt 20 #[U4 key] w (.bool false))) (w:World) (hm:Mds w) (hc:ar w) :
  Rt 24 #[U4 key,U4 non,cn A] w (.tuple #[.agg #[.int .u64 (l0 0),.int .u64 (l1 0),.int .u64 (l2 0),.int .u64 (l3 0),.int .u64 (l0 0),.int .u64 (l1 0),.int .u64 (l2 0),.int .u64 (l3 0),.bool false],.int .i64 60]):=by
 obtain ⟨z0,z1,z2,z3⟩:=ap
 ((try unfold Rt);(try unfold U4);(try unfold P9);rw [z0,z1,z2,z3])
 clear z0 z1 z2 z3
 unfold cn at *
 go_enter Tryz.func24,Tryz.ntmps24
 go_wp2_with fail
 refine aa (fun W=>Below w.heap.size w W∧Mds W∧ar W∧Nm W w.heap.size key∧Nm W (w.heap.size+1) non∧HAt W (w.heap.size+1+1) A∧Bk9 W (w.heap.size+1+1+1)) ⟨by repeat (first|with_reducible exact Below.refl _ _|with_reducible refine Below.alloc ?_ (by first|omega|(simp;done)|(simp;omega)) _),(((hm.alloc _).alloc _).alloc _).alloc _,(((ar.alloc hc _).alloc _).alloc _).alloc _,((Nm.alloc (Cl.new _ rfl rfl) _).alloc _).alloc _,(Nm.alloc (Cl.new _ (by simp) rfl) _).alloc _,(HAt.new hl (by simp)).alloc _,Bk9.new (by simp)⟩ ?_
 rintro W ⟨B,hD,hO,hK,hE,hY,hR⟩
 have o3:w.heap.size≤w.heap.size+1+1+1:=by omega
 generalize w.heap.size+1+1+1=br at *
 generalize w.heap.size+1+1=bd at *
 generalize w.heap.size+1=bn at *
 with_reducible refine (C0.out _ hD).mono ?_
 rintro e w9 ⟨rfl,hb⟩
 replace B:=B.trans (hb.mono B.size)
 replace hD:=hD.keep hb;replace hO:=hO.keep hb;replace hK:=hK.keep hb;replace hE:=hE.keep hb;replace hY:=hY.keep hb;replace hR:=hR.keep hb
 clear hb W hD hO hK hE hY
 have gR:=hR.cells;have fR:=hR.free
 go_wp2
 simp [bodyPost,results,Tryz.results24,go_sem,gR]
 repeat (first|with_reducible exact B|with_reducible refine Below.setCell ?_ o3 _)
theorem yE {key non:Int} {A:List Int} (hl:A.length=32) (C0:Hid (∀ w,Mds w→Rt 20 #[U4 key] w (.bool true))) (C1:Hid (∀ w,Mds w→Rt 20 #[U4 non] w (.bool false))) (w:World) (hm:Mds w) (hc:ar w) :
  Rt 24 #[U4 key,U4 non,cn A] w (.tuple #[.agg #[.int .u64 (l0 0),.int .u64 (l1 0),.int .u64 (l2 0),.int .u64 (l3 0),.int .u64 (l0 0),.int .u64 (l1 0),.int .u64 (l2 0),.int .u64 (l3 0),.bool false],.int .i64 60]):=by
 obtain ⟨z0,z1,z2,z3⟩:=ap
 ((try unfold Rt);(try unfold U4);(try unfold P9);rw [z0,z1,z2,z3])
 clear z0 z1 z2 z3
 unfold cn at *
 go_enter Tryz.func24,Tryz.ntmps24
 go_wp2_with fail
 refine aa (fun W=>Below w.heap.size w W∧Mds W∧ar W∧Nm W w.heap.size key∧Nm W (w.heap.size+1) non∧HAt W (w.heap.size+1+1) A∧Bk9 W (w.heap.size+1+1+1)) ⟨by repeat (first|with_reducible exact Below.refl _ _|with_reducible refine Below.alloc ?_ (by first|omega|(simp;done)|(simp;omega)) _),(((hm.alloc _).alloc _).alloc _).alloc _,(((ar.alloc hc _).alloc _).alloc _).alloc _,((Nm.alloc (Cl.new _ rfl rfl) _).alloc _).alloc _,(Nm.alloc (Cl.new _ (by simp) rfl) _).alloc _,(HAt.new hl (by simp)).alloc _,Bk9.new (by simp)⟩ ?_
 rintro W ⟨B,hD,hO,hK,hE,hY,hR⟩
 have o3:w.heap.size≤w.heap.size+1+1+1:=by omega
 generalize w.heap.size+1+1+1=br at *
 generalize w.heap.size+1+1=bd at *
 generalize w.heap.size+1=bn at *
 with_reducible refine (C0.out _ hD).mono ?_
 rintro e w1 ⟨rfl,hb⟩
 replace B:=B.trans (hb.mono B.size)
 replace hD:=hD.keep hb;replace hO:=hO.keep hb;replace hK:=hK.keep hb;replace hE:=hE.keep hb;replace hY:=hY.keep hb;replace hR:=hR.keep hb
 clear hb W
 have ghE:=hE.cells
 go_wp2_with fail
 refine aa (fun W=>Below w.heap.size w W∧Mds W∧ar W∧Nm W w.heap.size key∧Nm W bn non∧HAt W bd A∧Bk9 W br) ⟨B,hD,hO,hK,hE,hY,hR⟩ ?_
 clear B hD hO hK hE hY hR ghE
 rintro W ⟨B,hD,hO,hK,hE,hY,hR⟩
 with_reducible refine (C1.out _ hD).mono ?_
 rintro e w9 ⟨rfl,hb⟩
 replace B:=B.trans (hb.mono B.size)
 replace hD:=hD.keep hb;replace hO:=hO.keep hb;replace hK:=hK.keep hb;replace hE:=hE.keep hb;replace hY:=hY.keep hb;replace hR:=hR.keep hb
 clear hb W hD hO hK hE hY
 have gR:=hR.cells;have fR:=hR.free
 go_wp2
 simp [bodyPost,results,Tryz.results24,go_sem,gR]
 repeat (first|with_reducible exact B|with_reducible refine Below.setCell ?_ o3 _)
theorem Bk9.put9b {W:World} {b b':Nat} {x' y':Int} {j:Bool} (h:Bk9 W b) (ne:b'≠b):Bk9 (Go.Proofs.YtjoandmehahfgaaGreatDoor.put9 W b' x' y' j) b:=by
 unfold Go.Proofs.YtjoandmehahfgaaGreatDoor.put9
 exact ⟨Cl.set (Cl.set (Cl.set (Cl.set (Cl.set (Cl.set (Cl.set (Cl.set (Cl.set (h.1) ne _) ne _) ne _) ne _) ne _) ne _) ne _) ne _) ne _,(((((((((h.2.set _ _).set _ _).set _ _).set _ _).set _ _).set _ _).set _ _).set _ _).set _ _)⟩
theorem uk {key non dg X Y e0:Int} {j:Bool} {A:List Int} (hl:A.length=32) (C0:Hid (∀ w,Mds w→Rt 20 #[U4 key] w (.bool true))) (C1:Hid (∀ w,Mds w→Rt 20 #[U4 non] w (.bool true))) (CN:Hid (∀ w,Mds w→Rt 35 #[.agg ((A.map fun z=>Value.int .u8 z).toArray)] w (U4 dg))) (CG:Hid (∀ w,Mds w→ar w→Rt 10 #[U4 non] w (P9 X Y j))) (CT:Hid (∀ w,Mds w→Rt 54 #[U4 key,U4 non,U4 dg,P9 X Y j] w (.tuple #[.agg #[.int .u64 (l0 0),.int .u64 (l1 0),.int .u64 (l2 0),.int .u64 (l3 0),.int .u64 (l0 0),.int .u64 (l1 0),.int .u64 (l2 0),.int .u64 (l3 0),.bool false],.int .i64 e0]))) (he:e0≠0) (w:World) (hm:Mds w) (hc:ar w) :
    Rt 24 #[U4 key,U4 non,cn A] w (.tuple #[.agg #[.int .u64 (l0 0),.int .u64 (l1 0),.int .u64 (l2 0),.int .u64 (l3 0),.int .u64 (l0 0),.int .u64 (l1 0),.int .u64 (l2 0),.int .u64 (l3 0),.bool false],.int .i64 e0]):=by
  unfold cn at *
  go_enter Tryz.func24,Tryz.ntmps24
  go_wp2_with fail
  refine aa (fun W=>Below w.heap.size w W∧Mds W∧ar W∧Nm W w.heap.size key∧Nm W (w.heap.size+1) non∧HAt W (w.heap.size+1+1) A∧Bk9 W (w.heap.size+1+1+1)) ⟨by repeat (first|with_reducible exact Below.refl _ _|with_reducible refine Below.alloc ?_ (by first|omega|(simp;done)|(simp;omega)) _),(((hm.alloc _).alloc _).alloc _).alloc _,(((ar.alloc hc _).alloc _).alloc _).alloc _,((Nm.alloc (Cl.new _ rfl rfl) _).alloc _).alloc _,(Nm.alloc (Cl.new _ (by simp) rfl) _).alloc _,(HAt.new hl (by simp)).alloc _,Bk9.new (by simp)⟩ ?_
  rintro W ⟨B,hD,hO,hK,hE,hY,hR⟩
  have o3:w.heap.size≤w.heap.size+1+1+1:=by omega
  generalize w.heap.size+1+1+1=br at *
  generalize w.heap.size+1+1=bd at *
  generalize w.heap.size+1=bn at *
  with_reducible refine (C0.out _ hD).mono ?_
  rintro e w1 ⟨rfl,hb⟩
  replace B:=B.trans (hb.mono B.size)
  replace hD:=hD.keep hb;replace hO:=hO.keep hb;replace hK:=hK.keep hb;replace hE:=hE.keep hb;replace hY:=hY.keep hb;replace hR:=hR.keep hb
  clear hb W
  have ghE:=hE.cells
  go_wp2_with fail
  refine aa (fun W=>Below w.heap.size w W∧Mds W∧ar W∧Nm W w.heap.size key∧Nm W bn non∧HAt W bd A∧Bk9 W br) ⟨B,hD,hO,hK,hE,hY,hR⟩ ?_
  clear B hD hO hK hE hY hR ghE
  rintro W ⟨B,hD,hO,hK,hE,hY,hR⟩
  with_reducible refine (C1.out _ hD).mono ?_
  rintro e w2 ⟨rfl,hb⟩
  replace B:=B.trans (hb.mono B.size)
  replace hD:=hD.keep hb;replace hO:=hO.keep hb;replace hK:=hK.keep hb;replace hE:=hE.keep hb;replace hY:=hY.keep hb;replace hR:=hR.keep hb
  clear hb W
  go_wp2_with fail
  refine ah (fun W=>Below w.heap.size w W∧Mds W∧ar W∧Nm W w.heap.size key∧Nm W bn non∧HAt W bd A∧Bk9 W br) ⟨B,hD,hO,hK,hE,hY,hR⟩ ?_
  clear B hD hO hK hE hY hR
  rintro W ⟨B,hD,hO,hK,hE,hY,hR⟩
  refine jU (A:=?AA1) 10 (fun V kk=>put9 V kk 0 0 false) (by kernel_rfl) (by kernel_rfl) rfl rfl rfl (kJ _ _ _) (fun V V0 h0 h1=>bL (au h0 h1) h0.size) (fun V hV=>?HH1) (fun V V0 h0 h1=>?EE1) (fun V0 V w1 h0 h1 h2=>?TT1)
  case HH1 =>
    have hDg:∀ d os,Mds (grow (redrawn V d) os):=fun d os=>(hD.keep hV).keep (below_regrown V d os)
    have hOg:∀ d os,ar (grow (redrawn V d) os):=fun d os=>(hO.keep hV).keep (below_regrown V d os)
    have ghK:=(hK.keep hV).grown
    have ghE:=(hE.keep hV).grown
    have ldY:∀ w',(∃ p:Regrown,w'=grow (redrawn V p.d) p.os)→w'.rangeAt bd 0 (A.map fun z=>Value.int .u8 z):=by rintro w' ⟨p,rfl⟩;exact ((hY.keep hV).keep (below_regrown V p.d p.os)).2
    have hl32:=hY.1
    unfold Gr
    simp only [List.take_succ_cons,List.take_zero]
    repeat
      first
        | go_big_quiet_skip
        | (go_big_quiet_want;go_big_quiet_op;go_big_quiet_on)
        | (go_big_quiet_want;refine cg 47 _ rfl bd 0 rfl (A.map fun z=>Value.int .u8 z) _ ldY Tryz.underlying47 rfl (by rw [List.length_map,hl32];kernel_rfl) ?_;simp only [Act.put,List.setIfInBounds_toArray,List.set_cons_succ,List.set_cons_zero];go_big_quiet_on)
        | (go_big_quiet_want
           go_big_quiet_op
           apply Exists.intro
           refine ⟨fun p=>?_,?_⟩
           · (first|(go_at_call 35;with_reducible exact Calls.regrown_of (CN.out _ (hDg p.d p.os)))|(go_at_call 10;with_reducible exact Calls.regrown_of (CG.out _ (hDg p.d p.os) (hOg p.d p.os)))|(go_at_call 54;with_reducible exact Calls.regrown_of (CT.out _ (hDg p.d p.os))))
           go_big_quiet_on)
    refine wpQuiet_nil ?_
    exact rfl
  case EE1 =>
    obtain ⟨c0,c1,c2,c3,c4,c5,c6,c7,c8⟩:=((Bk9.new rfl).keep h1).cells
    obtain ⟨f0,f1,f2,f3,f4,f5,f6,f7,f8⟩:=((Bk9.new rfl).keep h1).free
    unfold put9
    simp [execOp,Act.put,Act.eval,go_sem,c0,c1,c2,c3,c4,c5,c6,c7,c8,f0,f1,f2,f3,f4,f5,f6,f7,f8]
  case TT1 =>
    have hN:=(((Bk9.new rfl).keep h1).put9 0 0 false).keep h2
    have hb:=au h0 h1
    have nhD:V0.heap.size≠1:=Nat.ne_of_gt (Nat.lt_of_lt_of_le hD.lt h0.size)
    have nhO:V0.heap.size≠0:=Nat.ne_of_gt (Nat.lt_of_lt_of_le hO.lt h0.size)
    have nhK:V0.heap.size≠w.heap.size:=Nat.ne_of_gt (Nat.lt_of_lt_of_le hK.lt h0.size)
    have nhE:V0.heap.size≠bn:=Nat.ne_of_gt (Nat.lt_of_lt_of_le hE.lt h0.size)
    have nhY:V0.heap.size≠bd:=Nat.ne_of_gt (Nat.lt_of_lt_of_le hY.lt h0.size)
    have nhR:V0.heap.size≠br:=Nat.ne_of_gt (Nat.lt_of_lt_of_le hR.lt h0.size)
    have gn:w.heap.size≤V0.heap.size:=Nat.le_trans B.size h0.size
    have B1:=bL (x':=0) (y':=0) (j:=false) (B.trans (hb.mono B.size)) gn
    replace B:=B1.trans (h2.mono B1.size)
    replace hD:=((hD.keep hb).put9 nhD).keep h2
    replace hO:=((hO.keep hb).put9 nhO).keep h2
    replace hK:=((hK.keep hb).put9 nhK).keep h2
    replace hE:=((hE.keep hb).put9 nhE).keep h2
    replace hY:=((hY.keep hb).put9 nhY).keep h2
    replace hR:=((hR.keep hb).put9b nhR).keep h2
    clear hb h0 h1 h2 B1 W gn nhD nhO nhK nhE nhY nhR
    generalize V0.heap.size=bs at *
    clear V V0
    simp only [List.drop_succ_cons,List.drop_zero,Act.put,List.setIfInBounds_toArray,List.set_cons_zero,List.set_cons_succ]
    have gR:=hR.cells;have fR:=hR.free
    go_wp2
    simp [bodyPost,results,Tryz.results24,go_sem,gR]
    refine ⟨by decide,?_⟩
    repeat (first|with_reducible exact B|with_reducible refine Below.setCell ?_ o3 _)
theorem yF {key non dg X Y r s r' s':Int} {j od od':Bool} {A:List Int} (hl:A.length=32) (C0:Hid (∀ w,Mds w→Rt 20 #[U4 key] w (.bool true))) (C1:Hid (∀ w,Mds w→Rt 20 #[U4 non] w (.bool true))) (CN:Hid (∀ w,Mds w→Rt 35 #[.agg ((A.map fun z=>Value.int .u8 z).toArray)] w (U4 dg))) (CG:Hid (∀ w,Mds w→ar w→Rt 10 #[U4 non] w (P9 X Y j))) (CT:Hid (∀ w,Mds w→Rt 54 #[U4 key,U4 non,U4 dg,P9 X Y j] w (.tuple #[P9 r s od,.int .i64 0]))) (CL:Hid (∀ w,Mds w→Rt 55 #[P9 r s od] w (P9 r' s' od'))) (w:World) (hm:Mds w) (hc:ar w) :
    Rt 24 #[U4 key,U4 non,cn A] w (.tuple #[P9 r' s' od',.int .i64 0]):=by
  unfold cn at *
  go_enter Tryz.func24,Tryz.ntmps24
  go_wp2_with fail
  refine aa (fun W=>Below w.heap.size w W∧Mds W∧ar W∧Nm W w.heap.size key∧Nm W (w.heap.size+1) non∧HAt W (w.heap.size+1+1) A∧Bk9 W (w.heap.size+1+1+1)) ⟨by repeat (first|with_reducible exact Below.refl _ _|with_reducible refine Below.alloc ?_ (by first|omega|(simp;done)|(simp;omega)) _),(((hm.alloc _).alloc _).alloc _).alloc _,(((ar.alloc hc _).alloc _).alloc _).alloc _,((Nm.alloc (Cl.new _ rfl rfl) _).alloc _).alloc _,(Nm.alloc (Cl.new _ (by simp) rfl) _).alloc _,(HAt.new hl (by simp)).alloc _,Bk9.new (by simp)⟩ ?_
  rintro W ⟨B,hD,hO,hK,hE,hY,hR⟩
  have o3:w.heap.size≤w.heap.size+1+1+1:=by omega
  generalize w.heap.size+1+1+1=br at *
  generalize w.heap.size+1+1=bd at *
  generalize w.heap.size+1=bn at *
  with_reducible refine (C0.out _ hD).mono ?_
  rintro e w1 ⟨rfl,hb⟩
  replace B:=B.trans (hb.mono B.size)
  replace hD:=hD.keep hb;replace hO:=hO.keep hb;replace hK:=hK.keep hb;replace hE:=hE.keep hb;replace hY:=hY.keep hb;replace hR:=hR.keep hb
  clear hb W
  have ghE:=hE.cells
  go_wp2_with fail
  refine aa (fun W=>Below w.heap.size w W∧Mds W∧ar W∧Nm W w.heap.size key∧Nm W bn non∧HAt W bd A∧Bk9 W br) ⟨B,hD,hO,hK,hE,hY,hR⟩ ?_
  clear B hD hO hK hE hY hR ghE
  rintro W ⟨B,hD,hO,hK,hE,hY,hR⟩
  with_reducible refine (C1.out _ hD).mono ?_
  rintro e w2 ⟨rfl,hb⟩
  replace B:=B.trans (hb.mono B.size)
  replace hD:=hD.keep hb;replace hO:=hO.keep hb;replace hK:=hK.keep hb;replace hE:=hE.keep hb;replace hY:=hY.keep hb;replace hR:=hR.keep hb
  clear hb W
  go_wp2_with fail
  refine ah (fun W=>Below w.heap.size w W∧Mds W∧ar W∧Nm W w.heap.size key∧Nm W bn non∧HAt W bd A∧Bk9 W br) ⟨B,hD,hO,hK,hE,hY,hR⟩ ?_
  clear B hD hO hK hE hY hR
  rintro W ⟨B,hD,hO,hK,hE,hY,hR⟩
  refine jU (A:=?AA1) 10 (fun V kk=>put9 V kk r s od) (by kernel_rfl) (by kernel_rfl) rfl rfl rfl (kJ _ _ _) (fun V V0 h0 h1=>bL (au h0 h1) h0.size) (fun V hV=>?HH1) (fun V V0 h0 h1=>?EE1) (fun V0 V w1 h0 h1 h2=>?TT1)
  case HH1 =>
    have hDg:∀ d os,Mds (grow (redrawn V d) os):=fun d os=>(hD.keep hV).keep (below_regrown V d os)
    have hOg:∀ d os,ar (grow (redrawn V d) os):=fun d os=>(hO.keep hV).keep (below_regrown V d os)
    have ghK:=(hK.keep hV).grown
    have ghE:=(hE.keep hV).grown
    have ldY:∀ w',(∃ p:Regrown,w'=grow (redrawn V p.d) p.os)→w'.rangeAt bd 0 (A.map fun z=>Value.int .u8 z):=by rintro w' ⟨p,rfl⟩;exact ((hY.keep hV).keep (below_regrown V p.d p.os)).2
    have hl32:=hY.1
    unfold Gr
    simp only [List.take_succ_cons,List.take_zero]
    repeat
      first
        | go_big_quiet_skip
        | (go_big_quiet_want;go_big_quiet_op;go_big_quiet_on)
        | (go_big_quiet_want;refine cg 47 _ rfl bd 0 rfl (A.map fun z=>Value.int .u8 z) _ ldY Tryz.underlying47 rfl (by rw [List.length_map,hl32];kernel_rfl) ?_;simp only [Act.put,List.setIfInBounds_toArray,List.set_cons_succ,List.set_cons_zero];go_big_quiet_on)
        | (go_big_quiet_want
           go_big_quiet_op
           apply Exists.intro
           refine ⟨fun p=>?_,?_⟩
           · (first|(go_at_call 35;with_reducible exact Calls.regrown_of (CN.out _ (hDg p.d p.os)))|(go_at_call 10;with_reducible exact Calls.regrown_of (CG.out _ (hDg p.d p.os) (hOg p.d p.os)))|(go_at_call 54;with_reducible exact Calls.regrown_of (CT.out _ (hDg p.d p.os))))
           go_big_quiet_on)
    refine wpQuiet_nil ?_
    exact rfl
  case EE1 =>
    obtain ⟨c0,c1,c2,c3,c4,c5,c6,c7,c8⟩:=((Bk9.new rfl).keep h1).cells
    obtain ⟨f0,f1,f2,f3,f4,f5,f6,f7,f8⟩:=((Bk9.new rfl).keep h1).free
    unfold put9
    simp [execOp,Act.put,Act.eval,go_sem,c0,c1,c2,c3,c4,c5,c6,c7,c8,f0,f1,f2,f3,f4,f5,f6,f7,f8]
  case TT1 =>
    have hN:=(((Bk9.new rfl).keep h1).put9 r s od).keep h2
    have hb:=au h0 h1
    have nhD:V0.heap.size≠1:=Nat.ne_of_gt (Nat.lt_of_lt_of_le hD.lt h0.size)
    have nhO:V0.heap.size≠0:=Nat.ne_of_gt (Nat.lt_of_lt_of_le hO.lt h0.size)
    have nhK:V0.heap.size≠w.heap.size:=Nat.ne_of_gt (Nat.lt_of_lt_of_le hK.lt h0.size)
    have nhE:V0.heap.size≠bn:=Nat.ne_of_gt (Nat.lt_of_lt_of_le hE.lt h0.size)
    have nhY:V0.heap.size≠bd:=Nat.ne_of_gt (Nat.lt_of_lt_of_le hY.lt h0.size)
    have nhR:V0.heap.size≠br:=Nat.ne_of_gt (Nat.lt_of_lt_of_le hR.lt h0.size)
    have gn:w.heap.size≤V0.heap.size:=Nat.le_trans B.size h0.size
    have B1:=bL (x':=r) (y':=s) (j:=od) (B.trans (hb.mono B.size)) gn
    replace B:=B1.trans (h2.mono B1.size)
    replace hD:=((hD.keep hb).put9 nhD).keep h2
    replace hO:=((hO.keep hb).put9 nhO).keep h2
    replace hK:=((hK.keep hb).put9 nhK).keep h2
    replace hE:=((hE.keep hb).put9 nhE).keep h2
    replace hY:=((hY.keep hb).put9 nhY).keep h2
    replace hR:=((hR.keep hb).put9b nhR).keep h2
    clear hb h0 h1 h2 B1 W gn nhD nhO nhK nhE nhY nhR
    generalize V0.heap.size=bs at *
    clear V V0
    have gN:=hN.cells
    simp only [List.drop_succ_cons,List.drop_zero,Act.put,List.setIfInBounds_toArray,List.set_cons_zero,List.set_cons_succ]
    go_wp2_with fail
    refine aa (fun W=>Below w.heap.size w W∧Mds W∧ar W∧Nm W w.heap.size key∧Nm W bn non∧HAt W bd A∧Bk9 W br∧Pnt W bs r s od) ⟨B,hD,hO,hK,hE,hY,hR,hN⟩ ?_
    clear B hN gN hD hO hK hE hY hR
    rintro W ⟨B,hD,hO,hK,hE,hY,hR,hS⟩
    clear w1
    with_reducible refine (CL.out _ hD).mono ?_
    rintro e w9 ⟨rfl,hb⟩
    replace B:=B.trans (hb.mono B.size)
    replace hD:=hD.keep hb;replace hO:=hO.keep hb;replace hK:=hK.keep hb;replace hE:=hE.keep hb;replace hY:=hY.keep hb;replace hR:=hR.keep hb;replace hS:=hS.keep hb
    clear hb W hD hO hK hE hY hS
    have gR:=hR.cells;have fR:=hR.free
    go_wp2
    simp [bodyPost,results,Tryz.results24,go_sem,gR]
    repeat (first|with_reducible exact B|with_reducible refine Below.setCell ?_ o3 _)
def swS (key non dg X:Int):Int:=ab nN (ab nN (dg+ab nN (X*key))*cQ nN non)
open Go.RowKit Go.Sort
def dgN (A:List Int):Int:=ab nN (bF A 32)
def oddB (y:Int):Bool:=decide (jy y 0=1)
structure SwR where
 r:Int
 s:Int
 o:Bool
 e:Int
def swR (key non:Int) (A:List Int) (X Y:Int):SwR :=
 if (co key&&co non)=false then ⟨0,0,false,60⟩ else if ¬X<nN then ⟨0,0,false,64⟩ else if X=0∨swS key non (dgN A) X=0 then ⟨0,0,false,65⟩ else
  if lowN (swS key non (dgN A) X) then ⟨X,swS key non (dgN A) X,oddB Y,0⟩ else ⟨X,ab nN (0-swS key non (dgN A) X),!oddB Y,0⟩
theorem iK {x:Int} (h:co x=true):x≠0∧x<nN:=by
 unfold co at h
 simpa using h
theorem AV {key non X Y:Int} {A:List Int} {j:Bool} (hk:Num key) (hn:Num non) (hA:iu A) (hl:A.length=32) (hv:Vd X Y j) (ev:bD X Y j=EC.smul non.toNat EC.gJ.pt) :
  ∀ w,Mds w→ar w→Rt 24 #[U4 key,U4 non,cn A] w (.tuple #[.agg #[.int .u64 (l0 (swR key non A X Y).r),.int .u64 (l1 (swR key non A X Y).r),.int .u64 (l2 (swR key non A X Y).r),.int .u64 (l3 (swR key non A X Y).r),.int .u64 (l0 (swR key non A X Y).s),.int .u64 (l1 (swR key non A X Y).s),.int .u64 (l2 (swR key non A X Y).s),.int .u64 (l3 (swR key non A X Y).s),.bool (swR key non A X Y).o],.int .i64 (swR key non A X Y).e]):=fun w hm hc=>by
 have nX:=hv.low.1.num;have nY:=hv.low.2.num
 have i1:=cK hk;have i2:=cK hn
 cases h1:co key with
 | false =>
  rw [h1] at i1
  have e:swR key non A X Y=⟨0,0,false,60⟩:=by unfold swR;rw [h1,Bool.false_and,if_pos rfl]
  rw [e]
  exact yD hl i1 w hm hc
 | true =>
  rw [h1] at i1
  cases h2:co non with
  | false =>
   rw [h2] at i2
   have e:swR key non A X Y=⟨0,0,false,60⟩:=by unfold swR;rw [h1,h2,Bool.and_false,if_pos rfl]
   rw [e]
   exact yE hl i1 i2 w hm hc
  | true =>
   rw [h2] at i2
   have CN:Hid (∀ w,Mds w→Rt 35 #[.agg ((A.map fun z=>Value.int .u8 z).toArray)] w (U4 (dgN A))):=fun w hm=>iD hA hl w hm
   have CG:Hid (∀ w,Mds w→ar w→Rt 10 #[U4 non] w (P9 X Y j)):=fun w hm hc=>o7 hn hv ev w hm hc
   have b0:swR key non A X Y=if ¬X<nN then ⟨0,0,false,64⟩ else if X=0∨swS key non (dgN A) X=0 then ⟨0,0,false,65⟩ else if lowN (swS key non (dgN A) X) then ⟨X,swS key non (dgN A) X,oddB Y,0⟩ else ⟨X,ab nN (0-swS key non (dgN A) X),!oddB Y,0⟩:=by
    unfold swR;rw [h1,h2,Bool.and_self,if_neg (by decide)]
   have nd:Num (dgN A):=ag fX _
   have hz:ab nN non≠0:=by
    obtain ⟨a1,a2⟩:=iK h2
    rw [cO hn.1 a2];exact a1
   have BL:∀ v,decide (X<nN)=v→Hid (∀ w,Mds w→Rt 51 #[U4 X] w (.bool v)):=fun v e w hm=>l9 (fun w hm=>jz w hm) (fun w=>my nX tY w) ((xH X nN).trans e) w hm
   by_cases c1:X<nN
   ·rw [if_neg (not_not_intro c1)] at b0
    have ns:Num (swS key non (dgN A) X):=ag fX _
    have A1:Hid (∀ w,Mds w→Rt 33 #[U4 X,U4 key] w (U4 (ab nN (X*key)))):=i9 nX hk
    have A2:Hid (∀ w,Mds w→Rt 86 #[U4 (dgN A),U4 (ab nN (X*key))] w (.agg #[.int .u64 (l0 (ab nN (dgN A+ab nN (X*key)))),.int .u64 (l1 (ab nN (dgN A+ab nN (X*key)))),.int .u64 (l2 (ab nN (dgN A+ab nN (X*key)))),.int .u64 (l3 (ab nN (dgN A+ab nN (X*key))))])):=xK nd (ag fX _)
    have A3:=mX hn hz
    have A4:Hid (∀ w,Mds w→Rt 33 #[.agg #[.int .u64 (l0 (ab nN (dgN A+ab nN (X*key)))),.int .u64 (l1 (ab nN (dgN A+ab nN (X*key)))),.int .u64 (l2 (ab nN (dgN A+ab nN (X*key)))),.int .u64 (l3 (ab nN (dgN A+ab nN (X*key))))],U4 (cQ nN non)] w (U4 (swS key non (dgN A) X))):=i9 (ag fX _) (dV fX _ _)
    have C0:=BL true (decide_eq_true c1)
    by_cases c2:X=0∨swS key non (dgN A) X=0
    ·rw [if_pos c2] at b0
     rw [b0]
     refine uk hl i1 i2 CN CG (fun w hm=>?_) (by decide) w hm hc
     by_cases c3:X=0
     ·exact yh C0 A1 A2 A3 A4 (fun w=>cZ (sk nX (decide_eq_true c3)) w) w hm
     ·have c4:swS key non (dgN A) X=0:=c2.resolve_left c3
      exact yi C0 A1 A2 A3 A4 (fun w=>cZ (sk nX (decide_eq_false c3)) w) (fun w=>cZ (sk ns (decide_eq_true c4)) w) w hm
    ·rw [if_neg c2] at b0
     have c3:X≠0:=fun e=>c2 (.inl e)
     have c4:swS key non (dgN A) X≠0:=fun e=>c2 (.inr e)
     have CT:=fun w hm=>yj C0 A1 A2 A3 A4 (fun w=>cZ (sk nX (decide_eq_false c3)) w) (fun w=>cZ (sk ns (decide_eq_false c4)) w) (fun w=>xM nY w) (i:=j) w hm
     have LW:=qD ns
     cases h5:lowN (swS key non (dgN A) X) with
     | true =>
      rw [h5] at LW b0
      rw [if_pos rfl] at b0
      rw [b0]
      exact yF hl i1 i2 CN CG CT (fun w hm=>pO LW w hm) w hm hc
     | false =>
      rw [h5] at LW b0
      rw [if_neg (by decide)] at b0
      rw [b0]
      exact yF hl i1 i2 CN CG CT (fun w hm=>qT LW (qF ns) w hm) w hm hc
   ·rw [if_pos c1] at b0
    rw [b0]
    exact uk hl i1 i2 CN CG (fun w hm=>Ar (BL false (decide_eq_false c1)) w hm) (by decide) w hm hc
open Go.RowKit Go.Sort
theorem AW {t non:Int} (hn:0≤non) (hz:ab nN non≠0) (ht:ab nN t=t):ab nN (ab nN (t*cQ nN non)*non)=t:=by
 have e:=EC.inv_n hn hz
 unfold ab at *
 have h1:(t*cQ nN non%nN*non)%nN=(t*(non*cQ nN non%nN))%nN:=by
  rw [Int.mul_emod,Int.emod_emod_of_dvd _ (Int.dvd_refl _),←Int.mul_emod,Int.mul_emod t (non*cQ nN non%nN),Int.emod_emod_of_dvd _ (Int.dvd_refl _),←Int.mul_emod]
  congr 1
  rw [Int.mul_assoc,Int.mul_comm (cQ nN non) non]
 rw [h1,e,Int.mul_one,ht]
theorem Cy:uO nN 1=57896044618658097711785492504343953926418782139537452191302581570759080747168:=by decide +kernel
theorem ul:nN=115792089237316195423570985008687907852837564279074904382605163141518161494337:=rfl
theorem dH {x:Int}:0≤ab nN x∧ab nN x<nN:=dl fX x
theorem lG {s:Int} (h0:0<s) (h1:s<nN):ab nN (0-s)=nN-s:=by
 unfold ab
 have:(0-s)%nN=(0-s+nN)%nN:=by rw [Int.add_emod_right]
 rw [this,Int.emod_eq_of_lt (by omega) (by omega)]
 omega
theorem rq {x:Int} (h0:x≠0) (h1:x<nN):co x=true:=by unfold co;simp [h0,h1]
open Go.RowKit Go.Sort
theorem um {X Y:Int} {j:Bool} (h:Vd X Y j):Vd X (ab pN (0-Y)) j∧bD X (ab pN (0-Y)) j=(bD X Y j).neg:=by
 cases j with
 | true=>obtain ⟨rfl,rfl⟩:=h;exact ⟨⟨rfl,rfl⟩,rfl⟩
 | false =>
  have en:EC.fp (ab pN (0-Y)) = -EC.fp Y:=by
   rw [EC.fp_mod,EC.fp_sub,EC.fp_zero]
   generalize EC.fp Y=y
   grind -lia -linarith
  have e:bD X (ab pN (0-Y)) false=(bD X Y false).neg:=by
   show EC.Pt.a _ _=EC.Pt.a _ _
   rw [en]
  refine ⟨⟨h.1,EC.low_mod _,?_⟩,e⟩
  rw [e]
  have h0:EC.fp Y*EC.fp Y=EC.fp X*EC.fp X*EC.fp X+7:=h.2.2
  show -EC.fp Y * -EC.fp Y=EC.fp X*EC.fp X*EC.fp X+7
  generalize EC.fp Y=y at *; generalize EC.fp X=x at *
  grind -lia -linarith
theorem sY {s:Int} (h0:0<s) (h1:s<nN):lowN (ab nN (0-s)) = !lowN s:=by
 unfold lowN
 rw [lG h0 h1,Cy,ul]
 by_cases h:s≤57896044618658097711785492504343953926418782139537452191302581570759080747168
 ·rw [decide_eq_true h,decide_eq_false (by omega)];rfl
 ·rw [decide_eq_false h,decide_eq_true (by rw [ul] at h1;omega)];rfl
theorem nU {X Y:Int} (h:Vd X Y false):oddB (ab pN (0-Y)) = !oddB Y:=by
 have hy:Y≠0:=fun e=>by
  subst e
  have h0:EC.fp 0*EC.fp 0=EC.fp X*EC.fp X*EC.fp X+7:=h.2.2
  rw [EC.fp_zero] at h0
  refine EC.no_two_p (EC.fp X) ?_
  rw [←h0]
  decide +kernel
 obtain ⟨a,b⟩:=h.2.1
 have e:ab pN (0-Y)=pN-Y:=by
  unfold ab
  have:(0-Y)%pN=(0-Y+pN)%pN:=by rw [Int.add_emod_right]
  rw [this,Int.emod_eq_of_lt (by omega) (by omega)]
  omega
 rw [EC.pN_is] at b
 rw [e,EC.pN_is]
 unfold oddB jy
 rw [if_neg (by decide),if_neg (by decide)]
 simp only [show (0:Int).toNat=0 from rfl,Int.pow_zero,Int.ediv_one]
 by_cases h1:Y%2=1
 ·rw [decide_eq_true h1,decide_eq_false (by omega)];rfl
 ·rw [decide_eq_false h1,decide_eq_true (by omega)];rfl
theorem wa {non:Int} (h0:0<non) (h1:non<nN):EC.smul (ab nN (0-non)).toNat EC.gJ.pt=(EC.smul non.toNat EC.gJ.pt).neg:=by
 rw [lG h0 h1]
 have hn:non.toNat≤115792089237316195423570985008687907852837564279074904382605163141518161494337:=by rw [ul] at h1;omega
 rw [EC.base_g.neg hn]
 congr 1
 rw [ul];omega
open Go.RowKit Go.Sort
theorem Nm.new {W:World} {b:Nat} {t:TypeId} {n:Int} (e:b=W.heap.size):Nm (W.alloc (.cells #[.int .u64 (l0 n),.int .u64 (l1 n),.int .u64 (l2 n),.int .u64 (l3 n)] t)) b n:=Cl.new _ e rfl
theorem Cz {r s e0:Int} {o:Bool} {A:List Int} (hl:A.length=32) (C0:Hid (∀ w,Mds w→Rt 14 #[P9 r s o] w (.int .i64 e0))) (he:e0≠0) (w:World) (hm:Mds w) (hc:ar w) :
  Rt 13 #[cn A,P9 r s o] w (.tuple #[.agg #[.int .u64 (l0 0),.int .u64 (l1 0),.int .u64 (l2 0),.int .u64 (l3 0),.int .u64 (l0 0),.int .u64 (l1 0),.int .u64 (l2 0),.int .u64 (l3 0),.bool false],.int .i64 e0]):=by
 obtain ⟨z0,z1,z2,z3⟩:=ap
 ((try unfold Rt);(try unfold U4);(try unfold P9);rw [z0,z1,z2,z3])
 clear z0 z1 z2 z3
 unfold cn at *
 go_enter Tryz.func13,Tryz.ntmps13
 go_wp2_with fail
 refine aa (fun W=>Below w.heap.size w W∧Mds W∧ar W∧HAt W w.heap.size A∧Pnt W (w.heap.size+1) r s o∧Bk9 W (w.heap.size+1+1)) ⟨by repeat (first|with_reducible exact Below.refl _ _|with_reducible refine Below.alloc ?_ (by first|omega|(simp;done)|(simp;omega)) _),((hm.alloc _).alloc _).alloc _,((ar.alloc hc _).alloc _).alloc _,((HAt.new hl rfl).alloc _).alloc _,(Pnt.new (by simp)).alloc _,Bk9.new (by simp)⟩ ?_
 rintro W ⟨B,hD,hO,hY,hP,hR⟩
 have o3:w.heap.size≤w.heap.size+1+1:=by omega
 generalize w.heap.size+1+1=br at *
 generalize w.heap.size+1=bp at *
 with_reducible refine (C0.out _ hD).mono ?_
 rintro e w9 ⟨rfl,hb⟩
 replace B:=B.trans (hb.mono B.size)
 replace hD:=hD.keep hb;replace hO:=hO.keep hb;replace hY:=hY.keep hb;replace hP:=hP.keep hb;replace hR:=hR.keep hb
 clear hb W hD hO hY hP
 have gR:=hR.cells;have fR:=hR.free
 go_wp2
 simp [bodyPost,results,Tryz.results13,go_sem,gR]
 repeat (first|with_reducible exact B|with_reducible refine Below.setCell ?_ o3 _)
theorem wb {r s lx ly v dg a b c X Y:Int} {o li:Bool} {A:List Int} (hl:A.length=32) (C0:Hid (∀ w,Mds w→Rt 14 #[P9 r s o] w (.int .i64 0))) (C1:Hid (∀ w,Mds w→Rt 30 #[U4 r,.bool o] w (.tuple #[P9 lx ly li,.int .i64 0]))) (C2:Hid (∀ w,Mds w→Rt 31 #[U4 r] w (U4 v))) (CN:Hid (∀ w,Mds w→Rt 35 #[.agg ((A.map fun z=>Value.int .u8 z).toArray)] w (U4 dg))) (CO:Hid (∀ w,Mds w→Rt 34 #[U4 dg] w (U4 a))) (C3:Hid (∀ w,Mds w→Rt 33 #[U4 a,U4 v] w (U4 b))) (C4:Hid (∀ w,Mds w→Rt 33 #[U4 s,U4 v] w (U4 c))) (CM:Hid (∀ w,Mds w→ar w→Rt 32 #[U4 b,U4 c,P9 lx ly li] w (.tuple #[P9 X Y true,.int .i64 0]))) (w:World) (hm:Mds w) (hc:ar w) :
    Rt 13 #[cn A,P9 r s o] w (.tuple #[.agg #[.int .u64 (l0 0),.int .u64 (l1 0),.int .u64 (l2 0),.int .u64 (l3 0),.int .u64 (l0 0),.int .u64 (l1 0),.int .u64 (l2 0),.int .u64 (l3 0),.bool false],.int .i64 65]):=by
  obtain ⟨z0,z1,z2,z3⟩:=ap
  ((try unfold Rt);(try unfold U4);(try unfold P9);rw [z0,z1,z2,z3])
  clear z0 z1 z2 z3
  unfold cn at *
  go_enter Tryz.func13,Tryz.ntmps13
  go_wp2_with fail
  refine aa (fun W=>Below w.heap.size w W∧Mds W∧ar W∧HAt W w.heap.size A∧Pnt W (w.heap.size+1) r s o∧Bk9 W (w.heap.size+1+1)) ⟨by repeat (first|with_reducible exact Below.refl _ _|with_reducible refine Below.alloc ?_ (by first|omega|(simp;done)|(simp;omega)) _),((hm.alloc _).alloc _).alloc _,((ar.alloc hc _).alloc _).alloc _,((HAt.new hl rfl).alloc _).alloc _,(Pnt.new (by simp)).alloc _,Bk9.new (by simp)⟩ ?_
  rintro W ⟨B,hD,hO,hY,hP,hR⟩
  have o3:w.heap.size≤w.heap.size+1+1:=by omega
  generalize w.heap.size+1+1=br at *
  generalize w.heap.size+1=bp at *
  with_reducible refine (C0.out _ hD).mono ?_
  rintro e w1 ⟨rfl,hb⟩
  replace B:=B.trans (hb.mono B.size)
  replace hD:=hD.keep hb;replace hO:=hO.keep hb;replace hY:=hY.keep hb;replace hP:=hP.keep hb;replace hR:=hR.keep hb
  clear hb W
  have ghP:=hP.cells
  go_wp2_with fail
  refine aa (fun W=>Below w.heap.size w W∧Mds W∧ar W∧HAt W w.heap.size A∧Pnt W bp r s o∧Bk9 W br) ⟨B,hD,hO,hY,hP,hR⟩ ?_
  clear B hD hO hY hP hR ghP
  rintro W ⟨B,hD,hO,hY,hP,hR⟩
  with_reducible refine (C1.out _ hD).mono ?_
  rintro e w2 ⟨rfl,hb⟩
  replace B:=B.trans (hb.mono B.size)
  replace hD:=hD.keep hb;replace hO:=hO.keep hb;replace hY:=hY.keep hb;replace hP:=hP.keep hb;replace hR:=hR.keep hb
  clear hb W
  have ghP:=fun o=>(hP.alloc o).cells
  go_wp2_with fail
  refine aa (fun W=>Below w.heap.size w W∧Mds W∧ar W∧HAt W w.heap.size A∧Pnt W bp r s o∧Bk9 W br∧Pnt W w2.heap.size lx ly li) ⟨B.alloc B.size _,hD.alloc _,hO.alloc _,hY.alloc _,hP.alloc _,hR.alloc _,Pnt.new rfl⟩ ?_
  clear B hD hO hY hP hR ghP
  rintro W ⟨B,hD,hO,hY,hP,hR,hA⟩
  generalize w2.heap.size=ba at *
  with_reducible refine (C2.out _ hD).mono ?_
  rintro e w3 ⟨rfl,hb⟩
  replace B:=B.trans (hb.mono B.size)
  replace hD:=hD.keep hb;replace hO:=hO.keep hb;replace hY:=hY.keep hb;replace hP:=hP.keep hb;replace hR:=hR.keep hb;replace hA:=hA.keep hb
  clear hb W
  go_wp2_with fail
  refine ah (fun W=>Below w.heap.size w W∧Mds W∧ar W∧HAt W w.heap.size A∧Pnt W bp r s o∧Bk9 W br∧Pnt W ba lx ly li∧Nm W w3.heap.size v) ⟨B.alloc B.size _,hD.alloc _,hO.alloc _,hY.alloc _,hP.alloc _,hR.alloc _,hA.alloc _,Nm.new rfl⟩ ?_
  clear B hD hO hY hP hR hA
  rintro W ⟨B,hD,hO,hY,hP,hR,hA,hV1⟩
  generalize w3.heap.size=bv at *
  refine jU (A:=?AA1) 14 (fun V kk=>put9 V kk X Y true) (by kernel_rfl) (by kernel_rfl) rfl rfl rfl (ku _ _ _) (fun V V0 h0 h1=>bL (au h0 h1) h0.size) (fun V hV=>?HH1) (fun V V0 h0 h1=>?EE1) (fun V0 V w1 h0 h1 h2=>?TT1)
  case HH1 =>
    have hDg:∀ d os,Mds (grow (redrawn V d) os):=fun d os=>(hD.keep hV).keep (below_regrown V d os)
    have hOg:∀ d os,ar (grow (redrawn V d) os):=fun d os=>(hO.keep hV).keep (below_regrown V d os)
    have ghP:=(hP.keep hV).grown
    have ghA:=(hA.keep hV).grown
    have ghV1:=(hV1.keep hV).grown
    have ldY:∀ w',(∃ p:Regrown,w'=grow (redrawn V p.d) p.os)→w'.rangeAt w.heap.size 0 (A.map fun z=>Value.int .u8 z):=by rintro w' ⟨p,rfl⟩;exact ((hY.keep hV).keep (below_regrown V p.d p.os)).2
    unfold Gr
    simp only [List.take_succ_cons,List.take_zero]
    repeat
      first
        | go_big_quiet_skip
        | (go_big_quiet_want;go_big_quiet_op;go_big_quiet_on)
        | (go_big_quiet_want;refine cg 47 _ rfl w.heap.size 0 rfl (A.map fun z=>Value.int .u8 z) _ ldY Tryz.underlying47 rfl (by rw [List.length_map,hl];kernel_rfl) ?_;simp only [Act.put,List.setIfInBounds_toArray,List.set_cons_succ,List.set_cons_zero];go_big_quiet_on)
        | (go_big_quiet_want
           go_big_quiet_op
           apply Exists.intro
           refine ⟨fun p=>?_,?_⟩
           · (first|(go_at_call 35;with_reducible exact Calls.regrown_of (CN.out _ (hDg p.d p.os)))|(go_at_call 34;with_reducible exact Calls.regrown_of (CO.out _ (hDg p.d p.os)))|(go_at_call 33;with_reducible exact Calls.regrown_of (C3.out _ (hDg p.d p.os)))|(go_at_call 33;with_reducible exact Calls.regrown_of (C4.out _ (hDg p.d p.os)))|(go_at_call 32;with_reducible exact Calls.regrown_of (CM.out _ (hDg p.d p.os) (hOg p.d p.os))))
           go_big_quiet_on)
    refine wpQuiet_nil ?_
    exact rfl
  case EE1 =>
    obtain ⟨c0,c1,c2,c3,c4,c5,c6,c7,c8⟩:=((Bk9.new rfl).keep h1).cells
    obtain ⟨f0,f1,f2,f3,f4,f5,f6,f7,f8⟩:=((Bk9.new rfl).keep h1).free
    unfold put9
    simp [execOp,Act.put,Act.eval,go_sem,c0,c1,c2,c3,c4,c5,c6,c7,c8,f0,f1,f2,f3,f4,f5,f6,f7,f8]
  case TT1 =>
    have hN:=(((Bk9.new rfl).keep h1).put9 X Y true).keep h2
    have hb:=au h0 h1
    have nhD:V0.heap.size≠1:=Nat.ne_of_gt (Nat.lt_of_lt_of_le hD.lt h0.size)
    have nhO:V0.heap.size≠0:=Nat.ne_of_gt (Nat.lt_of_lt_of_le hO.lt h0.size)
    have nhY:V0.heap.size≠w.heap.size:=Nat.ne_of_gt (Nat.lt_of_lt_of_le hY.lt h0.size)
    have nhP:V0.heap.size≠bp:=Nat.ne_of_gt (Nat.lt_of_lt_of_le hP.lt h0.size)
    have nhR:V0.heap.size≠br:=Nat.ne_of_gt (Nat.lt_of_lt_of_le hR.lt h0.size)
    have nhA:V0.heap.size≠ba:=Nat.ne_of_gt (Nat.lt_of_lt_of_le hA.lt h0.size)
    have nhV1:V0.heap.size≠bv:=Nat.ne_of_gt (Nat.lt_of_lt_of_le hV1.lt h0.size)
    have gn:w.heap.size≤V0.heap.size:=Nat.le_trans B.size h0.size
    have B1:=bL (x':=X) (y':=Y) (j:=true) (B.trans (hb.mono B.size)) gn
    replace B:=B1.trans (h2.mono B1.size)
    replace hD:=((hD.keep hb).put9 nhD).keep h2
    replace hO:=((hO.keep hb).put9 nhO).keep h2
    replace hY:=((hY.keep hb).put9 nhY).keep h2
    replace hP:=((hP.keep hb).put9 nhP).keep h2
    replace hR:=((hR.keep hb).put9b nhR).keep h2
    replace hA:=((hA.keep hb).put9 nhA).keep h2
    replace hV1:=((hV1.keep hb).put9 nhV1).keep h2
    clear hb h0 h1 h2 B1 W gn nhD nhO nhY nhP nhR nhA nhV1
    generalize V0.heap.size=bq at *
    clear V V0
    have gN:=hN.cells
    simp only [List.drop_succ_cons,List.drop_zero,Act.put,List.setIfInBounds_toArray,List.set_cons_zero,List.set_cons_succ]
    have gR:=hR.cells;have fR:=hR.free
    go_wp2
    simp [bodyPost,results,Tryz.results13,go_sem,gR]
    repeat (first|with_reducible exact B|with_reducible refine Below.setCell ?_ o3 _)
theorem AX {r s lx ly v dg a b c X Y:Int} {o li:Bool} {A:List Int} (hl:A.length=32) (C0:Hid (∀ w,Mds w→Rt 14 #[P9 r s o] w (.int .i64 0))) (C1:Hid (∀ w,Mds w→Rt 30 #[U4 r,.bool o] w (.tuple #[P9 lx ly li,.int .i64 0]))) (C2:Hid (∀ w,Mds w→Rt 31 #[U4 r] w (U4 v))) (CN:Hid (∀ w,Mds w→Rt 35 #[.agg ((A.map fun z=>Value.int .u8 z).toArray)] w (U4 dg))) (CO:Hid (∀ w,Mds w→Rt 34 #[U4 dg] w (U4 a))) (C3:Hid (∀ w,Mds w→Rt 33 #[U4 a,U4 v] w (U4 b))) (C4:Hid (∀ w,Mds w→Rt 33 #[U4 s,U4 v] w (U4 c))) (CM:Hid (∀ w,Mds w→ar w→Rt 32 #[U4 b,U4 c,P9 lx ly li] w (.tuple #[P9 X Y false,.int .i64 0]))) (w:World) (hm:Mds w) (hc:ar w) :
    Rt 13 #[cn A,P9 r s o] w (.tuple #[P9 X Y false,.int .i64 0]):=by
  unfold cn at *
  go_enter Tryz.func13,Tryz.ntmps13
  go_wp2_with fail
  refine aa (fun W=>Below w.heap.size w W∧Mds W∧ar W∧HAt W w.heap.size A∧Pnt W (w.heap.size+1) r s o∧Bk9 W (w.heap.size+1+1)) ⟨by repeat (first|with_reducible exact Below.refl _ _|with_reducible refine Below.alloc ?_ (by first|omega|(simp;done)|(simp;omega)) _),((hm.alloc _).alloc _).alloc _,((ar.alloc hc _).alloc _).alloc _,((HAt.new hl rfl).alloc _).alloc _,(Pnt.new (by simp)).alloc _,Bk9.new (by simp)⟩ ?_
  rintro W ⟨B,hD,hO,hY,hP,hR⟩
  have o3:w.heap.size≤w.heap.size+1+1:=by omega
  generalize w.heap.size+1+1=br at *
  generalize w.heap.size+1=bp at *
  with_reducible refine (C0.out _ hD).mono ?_
  rintro e w1 ⟨rfl,hb⟩
  replace B:=B.trans (hb.mono B.size)
  replace hD:=hD.keep hb;replace hO:=hO.keep hb;replace hY:=hY.keep hb;replace hP:=hP.keep hb;replace hR:=hR.keep hb
  clear hb W
  have ghP:=hP.cells
  go_wp2_with fail
  refine aa (fun W=>Below w.heap.size w W∧Mds W∧ar W∧HAt W w.heap.size A∧Pnt W bp r s o∧Bk9 W br) ⟨B,hD,hO,hY,hP,hR⟩ ?_
  clear B hD hO hY hP hR ghP
  rintro W ⟨B,hD,hO,hY,hP,hR⟩
  with_reducible refine (C1.out _ hD).mono ?_
  rintro e w2 ⟨rfl,hb⟩
  replace B:=B.trans (hb.mono B.size)
  replace hD:=hD.keep hb;replace hO:=hO.keep hb;replace hY:=hY.keep hb;replace hP:=hP.keep hb;replace hR:=hR.keep hb
  clear hb W
  have ghP:=fun o=>(hP.alloc o).cells
  go_wp2_with fail
  refine aa (fun W=>Below w.heap.size w W∧Mds W∧ar W∧HAt W w.heap.size A∧Pnt W bp r s o∧Bk9 W br∧Pnt W w2.heap.size lx ly li) ⟨B.alloc B.size _,hD.alloc _,hO.alloc _,hY.alloc _,hP.alloc _,hR.alloc _,Pnt.new rfl⟩ ?_
  clear B hD hO hY hP hR ghP
  rintro W ⟨B,hD,hO,hY,hP,hR,hA⟩
  generalize w2.heap.size=ba at *
  with_reducible refine (C2.out _ hD).mono ?_
  rintro e w3 ⟨rfl,hb⟩
  replace B:=B.trans (hb.mono B.size)
  replace hD:=hD.keep hb;replace hO:=hO.keep hb;replace hY:=hY.keep hb;replace hP:=hP.keep hb;replace hR:=hR.keep hb;replace hA:=hA.keep hb
  clear hb W
  go_wp2_with fail
  refine ah (fun W=>Below w.heap.size w W∧Mds W∧ar W∧HAt W w.heap.size A∧Pnt W bp r s o∧Bk9 W br∧Pnt W ba lx ly li∧Nm W w3.heap.size v) ⟨B.alloc B.size _,hD.alloc _,hO.alloc _,hY.alloc _,hP.alloc _,hR.alloc _,hA.alloc _,Nm.new rfl⟩ ?_
  clear B hD hO hY hP hR hA
  rintro W ⟨B,hD,hO,hY,hP,hR,hA,hV1⟩
  generalize w3.heap.size=bv at *
  refine jU (A:=?AA1) 14 (fun V kk=>put9 V kk X Y false) (by kernel_rfl) (by kernel_rfl) rfl rfl rfl (ku _ _ _) (fun V V0 h0 h1=>bL (au h0 h1) h0.size) (fun V hV=>?HH1) (fun V V0 h0 h1=>?EE1) (fun V0 V w1 h0 h1 h2=>?TT1)
  case HH1 =>
    have hDg:∀ d os,Mds (grow (redrawn V d) os):=fun d os=>(hD.keep hV).keep (below_regrown V d os)
    have hOg:∀ d os,ar (grow (redrawn V d) os):=fun d os=>(hO.keep hV).keep (below_regrown V d os)
    have ghP:=(hP.keep hV).grown
    have ghA:=(hA.keep hV).grown
    have ghV1:=(hV1.keep hV).grown
    have ldY:∀ w',(∃ p:Regrown,w'=grow (redrawn V p.d) p.os)→w'.rangeAt w.heap.size 0 (A.map fun z=>Value.int .u8 z):=by rintro w' ⟨p,rfl⟩;exact ((hY.keep hV).keep (below_regrown V p.d p.os)).2
    unfold Gr
    simp only [List.take_succ_cons,List.take_zero]
    repeat
      first
        | go_big_quiet_skip
        | (go_big_quiet_want;go_big_quiet_op;go_big_quiet_on)
        | (go_big_quiet_want;refine cg 47 _ rfl w.heap.size 0 rfl (A.map fun z=>Value.int .u8 z) _ ldY Tryz.underlying47 rfl (by rw [List.length_map,hl];kernel_rfl) ?_;simp only [Act.put,List.setIfInBounds_toArray,List.set_cons_succ,List.set_cons_zero];go_big_quiet_on)
        | (go_big_quiet_want
           go_big_quiet_op
           apply Exists.intro
           refine ⟨fun p=>?_,?_⟩
           · (first|(go_at_call 35;with_reducible exact Calls.regrown_of (CN.out _ (hDg p.d p.os)))|(go_at_call 34;with_reducible exact Calls.regrown_of (CO.out _ (hDg p.d p.os)))|(go_at_call 33;with_reducible exact Calls.regrown_of (C3.out _ (hDg p.d p.os)))|(go_at_call 33;with_reducible exact Calls.regrown_of (C4.out _ (hDg p.d p.os)))|(go_at_call 32;with_reducible exact Calls.regrown_of (CM.out _ (hDg p.d p.os) (hOg p.d p.os))))
           go_big_quiet_on)
    refine wpQuiet_nil ?_
    exact rfl
  case EE1 =>
    obtain ⟨c0,c1,c2,c3,c4,c5,c6,c7,c8⟩:=((Bk9.new rfl).keep h1).cells
    obtain ⟨f0,f1,f2,f3,f4,f5,f6,f7,f8⟩:=((Bk9.new rfl).keep h1).free
    unfold put9
    simp [execOp,Act.put,Act.eval,go_sem,c0,c1,c2,c3,c4,c5,c6,c7,c8,f0,f1,f2,f3,f4,f5,f6,f7,f8]
  case TT1 =>
    have hN:=(((Bk9.new rfl).keep h1).put9 X Y false).keep h2
    have hb:=au h0 h1
    have nhD:V0.heap.size≠1:=Nat.ne_of_gt (Nat.lt_of_lt_of_le hD.lt h0.size)
    have nhO:V0.heap.size≠0:=Nat.ne_of_gt (Nat.lt_of_lt_of_le hO.lt h0.size)
    have nhY:V0.heap.size≠w.heap.size:=Nat.ne_of_gt (Nat.lt_of_lt_of_le hY.lt h0.size)
    have nhP:V0.heap.size≠bp:=Nat.ne_of_gt (Nat.lt_of_lt_of_le hP.lt h0.size)
    have nhR:V0.heap.size≠br:=Nat.ne_of_gt (Nat.lt_of_lt_of_le hR.lt h0.size)
    have nhA:V0.heap.size≠ba:=Nat.ne_of_gt (Nat.lt_of_lt_of_le hA.lt h0.size)
    have nhV1:V0.heap.size≠bv:=Nat.ne_of_gt (Nat.lt_of_lt_of_le hV1.lt h0.size)
    have gn:w.heap.size≤V0.heap.size:=Nat.le_trans B.size h0.size
    have B1:=bL (x':=X) (y':=Y) (j:=false) (B.trans (hb.mono B.size)) gn
    replace B:=B1.trans (h2.mono B1.size)
    replace hD:=((hD.keep hb).put9 nhD).keep h2
    replace hO:=((hO.keep hb).put9 nhO).keep h2
    replace hY:=((hY.keep hb).put9 nhY).keep h2
    replace hP:=((hP.keep hb).put9 nhP).keep h2
    replace hR:=((hR.keep hb).put9b nhR).keep h2
    replace hA:=((hA.keep hb).put9 nhA).keep h2
    replace hV1:=((hV1.keep hb).put9 nhV1).keep h2
    clear hb h0 h1 h2 B1 W gn nhD nhO nhY nhP nhR nhA nhV1
    generalize V0.heap.size=bq at *
    clear V V0
    have gN:=hN.cells
    simp only [List.drop_succ_cons,List.drop_zero,Act.put,List.setIfInBounds_toArray,List.set_cons_zero,List.set_cons_succ]
    have gR:=hR.cells;have fR:=hR.free
    go_wp2
    simp [bodyPost,results,Tryz.results13,go_sem,gR]
    repeat (first|with_reducible exact B|with_reducible refine Below.setCell ?_ o3 _)
open Go.RowKit Go.Sort
theorem Nm.newb {W:World} {b:Nat} {t:TypeId} {n:Int} (e:b=W.heap.size):Nm (W.alloc (.cells #[.int .u64 (l0 n),.int .u64 (l1 n),.int .u64 (l2 n),.int .u64 (l3 n)] t)) b n:=Cl.new _ e rfl
open Go.RowKit Go.Sort
theorem qe {x:Int} (hx:Num x) (h:d7 x) (i:Bool):Vd x (dW i x) false:=by
 obtain ⟨h1,h2⟩:=h
 have lx:EC.Low x:=⟨hx.1,h1⟩
 have hc:ab pN (aL pN (cF x) qN*aL pN (cF x) qN)=ab pN (cF x):=by
  unfold ni at h2
  by_cases e:ab pN (aL pN (cF x) qN*aL pN (cF x) qN)=ab pN (cF x)
  ·exact e
  ·rw [if_neg e] at h2;exact absurd h2 (by decide)
 have hr:=vA hc
 have lr:EC.Low (ck (cF x)):=by
  have:=ki (fy am (cF x) qN).1 (fy am (cF x) qN).2
  unfold ck
  rw [if_pos hc]
  exact ⟨this.2.1,this.2.2.1⟩
 have base:Vd x (ck (cF x)) false:=by
  refine ⟨lx,lr,?_⟩
  have e:=congrArg EC.fp hr
  unfold cF at e
  simp only [EC.fp_mod,EC.fp_mul,EC.fp_add] at e
  rw [show EC.fp 7=7 by decide +kernel] at e
  show EC.fp _*EC.fp _=_
  unfold cF
  exact e
 have el:dW i x=if i then ab pN (0-ck (cF x)) else ck (cF x):=by
  unfold dW;rw [if_pos ⟨h1,h2⟩]
 rw [el]
 cases i with
 | false=>exact base
 | true=>exact (um base).1
open Go.RowKit Go.Sort
theorem AY {r s:Int} (h:mW r s=0):co r=true∧co s=true∧lowN s=true:=by
 unfold mW at h
 cases h1:co r with
 | false=>rw [h1,if_pos rfl] at h;exact absurd h (by decide)
 | true =>
  rw [h1,if_neg (by decide)] at h
  cases h2:co s with
  | false=>rw [h2,if_pos rfl] at h;exact absurd h (by decide)
  | true =>
   rw [h2,if_neg (by decide)] at h
   cases h3:lowN s with
   | false=>rw [h3,if_pos rfl] at h;exact absurd h (by decide)
   | true=>exact ⟨rfl,rfl,rfl⟩
def sZ (r:Int) (A:List Int):Int:=ab nN (ab nN (0-dgN A)*cQ nN r)
def s8 (r s:Int):Int:=ab nN (s*cQ nN r)
theorem ru {r s X Y:Int} {o j:Bool} {A:List Int} (hr:Num r) (hs:Num s) (hA:iu A) (hl:A.length=32) (h:mW r s=0) (h2:d7 r) (hj:Vd X Y j)
  (ej:bD X Y j=(EC.smul (sZ r A).toNat EC.gJ.pt).add (EC.smul (s8 r s).toNat (bD r (dW o r) false))):∀ w,Mds w→ar w→Rt 13 #[cn A,P9 r s o] w (.tuple #[P9 (if j then 0 else X) (if j then 0 else Y) false,.int .i64 (if j then 65 else 0)]):=fun w hm hc=>by
 have C0:=jA (o:=o) hr hs
 rw [h] at C0
 obtain ⟨f1,_,_⟩:=AY h
 obtain ⟨r0,r1⟩:=iK f1
 have hz:ab nN r≠0:=by rw [cO hr.1 r1];exact r0
 have C1:=fun w hm=>vC hr o w hm
 have e1:oV r=0:=by unfold oV;rw [if_pos h2]
 have e2:kj r=r:=by unfold kj;rw [if_pos h2]
 rw [e1,e2] at C1
 have hv:=qe hr h2 o
 have nv:Num (cQ nN r):=dV fX _ _
 have CN:Hid (∀ w,Mds w→Rt 35 #[.agg ((A.map fun z=>Value.int .u8 z).toArray)] w (U4 (dgN A))):=fun w hm=>iD hA hl w hm
 have CO:=qF (x:=dgN A) (ag fX _)
 have C3:Hid (∀ w,Mds w→Rt 33 #[U4 (ab nN (0-dgN A)),U4 (cQ nN r)] w (U4 (sZ r A))):=i9 (ag fX _) nv
 have C4:Hid (∀ w,Mds w→Rt 33 #[U4 s,U4 (cQ nN r)] w (U4 (s8 r s))):=i9 hs nv
 have CM:=fun w hm hc=>q7 (a:=sZ r A) (b:=s8 r s) (ag fX _) (ag fX _) hv hj ej w hm hc
 cases j with
 | true=>exact wb hl C0 C1 (mX hr hz) CN CO C3 C4 CM w hm hc
 | false=>exact AX hl C0 C1 (mX hr hz) CN CO C3 C4 CM w hm hc
open Go.RowKit Go.Sort
theorem we {p:EC.Pt} (hp:EC.On p) (k:Nat):EC.smul (k%115792089237316195423570985008687907852837564279074904382605163141518161494337) p=EC.smul k p:=by
 have e:=Nat.div_add_mod k 115792089237316195423570985008687907852837564279074904382605163141518161494337
 conv=>rhs;rw [←e]
 rw [EC.smul_add hp,EC.smul_mul hp,EC.ord_all hp,EC.smul_o]
 rfl
def sm (a:Int) (P:EC.Pt):EC.Pt:=EC.smul (ab nN a).toNat P
theorem lH {a:Int} {P:EC.Pt} (hP:EC.On P) (h:0≤a):EC.smul a.toNat P=sm a P:=by
 unfold sm
 rw [←we hP a.toNat]
 have e:a.toNat%115792089237316195423570985008687907852837564279074904382605163141518161494337=(ab nN a).toNat:=by
  show _=(a%nN).toNat
  rw [EC.nN_is]
  omega
 rw [e]
theorem yG {a b:Int} {P:EC.Pt} (h:ab nN a=ab nN b):sm a P=sm b P:=by unfold sm;rw [h]
theorem CE {a b:Int} {P:EC.Pt} (hP:EC.On P):sm (a+b) P=(sm a P).add (sm b P):=by
 have a0:=(dH (x:=a)).1
 have b0:=(dH (x:=b)).1
 rw [yG (show ab nN (a+b)=ab nN (ab nN a+ab nN b) by rw [jC,fc]),←lH hP (by omega),Int.toNat_add a0 b0,EC.smul_add hP]
 rfl
theorem CF {a b:Int} {P:EC.Pt} (hP:EC.On P):sm (a*b) P=sm a (sm b P):=by
 have a0:=(dH (x:=a)).1
 have b0:=(dH (x:=b)).1
 rw [yG (show ab nN (a*b)=ab nN (ab nN b*ab nN a) by rw [cM,cN,Int.mul_comm]),←lH hP (Int.mul_nonneg b0 a0),Int.toNat_mul b0 a0,EC.smul_mul hP]
 rfl
theorem yH {r:Int} {A:List Int} (hr:0≤r) (hz:ab nN r≠0):ab nN (r*sZ r A)=ab nN (0-dgN A):=by
 have i:=EC.inv_n hr hz
 unfold sZ
 rw [cN,show r*(ab nN (0-dgN A)*cQ nN r)=ab nN (0-dgN A)*(r*cQ nN r) by rw [Int.mul_left_comm],←cN,i,Int.mul_one,iB]
theorem yI {r s:Int} (hr:0≤r) (hz:ab nN r≠0):ab nN (r*s8 r s)=ab nN s:=by
 have i:=EC.inv_n hr hz
 unfold s8
 rw [cN,show r*(s*cQ nN r)=s*(r*cQ nN r) by rw [Int.mul_left_comm],←cN,i,Int.mul_one]
open Go.RowKit Go.Sort
theorem s9:(Tryz.prog.info? 5).map (fun i=>(i.zero,i.size,i.bytes))=some (some (.int .u8 0),1,1):=by kernel_rfl
theorem rv {P:Program} {e:TypeId} {z:Value} {s b:Nat} (h:(P.info? e).map (fun i=>(i.zero,i.size,i.bytes))=some (some z,s,b)):∃ i,P.info? e=some i∧i.zero=some z∧i.size=s∧i.bytes=b:=by
 cases hi:P.info? e with
 | none=>rw [hi] at h;cases h
 | some i =>
  rw [hi] at h
  simp only [Option.map_some,Option.some.injEq,Prod.mk.injEq] at h
  exact ⟨i,rfl,h.1,h.2.1,h.2.2⟩
theorem nV {W:World} {b:Nat} {l:List Int} (h:W.rangeAt b 0 (l.map (Value.int .u8))) (hf:ai W b l.length):Bts W b l:=by
 refine ⟨fun i hi=>?_,hf⟩
 have:=h i (.int .u8 (l.getD i 0)) (by rw [List.getElem?_map,List.getElem?_eq_getElem hi];simp [List.getD,hi])
 rwa [Nat.zero_add] at this
theorem nW (dst:Option Tmp) (pos:String) (ty:TypeId) (ρ:Operand→Value) (w:World):(execOp ρ { dst:=dst,op:=Op.alloc 46,type:=ty,pos:=pos,after:=#[],guard:=none }).run Tryz.prog w = .ok (.value (.pointer (some ⟨w.heap.size,0,none⟩))) (w.alloc (.cells (((List.replicate 32 (0:Int)).map (Value.int .u8)).toArray) 46)):=by
 simp [execOp,go_sem]
theorem yJ {W:World} {base:Nat} {v:Value} {t:TypeId} (h:base≤W.heap.size):(W.alloc (.cells #[v] t)).ownsRow base t 1 (.slice (some ⟨W.heap.size,0,none⟩) 1 1) 1 [v]:=by
 refine ⟨rfl,.inr ⟨W.heap.size,1,#[v],rfl,h,?_,Nat.le_refl _,by unfold maxLen;decide,rfl,rfl⟩⟩
 show (W.heap.push _)[W.heap.size]?=_
 simp
theorem rx {A:List Int} {M:List Value} {W:World} {b:Nat} (e:M=A.map (Value.int .u8)) (h:Bts W b A):∀ j u,M[j]?=some u→W.cell? ((⟨b,0,none⟩:Addr).add j)=some u:=fun j u hu=>by
 subst e
 have:=h.1.range j u hu
 rw [Addr.add_mid]
 exact this
theorem yK {x y:Int} (ON:Hid (∀ w,Mds w→Rt 66 #[P9 x y false] w (.bool true))) (w:World) (hm:Mds w) :
  Rt 37 #[P9 x y false] w (.int .i64 0):=by
 go_enter Tryz.func37,Tryz.ntmps37
 go_wp2_with fail
 refine aa (fun W=>Below w.heap.size w W∧Mds W∧Pnt W w.heap.size x y false) ⟨by repeat (first|with_reducible exact Below.refl _ _|with_reducible refine Below.alloc ?_ (by first|omega|(simp;done)|(simp;omega)) _),hm.alloc _,Pnt.new rfl⟩ ?_
 rintro W ⟨B,hD,hP⟩
 with_reducible refine (ON.out _ hD).mono ?_
 rintro e w9 ⟨rfl,hb⟩
 replace B:=B.trans (hb.mono B.size)
 replace hP:=hP.keep hb
 clear hb W hD
 have gP:=hP.cells
 go_wp2
 simp [bodyPost,results,Tryz.results37,go_sem]
 exact B
theorem Bts.belowC {W W':World} {n b:Nat} {l:List Int} (h:Bts W b l) (hlt:b<n) (hb:Below n W W'):Bts W' b l:=⟨fun i hi=>by rw [hb.cell (p:=⟨b,i,none⟩) hlt];exact h.1 i hi,fun i hi=>by rw [hb.frozen (p:=⟨b,i,none⟩) hlt];exact h.2 i hi⟩
theorem ry {x y:Int} {L1 L2:List Int} {M1 M2:List Value} (r1:L1.length=32) (r2:L2.length=32) (e1:Hid (M1=L1.map (Value.int .u8))) (e2:Hid (M2=L2.map (Value.int .u8))) (CH:Hid (∀ w,Mds w→Rt 37 #[P9 x y false] w (.int .i64 0))) (C1:Hid (∀ w,Rt 38 #[U4 x] w (.agg M1.toArray))) (C2:Hid (∀ w,Rt 38 #[U4 y] w (.agg M2.toArray))) (w:World) (hm:Mds w) :
    Calls Tryz.prog 15 #[P9 x y false] w fun e w'=>∃ v,e = .returned (.tuple #[v,.int .i64 0])∧World.ownsRow w' w.heap.size 5 1 v 65 ((((4:Int) :: L1)++L2).map (Value.int .u8))∧Below w.heap.size w w':=by
  have k2:M2.length=32:=by rw [e2.out,List.length_map];exact r2
  obtain ⟨i0,hi,hz0,hz1,hz2⟩:=rv s9
  have k1:M1.length=32:=by rw [e1.out,List.length_map];exact r1
  go_enter Tryz.func15,Tryz.ntmps15
  go_wp2_with fail
  refine aa (fun W=>Below w.heap.size w W∧Mds W∧Pnt W w.heap.size x y false) ⟨by repeat (first|with_reducible exact Below.refl _ _|with_reducible refine Below.alloc ?_ (by first|omega|(simp;done)|(simp;omega)) _),hm.alloc _,Pnt.new rfl⟩ ?_
  rintro W ⟨B,hD,hP⟩
  with_reducible refine (CH.out _ hD).mono ?_
  rintro e w1 ⟨rfl,hb⟩
  replace B:=B.trans (hb.mono B.size)
  replace hD:=hD.keep hb;replace hP:=hP.keep hb
  clear hb W
  go_wp2_with fail
  refine ah (fun W=>Below w.heap.size w W∧Mds W∧Pnt W w.heap.size x y false) ⟨B,hD,hP⟩ ?_
  clear B hD hP
  rintro W ⟨B,hD,hP⟩
  clear hD
  refine fq (A:=?AA) 6 (by kernel_rfl) (by kernel_rfl) rfl rfl rfl rfl (nW _ _ _) (nW _ _ _) (fun V hV=>?HH) (fun V V2 w1 hV hw hV2 hw2 hdd=>?TT)
  case HH =>
    have ghP:=(hP.keep hV).grown
    unfold Gr
    simp only [List.take_succ_cons,List.take_zero]
    repeat
      first
        | go_big_quiet_skip
        | (go_big_quiet_want;go_big_quiet_op;go_big_quiet_on)
        | (go_big_quiet_want
           go_big_quiet_op
           apply Exists.intro
           refine ⟨fun p=>?_,?_⟩
           · (first|(go_at_call 38;with_reducible exact Calls.regrown_of (C1.out _))|(go_at_call 38;with_reducible exact Calls.regrown_of (C2.out _)))
           go_big_quiet_on)
    refine wpQuiet_nil ?_
    exact rfl
  case TT =>
    have hb:=au hV hw
    have h5:=(Bts.new (List.replicate 32 0) 46 (W:=V) rfl).keep (by simp) hw
    have h6:=(Bts.new (List.replicate 32 0) 46 (W:=V2) rfl).keep (by simp) hw2
    have g5:w.heap.size≤V.heap.size:=Nat.le_trans B.size hV.size
    have g6:w.heap.size≤V2.heap.size:=Nat.le_trans B.size hV2.size
    replace B:=B.trans (hb.mono B.size)
    clear hb hw hw2 hV hV2 hP W
    generalize V.heap.size=b5 at *
    generalize V2.heap.size=b6 at *
    clear V V2
    have sz1:M1.toArray.size=32:=by rw [List.size_toArray];exact k1
    have sz2:M2.toArray.size=32:=by rw [List.size_toArray];exact k2
    have t1:=h5.there (k:=M1.toArray.size) (by rw [sz1];rfl)
    have t2:=World.there_setCells (h6.there (k:=M2.toArray.size) (by rw [sz2];rfl)) b5 0 M1
    have oc1:M1.toArray.all (·.oneCell')=true:=by rw [e1.out];exact aU L1
    have oc2:M2.toArray.all (·.oneCell')=true:=by rw [e2.out];exact aU L2
    have FF:Hid (Below w.heap.size w ((w1.setCells b5 0 M1).setCells b6 0 M2)∧Bts ((w1.setCells b5 0 M1).setCells b6 0 M2) b5 L1∧Bts ((w1.setCells b5 0 M1).setCells b6 0 M2) b6 L2):=by
      refine ⟨dY (dY B g5 _ _) g6 _ _,nV (by rw [←e1.out];exact World.rangeAt_setCells_apart (World.rangeAt_setCells_same _ _ _ _ (by simpa using t1)) _ _ _ (.inl hdd)) ?_,nV (by rw [←e2.out];exact World.rangeAt_setCells_same _ _ _ _ (by simpa using t2)) ?_⟩
      · rw [r1];exact (h5.2.cells_put _ _).cells_put _ _
      · rw [r2];exact (h6.2.cells_put _ _).cells_put _ _
    clear B h5 h6
    simp only [List.drop_succ_cons,List.drop_zero,Act.put,List.setIfInBounds_toArray,List.set_cons_zero,List.set_cons_succ]
    go_wp2_with (first|refine wpList_store_mid rfl 46 _ _ rfl b5 0 M1.toArray rfl rfl t1 (by rw [sz1];kernel_rfl) oc1 ?_|((refine wpList_store_mid rfl 46 _ _ rfl b6 0 M2.toArray rfl rfl t2 (by rw [sz2];kernel_rfl) oc2 ?_);(refine aF (fun W=>Below w.heap.size w W∧Bts W b5 L1∧Bts W b6 L2) FF.out ?_);(clear FF t1 t2 oc1 oc2 sz1 sz2);(rintro W ⟨B,hA,hB⟩);(have HO:=fun o=>hA.alloc (by rw [r1];decide) o);(have sB:=B.size);(have sA:∀ o,w.heap.size≤(W.alloc o).heap.size:=(fun o=>by simp;omega));(have BB:Hid (Below w.heap.size w W∧Bts W b6 L2∧b6<W.heap.size):=⟨B,hB,hB.1.lt (by rw [r2];decide)⟩);(clear B hA hB))|(at_builtin;(refine wpList_append_own_at _ rfl _ _ 52 rfl w.heap.size 5 i0 (.int .u8 0) 1 1 Tryz.underlying52 hi hz0 hz1 hz2 rfl (by decide) (.slice (some ⟨W.heap.size,0,none⟩) 1 1) 1 [.int .u8 4] rfl (yJ sB) ⟨b5,0,none⟩ 32 32 M1 rfl (by rw [Nat.mul_one];exact k1) (rx e1.out (HO _)) (fun u hu=>by rw [e1.out] at hu;obtain ⟨z,_,rfl⟩:=List.mem_map.1 hu;rfl) (by unfold maxLen;decide) (by decide) (sA _) ?_);(intro v' w5 hown' hgrow5 hnil5 hblk5);(have HR:Hid (World.ownsRow w5 w.heap.size 5 1 v' 33 (((4:Int) :: L1).map (Value.int .u8))∧Below w.heap.size w w5∧Bts w5 b6 L2):=⟨(by rw [e1.out] at hown';exact hown'),(BB.out.1.alloc BB.out.1.size _).grown hgrow5 (sA _) (fun k hk=>by cases hk;exact sB),(BB.out.2.1.alloc (by rw [r2];decide) _).belowC BB.out.2.2 ((Below.refl _ _).grown hgrow5 (by simp) (fun k hk=>by cases hk;exact Nat.le_refl _))⟩);(clear hown' hgrow5 hnil5 hblk5))|(at_builtin;(refine wpList_append_own_at _ rfl _ _ 52 rfl w.heap.size 5 i0 (.int .u8 0) 1 1 Tryz.underlying52 hi hz0 hz1 hz2 rfl (by decide) v' 33 (((4:Int) :: L1).map (Value.int .u8)) rfl HR.out.1 ⟨b6,0,none⟩ 32 32 M2 rfl (by rw [Nat.mul_one];exact k2) (rx e2.out HR.out.2.2) (fun u hu=>by rw [e2.out] at hu;obtain ⟨z,_,rfl⟩:=List.mem_map.1 hu;rfl) (by unfold maxLen;decide) (by decide) HR.out.2.1.size ?_);(intro v2 w6 hown2 hgrow6 hnil6 hblk6)))
    have HZ:Hid (World.ownsRow w6 w.heap.size 5 1 v2 65 ((((4:Int) :: L1)++L2).map (Value.int .u8))∧Below w.heap.size w w6):=⟨by rw [e2.out] at hown2;rw [List.map_append];exact hown2,HR.out.2.1.grown hgrow6 HR.out.2.1.size (fun k hk=>(HR.out.1.lt k hk).1)⟩
    clear hown2 hgrow6 hnil6 hblk6
    go_wp2
    simp [bodyPost,results,Tryz.results15,go_sem]
    have:=HZ.out
    simpa using this
open Go.RowKit Go.Sort
theorem pb {X Y:Int} (h:Vd X Y false):d7 X∧dW (oddB Y) X=Y:=by
 obtain ⟨lx,ly,on⟩:=h
 have lc:EC.Low (cF X):=dl am _
 have e:ab pN (Y*Y)=cF X:=by
  refine EC.fp_inj (dl am _) lc ?_
  have on':EC.fp Y*EC.fp Y=EC.fp X*EC.fp X*EC.fp X+7:=on
  unfold cF
  simp only [EC.fp_mod,EC.fp_mul,EC.fp_add]
  rw [show EC.fp 7=7 by decide +kernel]
  exact on'
 obtain ⟨s1,s2,s3,s4,s5⟩:=vy ly.1
 rw [e] at s1 s2 s3 s4 s5
 have ok:d7 X:=⟨lx.2,s1⟩
 refine ⟨ok,?_⟩
 have hY:ab pN Y=Y:=cO ly.1 ly.2
 rw [hY] at s2
 have o0:oddB (ck (cF X))=false:=by
  unfold oddB jy
  simp
  omega
 unfold dW
 rw [if_pos ok]
 rcases s2 with s2|s2
 ·rw [s2] at o0
  rw [o0,s2]
  rfl
 ·have hr:Vd X (ck (cF X)) false:=by
   have:=qe lx.num ok false
   rwa [show dW false X=ck (cF X) by unfold dW;rw [if_pos ok];rfl] at this
  have t:=nU hr
  rw [s2,o0] at t
  rw [t,s2]
  rfl
theorem CI {key:Int} (h0:0<key) (h1:key<nN):EC.smul key.toNat EC.gJ.pt≠.o:=fun e=>by
 have:=EC.base_g.inj (i:=key.toNat) (j:=0) (by rw [EC.nN_is] at h1;omega) (by decide) e
 omega
theorem yL {r s e key k:Int} {G:EC.Pt} (hG:EC.On G) (hr:0≤r) (hz:ab nN r≠0) (h:ab nN (s*k)=ab nN (e+r*key)) {B C:Int} (hB:ab nN (r*B)=ab nN (0-e)) (hC:ab nN (r*C)=ab nN s):(sm B G).add (sm C (sm k G))=sm key G:=by
 rw [←CF hG,←CE hG]
 refine yG ?_
 have i:=EC.inv_n hr hz
 have a:ab nN (r*(B+C*k))=ab nN (r*key):=by
  rw [Int.mul_add,←Int.mul_assoc,←jC,hB,jC,←fc,←cM,hC,cM,h,fc]
  congr 1
  omega
 have b:=congrArg (fun z=>ab nN (cQ nN r*z)) a
 simp only [cN] at b
 rw [←Int.mul_assoc,←Int.mul_assoc,←cM,Int.mul_comm (cQ nN r),i,Int.one_mul] at b
 rw [b,←cM,i,Int.one_mul]
end Go.Proofs.YtjoandmehahfgaaGreatDoor
