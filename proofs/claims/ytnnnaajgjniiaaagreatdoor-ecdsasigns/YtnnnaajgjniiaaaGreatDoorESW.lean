import Derived.Test.YtnnnaajgjniiaaaGreatDoorAb
import Derived.Test.YtnnnaajgjniiaaaGreatDoorCPt
import Derived.Test.YtnnnaajgjniiaaaGreatDoorENum
import Derived.Test.YtnnnaajgjniiaaaGreatDoorCBlend
import Derived.Test.YtnnnaajgjniiaaaGreatDoorCSumK
import Derived.Test.YtnnnaajgjniiaaaGreatDoorCEq
import Derived.Test.YtnnnaajgjniiaaaGreatDoorCFp
import Derived.Test.YtnnnaajgjniiaaaGreatDoorFExp
set_option maxRecDepth 100000
set_option maxHeartbeats 8000000
namespace Go.Proofs.YtnnnaajgjniiaaaGreatDoor
open Go.RowKit Go.Sort
theorem eF {P:Program} {C:World→Prop} {a:Act} {o:Oper} {K:Act→Prop} (ty:TypeId) (x:Operand) (ho:o.op = .load ty x)
  (b f:Nat) (hx:a.eval x = .pointer (some ⟨b,f,none⟩)) (cs:List Value) (d:TypeDesc) (hS:∀ w,C w→w.rangeAt b f cs)
  (hu:P.underlying ty=some d) (hd:d.isRow=true) (hi:(P.info? ty).map (·.size)=some cs.length) (h:K (a.put o.dst (.agg cs.toArray))):o.quiet P a C K :=
 ⟨.agg cs.toArray,fun w hw=>by
  unfold Oper.quietAt execOp
  simp only [ho,hx,Instr.loadAt,Instr.sureAddr,Sem.run_bind,Sem.run_pure,Result.andThen_ok,run_loadVar_mid w b f ty cs d (hS w hw) hu hd hi]
  exact ⟨rfl,rfl⟩,h⟩
def HAt (W:World) (b:Nat) (A:List Int):Prop:=A.length=32∧W.rangeAt b 0 (A.map fun z=>Value.int .u8 z)
theorem HAt.lt {W:World} {b:Nat} {A:List Int} (h:HAt W b A):b<W.heap.size:=by
 have hl:0<A.length:=by rw [h.1];decide
 exact World.block_lt_of_cell? W _ (h.2 0 _ (List.getElem?_eq_getElem (by simpa using hl)))
theorem HAt.keep {W w1:World} {b:Nat} {A:List Int} (h:HAt W b A) (hb:Below W.heap.size W w1):HAt w1 b A:=⟨h.1,fun j v hv=>cell_keep hb (h.2 j v hv)⟩
theorem HAt.alloc {W:World} {b:Nat} {A:List Int} (h:HAt W b A) (ob:Obj):HAt (W.alloc ob) b A:=h.keep ((Below.refl _ _).alloc (Nat.le_refl _) ob)
theorem HAt.put9 {W:World} {b b':Nat} {A:List Int} {x' y':Int} {j:Bool} (h:HAt W b A) (ne:b'≠b):HAt (Go.Proofs.YtnnnaajgjniiaaaGreatDoor.put9 W b' x' y' j) b A:=⟨h.1,fun k v hv=>by
 unfold Go.Proofs.YtnnnaajgjniiaaaGreatDoor.put9
 exact cell_far (cell_far (cell_far (cell_far (cell_far (cell_far (cell_far (cell_far (cell_far (h.2 k v hv) ne) ne) ne) ne) ne) ne) ne) ne) ne⟩
theorem HAt.new {W:World} {b:Nat} {A:List Int} {t:TypeId} (hl:A.length=32) (e:b=W.heap.size):HAt (W.alloc (.cells ((A.map fun z=>Value.int .u8 z).toArray) t)) b A:=⟨hl,fun j v hv=>by
 subst e
 rw [Nat.zero_add]
 simpa [go_sem] using hv⟩
theorem pU (dst:Option Tmp) (pos:String) (ty:TypeId) (ρ:Operand→Value) (w:World):(execOp ρ { dst:=dst,op:=Op.alloc 28,type:=ty,pos:=pos,after:=#[],guard:=none }).run Tryz.prog w = .ok (.value (.pointer (some ⟨w.heap.size,0,none⟩))) (w.alloc (.cells #[.int .u64 0,.int .u64 0,.int .u64 0,.int .u64 0,.int .u64 0,.int .u64 0,.int .u64 0,.int .u64 0,.bool false] 28)):=by
 simp [execOp,go_sem]
theorem wL {key non:Int} {A:List Int} (hl:A.length=32) (C0:Hid (∀ w,Mds w→Rt 13 #[U4 key] w (.bool false))) (w:World) (hm:Mds w) (hc:aM w) :
  Rt 17 #[U4 key,U4 non,aO A] w (.tuple #[.agg #[.int .u64 (l0 0),.int .u64 (l1 0),.int .u64 (l2 0),.int .u64 (l3 0),.int .u64 (l0 0),.int .u64 (l1 0),.int .u64 (l2 0),.int .u64 (l3 0),.bool false],.int .i64 60]):=by
 obtain ⟨z0,z1,z2,z3⟩:=aq
 ((try unfold Rt);(try unfold U4);(try unfold P9);rw [z0,z1,z2,z3])
 clear z0 z1 z2 z3
 unfold aO at *
 go_enter Tryz.func17,Tryz.ntmps17
 go_wp2_with fail
 refine aa (fun W=>Below w.heap.size w W∧Mds W∧aM W∧Nm W w.heap.size key∧Nm W (w.heap.size+1) non∧HAt W (w.heap.size+1+1) A∧Bk9 W (w.heap.size+1+1+1)) ⟨by repeat (first|with_reducible exact Below.refl _ _|with_reducible refine Below.alloc ?_ (by first|omega|(simp;done)|(simp;omega)) _),(((hm.alloc _).alloc _).alloc _).alloc _,(((aM.alloc hc _).alloc _).alloc _).alloc _,((Nm.alloc (Cl.new _ rfl rfl) _).alloc _).alloc _,(Nm.alloc (Cl.new _ (by simp) rfl) _).alloc _,(HAt.new hl (by simp)).alloc _,Bk9.new (by simp)⟩ ?_
 rintro W ⟨B,hD,hO,hK,hE,hY,hR⟩
 have o3:w.heap.size≤w.heap.size+1+1+1:=by omega
 generalize w.heap.size+1+1+1=br at *
 generalize w.heap.size+1+1=bd at *
 generalize w.heap.size+1=bn at *
 with_reducible refine (C0.out _ hD).mono ?_
 rintro e w9 ⟨rfl,hb⟩
 replace B:=B.trans (hb.mono B.size)
 replace hD:=hD.keep hb;replace hO:=hO.keep hb;replace hK:=hK.keep hb;replace hE:=hE.keep hb;replace hY:=hY.keep hb;replace hR:=hR.keep hb
 clear hb W hD hO hK hE hY
 have gR:=hR.cells;have fR:=hR.free
 go_wp2
 simp [bodyPost,results,Tryz.results17,go_sem,gR]
 repeat (first|with_reducible exact B|with_reducible refine Below.setCell ?_ o3 _)
theorem wM {key non:Int} {A:List Int} (hl:A.length=32) (C0:Hid (∀ w,Mds w→Rt 13 #[U4 key] w (.bool true))) (C1:Hid (∀ w,Mds w→Rt 13 #[U4 non] w (.bool false))) (w:World) (hm:Mds w) (hc:aM w) :
  Rt 17 #[U4 key,U4 non,aO A] w (.tuple #[.agg #[.int .u64 (l0 0),.int .u64 (l1 0),.int .u64 (l2 0),.int .u64 (l3 0),.int .u64 (l0 0),.int .u64 (l1 0),.int .u64 (l2 0),.int .u64 (l3 0),.bool false],.int .i64 60]):=by
 obtain ⟨z0,z1,z2,z3⟩:=aq
 ((try unfold Rt);(try unfold U4);(try unfold P9);rw [z0,z1,z2,z3])
 clear z0 z1 z2 z3
 unfold aO at *
 go_enter Tryz.func17,Tryz.ntmps17
 go_wp2_with fail
 refine aa (fun W=>Below w.heap.size w W∧Mds W∧aM W∧Nm W w.heap.size key∧Nm W (w.heap.size+1) non∧HAt W (w.heap.size+1+1) A∧Bk9 W (w.heap.size+1+1+1)) ⟨by repeat (first|with_reducible exact Below.refl _ _|with_reducible refine Below.alloc ?_ (by first|omega|(simp;done)|(simp;omega)) _),(((hm.alloc _).alloc _).alloc _).alloc _,(((aM.alloc hc _).alloc _).alloc _).alloc _,((Nm.alloc (Cl.new _ rfl rfl) _).alloc _).alloc _,(Nm.alloc (Cl.new _ (by simp) rfl) _).alloc _,(HAt.new hl (by simp)).alloc _,Bk9.new (by simp)⟩ ?_
 rintro W ⟨B,hD,hO,hK,hE,hY,hR⟩
 have o3:w.heap.size≤w.heap.size+1+1+1:=by omega
 generalize w.heap.size+1+1+1=br at *
 generalize w.heap.size+1+1=bd at *
 generalize w.heap.size+1=bn at *
 with_reducible refine (C0.out _ hD).mono ?_
 rintro e w1 ⟨rfl,hb⟩
 replace B:=B.trans (hb.mono B.size)
 replace hD:=hD.keep hb;replace hO:=hO.keep hb;replace hK:=hK.keep hb;replace hE:=hE.keep hb;replace hY:=hY.keep hb;replace hR:=hR.keep hb
 clear hb W
 have ghE:=hE.cells
 go_wp2_with fail
 refine aa (fun W=>Below w.heap.size w W∧Mds W∧aM W∧Nm W w.heap.size key∧Nm W bn non∧HAt W bd A∧Bk9 W br) ⟨B,hD,hO,hK,hE,hY,hR⟩ ?_
 clear B hD hO hK hE hY hR ghE
 rintro W ⟨B,hD,hO,hK,hE,hY,hR⟩
 with_reducible refine (C1.out _ hD).mono ?_
 rintro e w9 ⟨rfl,hb⟩
 replace B:=B.trans (hb.mono B.size)
 replace hD:=hD.keep hb;replace hO:=hO.keep hb;replace hK:=hK.keep hb;replace hE:=hE.keep hb;replace hY:=hY.keep hb;replace hR:=hR.keep hb
 clear hb W hD hO hK hE hY
 have gR:=hR.cells;have fR:=hR.free
 go_wp2
 simp [bodyPost,results,Tryz.results17,go_sem,gR]
 repeat (first|with_reducible exact B|with_reducible refine Below.setCell ?_ o3 _)
theorem Bk9.put9b {W:World} {b b':Nat} {x' y':Int} {j:Bool} (h:Bk9 W b) (ne:b'≠b):Bk9 (Go.Proofs.YtnnnaajgjniiaaaGreatDoor.put9 W b' x' y' j) b:=by
 unfold Go.Proofs.YtnnnaajgjniiaaaGreatDoor.put9
 exact ⟨Cl.set (Cl.set (Cl.set (Cl.set (Cl.set (Cl.set (Cl.set (Cl.set (Cl.set (h.1) ne _) ne _) ne _) ne _) ne _) ne _) ne _) ne _) ne _,(((((((((h.2.set _ _).set _ _).set _ _).set _ _).set _ _).set _ _).set _ _).set _ _).set _ _)⟩
theorem sj {key non dg X Y e0:Int} {j:Bool} {A:List Int} (hl:A.length=32) (C0:Hid (∀ w,Mds w→Rt 13 #[U4 key] w (.bool true))) (C1:Hid (∀ w,Mds w→Rt 13 #[U4 non] w (.bool true))) (CN:Hid (∀ w,Mds w→Rt 30 #[.agg ((A.map fun z=>Value.int .u8 z).toArray)] w (U4 dg))) (CG:Hid (∀ w,Mds w→aM w→Rt 23 #[U4 non] w (P9 X Y j))) (CT:Hid (∀ w,Mds w→Rt 31 #[U4 key,U4 non,U4 dg,P9 X Y j] w (.tuple #[.agg #[.int .u64 (l0 0),.int .u64 (l1 0),.int .u64 (l2 0),.int .u64 (l3 0),.int .u64 (l0 0),.int .u64 (l1 0),.int .u64 (l2 0),.int .u64 (l3 0),.bool false],.int .i64 e0]))) (he:e0≠0) (w:World) (hm:Mds w) (hc:aM w) :
    Rt 17 #[U4 key,U4 non,aO A] w (.tuple #[.agg #[.int .u64 (l0 0),.int .u64 (l1 0),.int .u64 (l2 0),.int .u64 (l3 0),.int .u64 (l0 0),.int .u64 (l1 0),.int .u64 (l2 0),.int .u64 (l3 0),.bool false],.int .i64 e0]):=by
  unfold aO at *
  go_enter Tryz.func17,Tryz.ntmps17
  go_wp2_with fail
  refine aa (fun W=>Below w.heap.size w W∧Mds W∧aM W∧Nm W w.heap.size key∧Nm W (w.heap.size+1) non∧HAt W (w.heap.size+1+1) A∧Bk9 W (w.heap.size+1+1+1)) ⟨by repeat (first|with_reducible exact Below.refl _ _|with_reducible refine Below.alloc ?_ (by first|omega|(simp;done)|(simp;omega)) _),(((hm.alloc _).alloc _).alloc _).alloc _,(((aM.alloc hc _).alloc _).alloc _).alloc _,((Nm.alloc (Cl.new _ rfl rfl) _).alloc _).alloc _,(Nm.alloc (Cl.new _ (by simp) rfl) _).alloc _,(HAt.new hl (by simp)).alloc _,Bk9.new (by simp)⟩ ?_
  rintro W ⟨B,hD,hO,hK,hE,hY,hR⟩
  have o3:w.heap.size≤w.heap.size+1+1+1:=by omega
  generalize w.heap.size+1+1+1=br at *
  generalize w.heap.size+1+1=bd at *
  generalize w.heap.size+1=bn at *
  with_reducible refine (C0.out _ hD).mono ?_
  rintro e w1 ⟨rfl,hb⟩
  replace B:=B.trans (hb.mono B.size)
  replace hD:=hD.keep hb;replace hO:=hO.keep hb;replace hK:=hK.keep hb;replace hE:=hE.keep hb;replace hY:=hY.keep hb;replace hR:=hR.keep hb
  clear hb W
  have ghE:=hE.cells
  go_wp2_with fail
  refine aa (fun W=>Below w.heap.size w W∧Mds W∧aM W∧Nm W w.heap.size key∧Nm W bn non∧HAt W bd A∧Bk9 W br) ⟨B,hD,hO,hK,hE,hY,hR⟩ ?_
  clear B hD hO hK hE hY hR ghE
  rintro W ⟨B,hD,hO,hK,hE,hY,hR⟩
  with_reducible refine (C1.out _ hD).mono ?_
  rintro e w2 ⟨rfl,hb⟩
  replace B:=B.trans (hb.mono B.size)
  replace hD:=hD.keep hb;replace hO:=hO.keep hb;replace hK:=hK.keep hb;replace hE:=hE.keep hb;replace hY:=hY.keep hb;replace hR:=hR.keep hb
  clear hb W
  go_wp2_with fail
  refine af (fun W=>Below w.heap.size w W∧Mds W∧aM W∧Nm W w.heap.size key∧Nm W bn non∧HAt W bd A∧Bk9 W br) ⟨B,hD,hO,hK,hE,hY,hR⟩ ?_
  clear B hD hO hK hE hY hR
  rintro W ⟨B,hD,hO,hK,hE,hY,hR⟩
  refine lj (A:=?AA1) 10 (fun V kk=>put9 V kk 0 0 false) (by kernel_rfl) (by kernel_rfl) rfl rfl rfl (pU _ _ _) (fun V V0 h0 h1=>fD (ap h0 h1) h0.size) (fun V hV=>?HH1) (fun V V0 h0 h1=>?EE1) (fun V0 V w1 h0 h1 h2=>?TT1)
  case HH1 =>
    have hDg:∀ d os,Mds (grow (redrawn V d) os):=fun d os=>(hD.keep hV).keep (below_regrown V d os)
    have hOg:∀ d os,aM (grow (redrawn V d) os):=fun d os=>(hO.keep hV).keep (below_regrown V d os)
    have ghK:=(hK.keep hV).grown
    have ghE:=(hE.keep hV).grown
    have ldY:∀ w',(∃ p:Regrown,w'=grow (redrawn V p.d) p.os)→w'.rangeAt bd 0 (A.map fun z=>Value.int .u8 z):=by rintro w' ⟨p,rfl⟩;exact ((hY.keep hV).keep (below_regrown V p.d p.os)).2
    have hl32:=hY.1
    unfold Gr
    simp only [List.take_succ_cons,List.take_zero]
    repeat
      first
        | go_big_quiet_skip
        | (go_big_quiet_want;go_big_quiet_op;go_big_quiet_on)
        | (go_big_quiet_want;refine eF 26 _ rfl bd 0 rfl (A.map fun z=>Value.int .u8 z) _ ldY Tryz.underlying26 rfl (by rw [List.length_map,hl32];kernel_rfl) ?_;simp only [Act.put,List.setIfInBounds_toArray,List.set_cons_succ,List.set_cons_zero];go_big_quiet_on)
        | (go_big_quiet_want
           go_big_quiet_op
           apply Exists.intro
           refine ⟨fun p=>?_,?_⟩
           · (first|(go_at_call 30;with_reducible exact Calls.regrown_of (CN.out _ (hDg p.d p.os)))|(go_at_call 23;with_reducible exact Calls.regrown_of (CG.out _ (hDg p.d p.os) (hOg p.d p.os)))|(go_at_call 31;with_reducible exact Calls.regrown_of (CT.out _ (hDg p.d p.os))))
           go_big_quiet_on)
    refine wpQuiet_nil ?_
    exact rfl
  case EE1 =>
    obtain ⟨c0,c1,c2,c3,c4,c5,c6,c7,c8⟩:=((Bk9.new rfl).keep h1).cells
    obtain ⟨f0,f1,f2,f3,f4,f5,f6,f7,f8⟩:=((Bk9.new rfl).keep h1).free
    unfold put9
    simp [execOp,Act.put,Act.eval,go_sem,c0,c1,c2,c3,c4,c5,c6,c7,c8,f0,f1,f2,f3,f4,f5,f6,f7,f8]
  case TT1 =>
    have hN:=(((Bk9.new rfl).keep h1).put9 0 0 false).keep h2
    have hb:=ap h0 h1
    have nhD:V0.heap.size≠1:=Nat.ne_of_gt (Nat.lt_of_lt_of_le hD.lt h0.size)
    have nhO:V0.heap.size≠0:=Nat.ne_of_gt (Nat.lt_of_lt_of_le hO.lt h0.size)
    have nhK:V0.heap.size≠w.heap.size:=Nat.ne_of_gt (Nat.lt_of_lt_of_le hK.lt h0.size)
    have nhE:V0.heap.size≠bn:=Nat.ne_of_gt (Nat.lt_of_lt_of_le hE.lt h0.size)
    have nhY:V0.heap.size≠bd:=Nat.ne_of_gt (Nat.lt_of_lt_of_le hY.lt h0.size)
    have nhR:V0.heap.size≠br:=Nat.ne_of_gt (Nat.lt_of_lt_of_le hR.lt h0.size)
    have gn:w.heap.size≤V0.heap.size:=Nat.le_trans B.size h0.size
    have B1:=fD (x':=0) (y':=0) (j:=false) (B.trans (hb.mono B.size)) gn
    replace B:=B1.trans (h2.mono B1.size)
    replace hD:=((hD.keep hb).put9 nhD).keep h2
    replace hO:=((hO.keep hb).put9 nhO).keep h2
    replace hK:=((hK.keep hb).put9 nhK).keep h2
    replace hE:=((hE.keep hb).put9 nhE).keep h2
    replace hY:=((hY.keep hb).put9 nhY).keep h2
    replace hR:=((hR.keep hb).put9b nhR).keep h2
    clear hb h0 h1 h2 B1 W gn nhD nhO nhK nhE nhY nhR
    generalize V0.heap.size=bs at *
    clear V V0
    simp only [List.drop_succ_cons,List.drop_zero,Act.put,List.setIfInBounds_toArray,List.set_cons_zero,List.set_cons_succ]
    have gR:=hR.cells;have fR:=hR.free
    go_wp2
    simp [bodyPost,results,Tryz.results17,go_sem,gR]
    refine ⟨by decide,?_⟩
    repeat (first|with_reducible exact B|with_reducible refine Below.setCell ?_ o3 _)
theorem wN {key non dg X Y r s r' s':Int} {j od od':Bool} {A:List Int} (hl:A.length=32) (C0:Hid (∀ w,Mds w→Rt 13 #[U4 key] w (.bool true))) (C1:Hid (∀ w,Mds w→Rt 13 #[U4 non] w (.bool true))) (CN:Hid (∀ w,Mds w→Rt 30 #[.agg ((A.map fun z=>Value.int .u8 z).toArray)] w (U4 dg))) (CG:Hid (∀ w,Mds w→aM w→Rt 23 #[U4 non] w (P9 X Y j))) (CT:Hid (∀ w,Mds w→Rt 31 #[U4 key,U4 non,U4 dg,P9 X Y j] w (.tuple #[P9 r s od,.int .i64 0]))) (CL:Hid (∀ w,Mds w→Rt 32 #[P9 r s od] w (P9 r' s' od'))) (w:World) (hm:Mds w) (hc:aM w) :
    Rt 17 #[U4 key,U4 non,aO A] w (.tuple #[P9 r' s' od',.int .i64 0]):=by
  unfold aO at *
  go_enter Tryz.func17,Tryz.ntmps17
  go_wp2_with fail
  refine aa (fun W=>Below w.heap.size w W∧Mds W∧aM W∧Nm W w.heap.size key∧Nm W (w.heap.size+1) non∧HAt W (w.heap.size+1+1) A∧Bk9 W (w.heap.size+1+1+1)) ⟨by repeat (first|with_reducible exact Below.refl _ _|with_reducible refine Below.alloc ?_ (by first|omega|(simp;done)|(simp;omega)) _),(((hm.alloc _).alloc _).alloc _).alloc _,(((aM.alloc hc _).alloc _).alloc _).alloc _,((Nm.alloc (Cl.new _ rfl rfl) _).alloc _).alloc _,(Nm.alloc (Cl.new _ (by simp) rfl) _).alloc _,(HAt.new hl (by simp)).alloc _,Bk9.new (by simp)⟩ ?_
  rintro W ⟨B,hD,hO,hK,hE,hY,hR⟩
  have o3:w.heap.size≤w.heap.size+1+1+1:=by omega
  generalize w.heap.size+1+1+1=br at *
  generalize w.heap.size+1+1=bd at *
  generalize w.heap.size+1=bn at *
  with_reducible refine (C0.out _ hD).mono ?_
  rintro e w1 ⟨rfl,hb⟩
  replace B:=B.trans (hb.mono B.size)
  replace hD:=hD.keep hb;replace hO:=hO.keep hb;replace hK:=hK.keep hb;replace hE:=hE.keep hb;replace hY:=hY.keep hb;replace hR:=hR.keep hb
  clear hb W
  have ghE:=hE.cells
  go_wp2_with fail
  refine aa (fun W=>Below w.heap.size w W∧Mds W∧aM W∧Nm W w.heap.size key∧Nm W bn non∧HAt W bd A∧Bk9 W br) ⟨B,hD,hO,hK,hE,hY,hR⟩ ?_
  clear B hD hO hK hE hY hR ghE
  rintro W ⟨B,hD,hO,hK,hE,hY,hR⟩
  with_reducible refine (C1.out _ hD).mono ?_
  rintro e w2 ⟨rfl,hb⟩
  replace B:=B.trans (hb.mono B.size)
  replace hD:=hD.keep hb;replace hO:=hO.keep hb;replace hK:=hK.keep hb;replace hE:=hE.keep hb;replace hY:=hY.keep hb;replace hR:=hR.keep hb
  clear hb W
  go_wp2_with fail
  refine af (fun W=>Below w.heap.size w W∧Mds W∧aM W∧Nm W w.heap.size key∧Nm W bn non∧HAt W bd A∧Bk9 W br) ⟨B,hD,hO,hK,hE,hY,hR⟩ ?_
  clear B hD hO hK hE hY hR
  rintro W ⟨B,hD,hO,hK,hE,hY,hR⟩
  refine lj (A:=?AA1) 10 (fun V kk=>put9 V kk r s od) (by kernel_rfl) (by kernel_rfl) rfl rfl rfl (pU _ _ _) (fun V V0 h0 h1=>fD (ap h0 h1) h0.size) (fun V hV=>?HH1) (fun V V0 h0 h1=>?EE1) (fun V0 V w1 h0 h1 h2=>?TT1)
  case HH1 =>
    have hDg:∀ d os,Mds (grow (redrawn V d) os):=fun d os=>(hD.keep hV).keep (below_regrown V d os)
    have hOg:∀ d os,aM (grow (redrawn V d) os):=fun d os=>(hO.keep hV).keep (below_regrown V d os)
    have ghK:=(hK.keep hV).grown
    have ghE:=(hE.keep hV).grown
    have ldY:∀ w',(∃ p:Regrown,w'=grow (redrawn V p.d) p.os)→w'.rangeAt bd 0 (A.map fun z=>Value.int .u8 z):=by rintro w' ⟨p,rfl⟩;exact ((hY.keep hV).keep (below_regrown V p.d p.os)).2
    have hl32:=hY.1
    unfold Gr
    simp only [List.take_succ_cons,List.take_zero]
    repeat
      first
        | go_big_quiet_skip
        | (go_big_quiet_want;go_big_quiet_op;go_big_quiet_on)
        | (go_big_quiet_want;refine eF 26 _ rfl bd 0 rfl (A.map fun z=>Value.int .u8 z) _ ldY Tryz.underlying26 rfl (by rw [List.length_map,hl32];kernel_rfl) ?_;simp only [Act.put,List.setIfInBounds_toArray,List.set_cons_succ,List.set_cons_zero];go_big_quiet_on)
        | (go_big_quiet_want
           go_big_quiet_op
           apply Exists.intro
           refine ⟨fun p=>?_,?_⟩
           · (first|(go_at_call 30;with_reducible exact Calls.regrown_of (CN.out _ (hDg p.d p.os)))|(go_at_call 23;with_reducible exact Calls.regrown_of (CG.out _ (hDg p.d p.os) (hOg p.d p.os)))|(go_at_call 31;with_reducible exact Calls.regrown_of (CT.out _ (hDg p.d p.os))))
           go_big_quiet_on)
    refine wpQuiet_nil ?_
    exact rfl
  case EE1 =>
    obtain ⟨c0,c1,c2,c3,c4,c5,c6,c7,c8⟩:=((Bk9.new rfl).keep h1).cells
    obtain ⟨f0,f1,f2,f3,f4,f5,f6,f7,f8⟩:=((Bk9.new rfl).keep h1).free
    unfold put9
    simp [execOp,Act.put,Act.eval,go_sem,c0,c1,c2,c3,c4,c5,c6,c7,c8,f0,f1,f2,f3,f4,f5,f6,f7,f8]
  case TT1 =>
    have hN:=(((Bk9.new rfl).keep h1).put9 r s od).keep h2
    have hb:=ap h0 h1
    have nhD:V0.heap.size≠1:=Nat.ne_of_gt (Nat.lt_of_lt_of_le hD.lt h0.size)
    have nhO:V0.heap.size≠0:=Nat.ne_of_gt (Nat.lt_of_lt_of_le hO.lt h0.size)
    have nhK:V0.heap.size≠w.heap.size:=Nat.ne_of_gt (Nat.lt_of_lt_of_le hK.lt h0.size)
    have nhE:V0.heap.size≠bn:=Nat.ne_of_gt (Nat.lt_of_lt_of_le hE.lt h0.size)
    have nhY:V0.heap.size≠bd:=Nat.ne_of_gt (Nat.lt_of_lt_of_le hY.lt h0.size)
    have nhR:V0.heap.size≠br:=Nat.ne_of_gt (Nat.lt_of_lt_of_le hR.lt h0.size)
    have gn:w.heap.size≤V0.heap.size:=Nat.le_trans B.size h0.size
    have B1:=fD (x':=r) (y':=s) (j:=od) (B.trans (hb.mono B.size)) gn
    replace B:=B1.trans (h2.mono B1.size)
    replace hD:=((hD.keep hb).put9 nhD).keep h2
    replace hO:=((hO.keep hb).put9 nhO).keep h2
    replace hK:=((hK.keep hb).put9 nhK).keep h2
    replace hE:=((hE.keep hb).put9 nhE).keep h2
    replace hY:=((hY.keep hb).put9 nhY).keep h2
    replace hR:=((hR.keep hb).put9b nhR).keep h2
    clear hb h0 h1 h2 B1 W gn nhD nhO nhK nhE nhY nhR
    generalize V0.heap.size=bs at *
    clear V V0
    have gN:=hN.cells
    simp only [List.drop_succ_cons,List.drop_zero,Act.put,List.setIfInBounds_toArray,List.set_cons_zero,List.set_cons_succ]
    go_wp2_with fail
    refine aa (fun W=>Below w.heap.size w W∧Mds W∧aM W∧Nm W w.heap.size key∧Nm W bn non∧HAt W bd A∧Bk9 W br∧Pnt W bs r s od) ⟨B,hD,hO,hK,hE,hY,hR,hN⟩ ?_
    clear B hN gN hD hO hK hE hY hR
    rintro W ⟨B,hD,hO,hK,hE,hY,hR,hS⟩
    clear w1
    with_reducible refine (CL.out _ hD).mono ?_
    rintro e w9 ⟨rfl,hb⟩
    replace B:=B.trans (hb.mono B.size)
    replace hD:=hD.keep hb;replace hO:=hO.keep hb;replace hK:=hK.keep hb;replace hE:=hE.keep hb;replace hY:=hY.keep hb;replace hR:=hR.keep hb;replace hS:=hS.keep hb
    clear hb W hD hO hK hE hY hS
    have gR:=hR.cells;have fR:=hR.free
    go_wp2
    simp [bodyPost,results,Tryz.results17,go_sem,gR]
    repeat (first|with_reducible exact B|with_reducible refine Below.setCell ?_ o3 _)
def swS (key non dg X:Int):Int:=ag nN (ag nN (dg+ag nN (X*key))*fi nN non)
open Go.RowKit Go.Sort
def dgN (A:List Int):Int:=ag nN (aS A 32)
def oddB (y:Int):Bool:=decide (cG y 0=1)
structure SwR where
 r:Int
 s:Int
 o:Bool
 e:Int
def swR (key non:Int) (A:List Int) (X Y:Int):SwR :=
 if (cM key&&cM non)=false then ⟨0,0,false,60⟩ else if ¬X<nN then ⟨0,0,false,64⟩ else if X=0∨swS key non (dgN A) X=0 then ⟨0,0,false,65⟩ else
  if qL (swS key non (dgN A) X) then ⟨X,swS key non (dgN A) X,oddB Y,0⟩ else ⟨X,ag nN (0-swS key non (dgN A) X),!oddB Y,0⟩
theorem pV {x:Int} (h:cM x=true):x≠0∧x<nN:=by
 unfold cM at h
 simpa using h
theorem yG {key non X Y:Int} {A:List Int} {j:Bool} (hk:Num key) (hn:Num non) (hA:dR A) (hl:A.length=32) (hv:Vd X Y j) (ev:bI X Y j=EC.smul non.toNat EC.gJ.pt) :
  ∀ w,Mds w→aM w→Rt 17 #[U4 key,U4 non,aO A] w (.tuple #[.agg #[.int .u64 (l0 (swR key non A X Y).r),.int .u64 (l1 (swR key non A X Y).r),.int .u64 (l2 (swR key non A X Y).r),.int .u64 (l3 (swR key non A X Y).r),.int .u64 (l0 (swR key non A X Y).s),.int .u64 (l1 (swR key non A X Y).s),.int .u64 (l2 (swR key non A X Y).s),.int .u64 (l3 (swR key non A X Y).s),.bool (swR key non A X Y).o],.int .i64 (swR key non A X Y).e]):=fun w hm hc=>by
 have nX:=hv.low.1.num;have nY:=hv.low.2.num
 have i1:=dE hk;have i2:=dE hn
 cases h1:cM key with
 | false =>
  rw [h1] at i1
  have e:swR key non A X Y=⟨0,0,false,60⟩:=by unfold swR;rw [h1,Bool.false_and,if_pos rfl]
  rw [e]
  exact wL hl i1 w hm hc
 | true =>
  rw [h1] at i1
  cases h2:cM non with
  | false =>
   rw [h2] at i2
   have e:swR key non A X Y=⟨0,0,false,60⟩:=by unfold swR;rw [h1,h2,Bool.and_false,if_pos rfl]
   rw [e]
   exact wM hl i1 i2 w hm hc
  | true =>
   rw [h2] at i2
   have CN:Hid (∀ w,Mds w→Rt 30 #[.agg ((A.map fun z=>Value.int .u8 z).toArray)] w (U4 (dgN A))):=fun w hm=>j6 hA hl w hm
   have CG:Hid (∀ w,Mds w→aM w→Rt 23 #[U4 non] w (P9 X Y j)):=fun w hm hc=>tW hn hv ev w hm hc
   have b0:swR key non A X Y=if ¬X<nN then ⟨0,0,false,64⟩ else if X=0∨swS key non (dgN A) X=0 then ⟨0,0,false,65⟩ else if qL (swS key non (dgN A) X) then ⟨X,swS key non (dgN A) X,oddB Y,0⟩ else ⟨X,ag nN (0-swS key non (dgN A) X),!oddB Y,0⟩:=by
    unfold swR;rw [h1,h2,Bool.and_self,if_neg (by decide)]
   have nd:Num (dgN A):=ae dY _
   have hz:ag nN non≠0:=by
    obtain ⟨a1,a2⟩:=pV h2
    rw [fC hn.1 a2];exact a1
   have BL:∀ v,decide (X<nN)=v→Hid (∀ w,Mds w→Rt 27 #[U4 X] w (.bool v)):=fun v e w hm=>j5 (fun w hm=>iV w hm) (fun w=>oo nX jp w) ((oF X nN).trans e) w hm
   by_cases c1:X<nN
   ·rw [if_neg (not_not_intro c1)] at b0
    have ns:Num (swS key non (dgN A) X):=ae dY _
    have A1:Hid (∀ w,Mds w→Rt 50 #[U4 X,U4 key] w (U4 (ag nN (X*key)))):=mX nX hk
    have A2:Hid (∀ w,Mds w→Rt 60 #[U4 (dgN A),U4 (ag nN (X*key))] w (.agg #[.int .u64 (l0 (ag nN (dgN A+ag nN (X*key)))),.int .u64 (l1 (ag nN (dgN A+ag nN (X*key)))),.int .u64 (l2 (ag nN (dgN A+ag nN (X*key)))),.int .u64 (l3 (ag nN (dgN A+ag nN (X*key))))])):=vW nd (ae dY _)
    have A3:=vY hn hz
    have A4:Hid (∀ w,Mds w→Rt 50 #[.agg #[.int .u64 (l0 (ag nN (dgN A+ag nN (X*key)))),.int .u64 (l1 (ag nN (dgN A+ag nN (X*key)))),.int .u64 (l2 (ag nN (dgN A+ag nN (X*key)))),.int .u64 (l3 (ag nN (dgN A+ag nN (X*key))))],U4 (fi nN non)] w (U4 (swS key non (dgN A) X))):=mX (ae dY _) (bY dY _ _)
    have C0:=BL true (decide_eq_true c1)
    by_cases c2:X=0∨swS key non (dgN A) X=0
    ·rw [if_pos c2] at b0
     rw [b0]
     refine sj hl i1 i2 CN CG (fun w hm=>?_) (by decide) w hm hc
     by_cases c3:X=0
     ·exact wx C0 A1 A2 A3 A4 (fun w=>cR (jq nX (decide_eq_true c3)) w) w hm
     ·have c4:swS key non (dgN A) X=0:=c2.resolve_left c3
      exact wA C0 A1 A2 A3 A4 (fun w=>cR (jq nX (decide_eq_false c3)) w) (fun w=>cR (jq ns (decide_eq_true c4)) w) w hm
    ·rw [if_neg c2] at b0
     have c3:X≠0:=fun e=>c2 (.inl e)
     have c4:swS key non (dgN A) X≠0:=fun e=>c2 (.inr e)
     have CT:=fun w hm=>wB C0 A1 A2 A3 A4 (fun w=>cR (jq nX (decide_eq_false c3)) w) (fun w=>cR (jq ns (decide_eq_false c4)) w) (fun w=>wg nY w) (i:=j) w hm
     have LW:=vV ns
     cases h5:qL (swS key non (dgN A) X) with
     | true =>
      rw [h5] at LW b0
      rw [if_pos rfl] at b0
      rw [b0]
      exact wN hl i1 i2 CN CG CT (fun w hm=>oM LW w hm) w hm hc
     | false =>
      rw [h5] at LW b0
      rw [if_neg (by decide)] at b0
      rw [b0]
      exact wN hl i1 i2 CN CG CT (fun w hm=>pK LW (vX ns) w hm) w hm hc
   ·rw [if_pos c1] at b0
    rw [b0]
    exact sj hl i1 i2 CN CG (fun w hm=>yu (BL false (decide_eq_false c1)) w hm) (by decide) w hm hc
open Go.RowKit Go.Sort
theorem rh {x y x' y':Int} {i j:Bool} (hx:Num x) (hy:Num y) (hx':Num x') (hy':Num y') (w:World) :
  (Op.equalIn 10000 28 (P9 x y i) (P9 x' y' j)).run Tryz.prog w = .ok (decide (x=x')&&(decide (y=y')&&(i==j))) w:=by
 have e1:=sg hx hx'
 have e2:=sg hy hy'
 have tf : (Tryz.prog.fieldsOf 28) = #[{ name := "R", type := 24, offset := 0, embedded := false, tag := "", pkgPath := "", byteOffset := 0 }, { name := "S", type := 24, offset := 4, embedded := false, tag := "", pkgPath := "", byteOffset := 32 }, { name := "Odd", type := 4, offset := 8, embedded := false, tag := "", pkgPath := "", byteOffset := 64 }] := by
  unfold Program.fieldsOf;rw [Tryz.underlying28]
 rw [show (10000:Nat)=9999+1 from rfl,run_equalIn_struct w 9999 _ _ _ (by rw [tf];exact Tryz.underlying28) (by kernel_rfl),tf]
 have tu:=Tryz.underlying4
 have ta:=Tryz.isAgg4
 have tz:=Tryz.sizeOf4
 have ta':=Tryz.isAgg24
 have tz':=Tryz.sizeOf24
 simp only [Op.eqFields]
 go_simp
 by_cases h1:x=x'<;>by_cases h2:y=y'<;>by_cases h3:i=j<;>simp [h1,h2,h3]
open Go.RowKit Go.Sort
theorem Nm.new {W:World} {b:Nat} {t:TypeId} {n:Int} (e:b=W.heap.size):Nm (W.alloc (.cells #[.int .u64 (l0 n),.int .u64 (l1 n),.int .u64 (l2 n),.int .u64 (l3 n)] t)) b n:=Cl.new _ e rfl
open Go.RowKit Go.Sort
theorem Ae (Y:Int) (h:Num Y):oddB Y=((l0 Y).tmod 2==1):=by
 unfold oddB cG l0
 rw [if_neg (by decide)]
 have h0:=h.1
 have e:(Y%18446744073709551616).tmod 2=Y%2:=by
  rw [Int.tmod_eq_emod_of_nonneg (by omega)];omega
 rw [e]
 have e2:Y/2 ^ (0:Int).toNat%2=Y%2:=by simp
 rw [e2]
 by_cases h1:Y%2=1<;>simp [h1]
theorem tX {x:Int}:0≤ag nN x∧ag nN x<nN:=fu dY x
theorem tY {s:Int} (h0:0<s) (h1:s<nN):ag nN (0-s)=nN-s:=by
 unfold ag
 have:(0-s)%nN=(0-s+nN)%nN:=by rw [Int.add_emod_right]
 rw [this,Int.emod_eq_of_lt (by omega) (by omega)]
 omega
open Go.RowKit Go.Sort
theorem Bk9.put4 {W:World} {b b':Nat} {n:Int} (h:Bk9 W b) (ne:b'≠b):Bk9 (Go.Proofs.YtnnnaajgjniiaaaGreatDoor.put4 W b' n) b:=by
 unfold Go.Proofs.YtnnnaajgjniiaaaGreatDoor.put4
 exact h.set4 ne _ _ _ _
def Pvr (W:World) (b:Nat) (x y:Int) (i:Bool):Prop:=Pnt W b x y i∧au W b 9
theorem Pvr.lt {W:World} {b:Nat} {x y:Int} {i:Bool} (h:Pvr W b x y i):b<W.heap.size:=h.1.lt
theorem Pvr.keep {W w1:World} {b:Nat} {x y:Int} {i:Bool} (h:Pvr W b x y i) (hb:Below W.heap.size W w1):Pvr w1 b x y i:=⟨h.1.keep hb,h.2.keep hb h.lt⟩
theorem Pvr.put4 {W:World} {b b':Nat} {x y n:Int} {i:Bool} (h:Pvr W b x y i) (ne:b'≠b):Pvr (Go.Proofs.YtnnnaajgjniiaaaGreatDoor.put4 W b' n) b x y i:=⟨h.1.put4 ne,by
 unfold Go.Proofs.YtnnnaajgjniiaaaGreatDoor.put4
 exact (((h.2.set _ _).set _ _).set _ _).set _ _⟩
theorem Pvr.new {W:World} {b:Nat} {t:TypeId} {x y:Int} {i:Bool} (e:b=W.heap.size):Pvr (W.alloc (.cells #[.int .u64 (l0 x),.int .u64 (l1 x),.int .u64 (l2 x),.int .u64 (l3 x),.int .u64 (l0 y),.int .u64 (l1 y),.int .u64 (l2 y),.int .u64 (l3 y),.bool i] t)) b x y i:=⟨Pnt.new e,iB (by simp [e])⟩
theorem tZ {key non:Int} {A:List Int} {vb:Bool} (hl:A.length=32) (F1:Hid (∀ w,Rt 18 #[U4 key] w (.bool false))) (F2:Hid (∀ w,Rt 18 #[U4 non] w (.bool vb))) (w:World) :
  Rt 37 #[U4 key,U4 non,aO A] w (.tuple #[.agg #[.int .u64 (l0 0),.int .u64 (l1 0),.int .u64 (l2 0),.int .u64 (l3 0),.int .u64 (l0 0),.int .u64 (l1 0),.int .u64 (l2 0),.int .u64 (l3 0),.bool false],.int .i64 60]):=by
 obtain ⟨z0,z1,z2,z3⟩:=aq
 ((try unfold Rt);(try unfold U4);(try unfold P9);rw [z0,z1,z2,z3])
 clear z0 z1 z2 z3
 unfold aO at *
 go_enter Tryz.func37,Tryz.ntmps37
 go_wp2_with fail
 refine aa (fun W=>Below w.heap.size w W∧Nm W w.heap.size key∧Nm W (w.heap.size+1) non∧HAt W (w.heap.size+1+1) A∧Bk9 W (w.heap.size+1+1+1)) ⟨by repeat (first|with_reducible exact Below.refl _ _|with_reducible refine Below.alloc ?_ (by first|omega|(simp;done)|(simp;omega)) _),((Nm.alloc (Cl.new _ rfl rfl) _).alloc _).alloc _,(Nm.alloc (Cl.new _ (by simp) rfl) _).alloc _,(HAt.new hl (by simp)).alloc _,Bk9.new (by simp)⟩ ?_
 rintro W ⟨B,hK,hE,hY,hR⟩
 have o3:w.heap.size≤w.heap.size+1+1+1:=by omega
 generalize w.heap.size+1+1+1=br at *
 generalize w.heap.size+1+1=bd at *
 generalize w.heap.size+1=bn at *
 with_reducible refine (F1.out _).mono ?_
 rintro e w1 ⟨rfl,hb⟩
 replace B:=B.trans (hb.mono B.size)
 replace hK:=hK.keep hb;replace hE:=hE.keep hb;replace hY:=hY.keep hb;replace hR:=hR.keep hb
 clear hb W
 have ghE:=hE.cells
 go_wp2_with fail
 refine aa (fun W=>Below w.heap.size w W∧Nm W w.heap.size key∧Nm W bn non∧HAt W bd A∧Bk9 W br) ⟨B,hK,hE,hY,hR⟩ ?_
 clear B hK hE hY hR ghE
 rintro W ⟨B,hK,hE,hY,hR⟩
 with_reducible refine (F2.out _).mono ?_
 rintro e w9 ⟨rfl,hb⟩
 replace B:=B.trans (hb.mono B.size)
 replace hK:=hK.keep hb;replace hE:=hE.keep hb;replace hY:=hY.keep hb;replace hR:=hR.keep hb
 clear hb W hK hE hY
 have gR:=hR.cells;have fR:=hR.free
 go_wp2
 simp [bodyPost,results,Tryz.results37,go_sem,gR]
 repeat (first|with_reducible exact B|with_reducible refine Below.setCell ?_ o3 _)
theorem ua {key non:Int} {A:List Int} (hl:A.length=32) (F1:Hid (∀ w,Rt 18 #[U4 key] w (.bool true))) (F2:Hid (∀ w,Rt 18 #[U4 non] w (.bool false))) (w:World) :
  Rt 37 #[U4 key,U4 non,aO A] w (.tuple #[.agg #[.int .u64 (l0 0),.int .u64 (l1 0),.int .u64 (l2 0),.int .u64 (l3 0),.int .u64 (l0 0),.int .u64 (l1 0),.int .u64 (l2 0),.int .u64 (l3 0),.bool false],.int .i64 60]):=by
 obtain ⟨z0,z1,z2,z3⟩:=aq
 ((try unfold Rt);(try unfold U4);(try unfold P9);rw [z0,z1,z2,z3])
 clear z0 z1 z2 z3
 unfold aO at *
 go_enter Tryz.func37,Tryz.ntmps37
 go_wp2_with fail
 refine aa (fun W=>Below w.heap.size w W∧Nm W w.heap.size key∧Nm W (w.heap.size+1) non∧HAt W (w.heap.size+1+1) A∧Bk9 W (w.heap.size+1+1+1)) ⟨by repeat (first|with_reducible exact Below.refl _ _|with_reducible refine Below.alloc ?_ (by first|omega|(simp;done)|(simp;omega)) _),((Nm.alloc (Cl.new _ rfl rfl) _).alloc _).alloc _,(Nm.alloc (Cl.new _ (by simp) rfl) _).alloc _,(HAt.new hl (by simp)).alloc _,Bk9.new (by simp)⟩ ?_
 rintro W ⟨B,hK,hE,hY,hR⟩
 have o3:w.heap.size≤w.heap.size+1+1+1:=by omega
 generalize w.heap.size+1+1+1=br at *
 generalize w.heap.size+1+1=bd at *
 generalize w.heap.size+1=bn at *
 with_reducible refine (F1.out _).mono ?_
 rintro e w1 ⟨rfl,hb⟩
 replace B:=B.trans (hb.mono B.size)
 replace hK:=hK.keep hb;replace hE:=hE.keep hb;replace hY:=hY.keep hb;replace hR:=hR.keep hb
 clear hb W
 have ghE:=hE.cells
 go_wp2_with fail
 refine aa (fun W=>Below w.heap.size w W∧Nm W w.heap.size key∧Nm W bn non∧HAt W bd A∧Bk9 W br) ⟨B,hK,hE,hY,hR⟩ ?_
 clear B hK hE hY hR ghE
 rintro W ⟨B,hK,hE,hY,hR⟩
 with_reducible refine (F2.out _).mono ?_
 rintro e w9 ⟨rfl,hb⟩
 replace B:=B.trans (hb.mono B.size)
 replace hK:=hK.keep hb;replace hE:=hE.keep hb;replace hY:=hY.keep hb;replace hR:=hR.keep hb
 clear hb W hK hE hY
 have gR:=hR.cells;have fR:=hR.free
 go_wp2
 simp [bodyPost,results,Tryz.results37,go_sem,gR]
 repeat (first|with_reducible exact B|with_reducible refine Below.setCell ?_ o3 _)
theorem Af {key non X Y n q:Int} {j:Bool} {A:List Int} (hl:A.length=32) (F1:Hid (∀ w,Rt 18 #[U4 key] w (.bool true))) (F2:Hid (∀ w,Rt 18 #[U4 non] w (.bool true))) (MG:Hid (∀ w,Rt 68 #[U4 non] w (P9 X Y j))) (OR:Hid (∀ w,Rt 34 #[] w (U4 n))) (CP:Hid (∀ w,Rt 33 #[U4 X,U4 n] w (.int .i64 q))) (hq:decide (0≤q)=true) (w:World) :
    Rt 37 #[U4 key,U4 non,aO A] w (.tuple #[.agg #[.int .u64 (l0 0),.int .u64 (l1 0),.int .u64 (l2 0),.int .u64 (l3 0),.int .u64 (l0 0),.int .u64 (l1 0),.int .u64 (l2 0),.int .u64 (l3 0),.bool false],.int .i64 64]):=by
  obtain ⟨z0,z1,z2,z3⟩:=aq
  ((try unfold Rt);(try unfold U4);(try unfold P9);rw [z0,z1,z2,z3])
  clear z0 z1 z2 z3
  unfold aO at *
  go_enter Tryz.func37,Tryz.ntmps37
  go_wp2_with fail
  refine aa (fun W=>Below w.heap.size w W∧Nm W w.heap.size key∧Nm W (w.heap.size+1) non∧HAt W (w.heap.size+1+1) A∧Bk9 W (w.heap.size+1+1+1)) ⟨by repeat (first|with_reducible exact Below.refl _ _|with_reducible refine Below.alloc ?_ (by first|omega|(simp;done)|(simp;omega)) _),((Nm.alloc (Cl.new _ rfl rfl) _).alloc _).alloc _,(Nm.alloc (Cl.new _ (by simp) rfl) _).alloc _,(HAt.new hl (by simp)).alloc _,Bk9.new (by simp)⟩ ?_
  rintro W ⟨B,hK,hE,hY,hR⟩
  have o3:w.heap.size≤w.heap.size+1+1+1:=by omega
  generalize w.heap.size+1+1+1=br at *
  generalize w.heap.size+1+1=bd at *
  generalize w.heap.size+1=bn at *
  with_reducible refine (F1.out _).mono ?_
  rintro e w1 ⟨rfl,hb⟩
  replace B:=B.trans (hb.mono B.size)
  replace hK:=hK.keep hb;replace hE:=hE.keep hb;replace hY:=hY.keep hb;replace hR:=hR.keep hb
  clear hb W
  have ghE:=hE.cells
  go_wp2_with fail
  refine aa (fun W=>Below w.heap.size w W∧Nm W w.heap.size key∧Nm W bn non∧HAt W bd A∧Bk9 W br) ⟨B,hK,hE,hY,hR⟩ ?_
  clear B hK hE hY hR ghE
  rintro W ⟨B,hK,hE,hY,hR⟩
  with_reducible refine (F2.out _).mono ?_
  rintro e w2 ⟨rfl,hb⟩
  replace B:=B.trans (hb.mono B.size)
  replace hK:=hK.keep hb;replace hE:=hE.keep hb;replace hY:=hY.keep hb;replace hR:=hR.keep hb
  clear hb W
  have ghE:=hE.cells
  go_wp2_with fail
  refine aa (fun W=>Below w.heap.size w W∧Nm W w.heap.size key∧Nm W bn non∧HAt W bd A∧Bk9 W br) ⟨B,hK,hE,hY,hR⟩ ?_
  clear B hK hE hY hR ghE
  rintro W ⟨B,hK,hE,hY,hR⟩
  with_reducible refine (MG.out _).mono ?_
  rintro e w3 ⟨rfl,hb⟩
  replace B:=B.trans (hb.mono B.size)
  replace hK:=hK.keep hb;replace hE:=hE.keep hb;replace hY:=hY.keep hb;replace hR:=hR.keep hb
  clear hb W
  go_wp2_with fail
  refine af (fun W=>Below w.heap.size w W∧Nm W w.heap.size key∧Nm W bn non∧HAt W bd A∧Bk9 W br∧Pnt W w3.heap.size X Y j) ⟨B.alloc B.size _,hK.alloc _,hE.alloc _,hY.alloc _,hR.alloc _,Pnt.new rfl⟩ ?_
  clear B hK hE hY hR
  rintro W ⟨B,hK,hE,hY,hR,hP⟩
  generalize w3.heap.size=bp at *
  have ghP:=hP.grown
  refine wp_region_quiet_below (by kernel_rfl) (by kernel_rfl) ?_
  repeat
    first
      | go_big_quiet_skip
      | (go_big_quiet_want;go_big_quiet_op;go_big_quiet_on)
      | (go_big_quiet_want
         go_big_quiet_op
         apply Exists.intro
         refine ⟨fun p=>?_,?_⟩
         · (first|(go_at_call 34;with_reducible exact Calls.regrown_of (OR.out _))|(go_at_call 33;with_reducible exact Calls.regrown_of (CP.out _)))
         go_big_quiet_on)
  refine wpQuiet_nil ?_
  rintro w4 ⟨p,rfl⟩
  have hb:=below_regrown W p.d p.os
  generalize grow (redrawn W p.d) p.os=w4 at *
  replace B:=B.trans (hb.mono B.size)
  replace hK:=hK.keep hb;replace hE:=hE.keep hb;replace hY:=hY.keep hb;replace hR:=hR.keep hb;replace hP:=hP.keep hb
  clear hb W ghP
  clear hK hE hY hP
  have gR:=hR.cells;have fR:=hR.free
  go_wp2
  simp [bodyPost,results,Tryz.results37,go_sem,gR]
  repeat (first|with_reducible exact B|with_reducible refine Below.setCell ?_ o3 _)
theorem yH {key non X Y n q dg a b v s:Int} {j:Bool} {A:List Int} (hl:A.length=32) (F1:Hid (∀ w,Rt 18 #[U4 key] w (.bool true))) (F2:Hid (∀ w,Rt 18 #[U4 non] w (.bool true))) (MG:Hid (∀ w,Rt 68 #[U4 non] w (P9 X Y j))) (OR:Hid (∀ w,Rt 34 #[] w (U4 n))) (CP:Hid (∀ w,Rt 33 #[U4 X,U4 n] w (.int .i64 q))) (hq:decide (0≤q)=false) (CN:Hid (∀ w,Rt 65 #[.agg ((A.map fun z=>Value.int .u8 z).toArray)] w (U4 dg))) (A1:Hid (∀ w,Rt 69 #[U4 X,U4 key] w (U4 a))) (A2:Hid (∀ w,Rt 70 #[U4 dg,U4 a] w (U4 b))) (A3:Hid (∀ w,Rt 71 #[U4 non] w (U4 v))) (A4:Hid (∀ w,Rt 69 #[U4 b,U4 v] w (U4 s))) (E1:∀ w,(Op.equalIn 10000 24 (U4 X) (.agg #[.int .u64 0,.int .u64 0,.int .u64 0,.int .u64 0])).run Tryz.prog w = .ok true w) (w:World) :
    Rt 37 #[U4 key,U4 non,aO A] w (.tuple #[.agg #[.int .u64 (l0 0),.int .u64 (l1 0),.int .u64 (l2 0),.int .u64 (l3 0),.int .u64 (l0 0),.int .u64 (l1 0),.int .u64 (l2 0),.int .u64 (l3 0),.bool false],.int .i64 65]):=by
  obtain ⟨z0,z1,z2,z3⟩:=aq
  ((try unfold Rt);(try unfold U4);(try unfold P9);rw [z0,z1,z2,z3])
  clear z0 z1 z2 z3
  unfold aO at *
  go_enter Tryz.func37,Tryz.ntmps37
  go_wp2_with fail
  refine aa (fun W=>Below w.heap.size w W∧Nm W w.heap.size key∧Nm W (w.heap.size+1) non∧HAt W (w.heap.size+1+1) A∧Bk9 W (w.heap.size+1+1+1)) ⟨by repeat (first|with_reducible exact Below.refl _ _|with_reducible refine Below.alloc ?_ (by first|omega|(simp;done)|(simp;omega)) _),((Nm.alloc (Cl.new _ rfl rfl) _).alloc _).alloc _,(Nm.alloc (Cl.new _ (by simp) rfl) _).alloc _,(HAt.new hl (by simp)).alloc _,Bk9.new (by simp)⟩ ?_
  rintro W ⟨B,hK,hE,hY,hR⟩
  have o3:w.heap.size≤w.heap.size+1+1+1:=by omega
  generalize w.heap.size+1+1+1=br at *
  generalize w.heap.size+1+1=bd at *
  generalize w.heap.size+1=bn at *
  with_reducible refine (F1.out _).mono ?_
  rintro e w1 ⟨rfl,hb⟩
  replace B:=B.trans (hb.mono B.size)
  replace hK:=hK.keep hb;replace hE:=hE.keep hb;replace hY:=hY.keep hb;replace hR:=hR.keep hb
  clear hb W
  have ghE:=hE.cells
  go_wp2_with fail
  refine aa (fun W=>Below w.heap.size w W∧Nm W w.heap.size key∧Nm W bn non∧HAt W bd A∧Bk9 W br) ⟨B,hK,hE,hY,hR⟩ ?_
  clear B hK hE hY hR ghE
  rintro W ⟨B,hK,hE,hY,hR⟩
  with_reducible refine (F2.out _).mono ?_
  rintro e w2 ⟨rfl,hb⟩
  replace B:=B.trans (hb.mono B.size)
  replace hK:=hK.keep hb;replace hE:=hE.keep hb;replace hY:=hY.keep hb;replace hR:=hR.keep hb
  clear hb W
  have ghE:=hE.cells
  go_wp2_with fail
  refine aa (fun W=>Below w.heap.size w W∧Nm W w.heap.size key∧Nm W bn non∧HAt W bd A∧Bk9 W br) ⟨B,hK,hE,hY,hR⟩ ?_
  clear B hK hE hY hR ghE
  rintro W ⟨B,hK,hE,hY,hR⟩
  with_reducible refine (MG.out _).mono ?_
  rintro e w3 ⟨rfl,hb⟩
  replace B:=B.trans (hb.mono B.size)
  replace hK:=hK.keep hb;replace hE:=hE.keep hb;replace hY:=hY.keep hb;replace hR:=hR.keep hb
  clear hb W
  go_wp2_with fail
  refine af (fun W=>Below w.heap.size w W∧Nm W w.heap.size key∧Nm W bn non∧HAt W bd A∧Bk9 W br∧Pnt W w3.heap.size X Y j) ⟨B.alloc B.size _,hK.alloc _,hE.alloc _,hY.alloc _,hR.alloc _,Pnt.new rfl⟩ ?_
  clear B hK hE hY hR
  rintro W ⟨B,hK,hE,hY,hR,hP⟩
  generalize w3.heap.size=bp at *
  have ghP:=hP.grown
  refine wp_region_quiet_below (by kernel_rfl) (by kernel_rfl) ?_
  repeat
    first
      | go_big_quiet_skip
      | (go_big_quiet_want;go_big_quiet_op;go_big_quiet_on)
      | (go_big_quiet_want
         go_big_quiet_op
         apply Exists.intro
         refine ⟨fun p=>?_,?_⟩
         · (first|(go_at_call 34;with_reducible exact Calls.regrown_of (OR.out _))|(go_at_call 33;with_reducible exact Calls.regrown_of (CP.out _)))
         go_big_quiet_on)
  refine wpQuiet_nil ?_
  rintro w4 ⟨p,rfl⟩
  have hb:=below_regrown W p.d p.os
  generalize grow (redrawn W p.d) p.os=w4 at *
  replace B:=B.trans (hb.mono B.size)
  replace hK:=hK.keep hb;replace hE:=hE.keep hb;replace hY:=hY.keep hb;replace hR:=hR.keep hb;replace hP:=hP.keep hb
  clear hb W ghP
  have ra:=hY.2
  go_wp2_with (refine wpList_load_mid rfl 26 _ rfl bd 0 rfl (A.map fun z=>Value.int .u8 z) _ ra Tryz.underlying26 rfl (by rw [List.length_map,hl];kernel_rfl) ?_)
  clear ra
  refine aa (fun W=>Below w.heap.size w W∧Nm W w.heap.size key∧Nm W bn non∧HAt W bd A∧Bk9 W br∧Pnt W bp X Y j) ⟨B,hK,hE,hY,hR,hP⟩ ?_
  clear B hK hE hY hR hP
  rintro W ⟨B,hK,hE,hY,hR,hP⟩
  clear w4
  with_reducible refine (CN.out _).mono ?_
  rintro e w5 ⟨rfl,hb⟩
  replace B:=B.trans (hb.mono B.size)
  replace hK:=hK.keep hb;replace hE:=hE.keep hb;replace hY:=hY.keep hb;replace hR:=hR.keep hb;replace hP:=hP.keep hb
  clear hb W
  go_wp2_with fail
  refine af (fun W=>Below w.heap.size w W∧Nm W w.heap.size key∧Nm W bn non∧HAt W bd A∧Bk9 W br∧Pnt W bp X Y j∧Nm W w5.heap.size dg) ⟨B.alloc B.size _,hK.alloc _,hE.alloc _,hY.alloc _,hR.alloc _,hP.alloc _,Nm.new rfl⟩ ?_
  clear B hK hE hY hR hP
  rintro W ⟨B,hK,hE,hY,hR,hP,hG⟩
  generalize w5.heap.size=bg at *
  clear hY
  refine aD (A:=?AA1) 9 (by kernel_rfl) (by kernel_rfl) rfl rfl (aB _ _ _) (fun V hV=>?HH1) (fun V w1 hV hw=>?TT1)
  case HH1 =>
    have ghK:=(hK.keep hV).grown
    have ghE:=(hE.keep hV).grown
    have ghP:=(hP.keep hV).grown
    have ghG:=(hG.keep hV).grown
    unfold Gr
    simp only [List.take_succ_cons,List.take_zero]
    repeat
      first
        | go_big_quiet_skip
        | (go_big_quiet_want;go_big_quiet_op;go_big_quiet_on)
        | (go_big_quiet_want
           go_big_quiet_op
           apply Exists.intro
           refine ⟨fun p=>?_,?_⟩
           · (first|(go_at_call 69;with_reducible exact Calls.regrown_of (A1.out _))|(go_at_call 70;with_reducible exact Calls.regrown_of (A2.out _))|(go_at_call 71;with_reducible exact Calls.regrown_of (A3.out _))|(go_at_call 69;with_reducible exact Calls.regrown_of (A4.out _)))
           go_big_quiet_on)
    refine wpQuiet_nil ?_
    exact rfl
  case TT1 =>
    have hb:=ap hV hw
    have hN:=(ac.new rfl).keep hw
    have nhK:V.heap.size≠w.heap.size:=Nat.ne_of_gt (Nat.lt_of_lt_of_le hK.lt hV.size)
    have nhE:V.heap.size≠bn:=Nat.ne_of_gt (Nat.lt_of_lt_of_le hE.lt hV.size)
    have nhR:V.heap.size≠br:=Nat.ne_of_gt (Nat.lt_of_lt_of_le hR.lt hV.size)
    have nhP:V.heap.size≠bp:=Nat.ne_of_gt (Nat.lt_of_lt_of_le hP.lt hV.size)
    have nhG:V.heap.size≠bg:=Nat.ne_of_gt (Nat.lt_of_lt_of_le hG.lt hV.size)
    have gn:w.heap.size≤V.heap.size:=Nat.le_trans B.size hV.size
    replace B:=B.trans (hb.mono B.size)
    replace hK:=hK.keep hb;replace hE:=hE.keep hb;replace hR:=hR.keep hb;replace hP:=hP.keep hb;replace hG:=hG.keep hb
    clear hb hw hV W
    generalize V.heap.size=bs at *
    clear V
    have gN:=hN.1.all4;have qN:=hN.2.all4
    have ghP:=hP.cells
    have mhK:=nhK.symm
    have mhE:=nhE.symm
    have mhR:=nhR.symm
    have mhP:=nhP.symm
    have mhG:=nhG.symm
    simp only [List.drop_succ_cons,List.drop_zero,Act.put,List.setIfInBounds_toArray,List.set_cons_zero,List.set_cons_succ]
    have gR:=hR.cells;have fR:=hR.free
    have BB:Hid (Below w.heap.size w w1):=B
    clear B
    go_wp2
    simp [bodyPost,results,Tryz.results37,go_sem, *]
    repeat (first|with_reducible exact BB.out|with_reducible refine Below.setCell ?_ o3 _|with_reducible refine Below.setCell ?_ gn _)
theorem yI {key non X Y n q dg a b v s:Int} {j:Bool} {A:List Int} (hl:A.length=32) (F1:Hid (∀ w,Rt 18 #[U4 key] w (.bool true))) (F2:Hid (∀ w,Rt 18 #[U4 non] w (.bool true))) (MG:Hid (∀ w,Rt 68 #[U4 non] w (P9 X Y j))) (OR:Hid (∀ w,Rt 34 #[] w (U4 n))) (CP:Hid (∀ w,Rt 33 #[U4 X,U4 n] w (.int .i64 q))) (hq:decide (0≤q)=false) (CN:Hid (∀ w,Rt 65 #[.agg ((A.map fun z=>Value.int .u8 z).toArray)] w (U4 dg))) (A1:Hid (∀ w,Rt 69 #[U4 X,U4 key] w (U4 a))) (A2:Hid (∀ w,Rt 70 #[U4 dg,U4 a] w (U4 b))) (A3:Hid (∀ w,Rt 71 #[U4 non] w (U4 v))) (A4:Hid (∀ w,Rt 69 #[U4 b,U4 v] w (U4 s))) (E1:∀ w,(Op.equalIn 10000 24 (U4 X) (.agg #[.int .u64 0,.int .u64 0,.int .u64 0,.int .u64 0])).run Tryz.prog w = .ok false w) (E2:∀ w,(Op.equalIn 10000 24 (U4 s) (.agg #[.int .u64 0,.int .u64 0,.int .u64 0,.int .u64 0])).run Tryz.prog w = .ok true w) (w:World) :
    Rt 37 #[U4 key,U4 non,aO A] w (.tuple #[.agg #[.int .u64 (l0 0),.int .u64 (l1 0),.int .u64 (l2 0),.int .u64 (l3 0),.int .u64 (l0 0),.int .u64 (l1 0),.int .u64 (l2 0),.int .u64 (l3 0),.bool false],.int .i64 65]):=by
  obtain ⟨z0,z1,z2,z3⟩:=aq
  ((try unfold Rt);(try unfold U4);(try unfold P9);rw [z0,z1,z2,z3])
  clear z0 z1 z2 z3
  unfold aO at *
  go_enter Tryz.func37,Tryz.ntmps37
  go_wp2_with fail
  refine aa (fun W=>Below w.heap.size w W∧Nm W w.heap.size key∧Nm W (w.heap.size+1) non∧HAt W (w.heap.size+1+1) A∧Bk9 W (w.heap.size+1+1+1)) ⟨by repeat (first|with_reducible exact Below.refl _ _|with_reducible refine Below.alloc ?_ (by first|omega|(simp;done)|(simp;omega)) _),((Nm.alloc (Cl.new _ rfl rfl) _).alloc _).alloc _,(Nm.alloc (Cl.new _ (by simp) rfl) _).alloc _,(HAt.new hl (by simp)).alloc _,Bk9.new (by simp)⟩ ?_
  rintro W ⟨B,hK,hE,hY,hR⟩
  have o3:w.heap.size≤w.heap.size+1+1+1:=by omega
  generalize w.heap.size+1+1+1=br at *
  generalize w.heap.size+1+1=bd at *
  generalize w.heap.size+1=bn at *
  with_reducible refine (F1.out _).mono ?_
  rintro e w1 ⟨rfl,hb⟩
  replace B:=B.trans (hb.mono B.size)
  replace hK:=hK.keep hb;replace hE:=hE.keep hb;replace hY:=hY.keep hb;replace hR:=hR.keep hb
  clear hb W
  have ghE:=hE.cells
  go_wp2_with fail
  refine aa (fun W=>Below w.heap.size w W∧Nm W w.heap.size key∧Nm W bn non∧HAt W bd A∧Bk9 W br) ⟨B,hK,hE,hY,hR⟩ ?_
  clear B hK hE hY hR ghE
  rintro W ⟨B,hK,hE,hY,hR⟩
  with_reducible refine (F2.out _).mono ?_
  rintro e w2 ⟨rfl,hb⟩
  replace B:=B.trans (hb.mono B.size)
  replace hK:=hK.keep hb;replace hE:=hE.keep hb;replace hY:=hY.keep hb;replace hR:=hR.keep hb
  clear hb W
  have ghE:=hE.cells
  go_wp2_with fail
  refine aa (fun W=>Below w.heap.size w W∧Nm W w.heap.size key∧Nm W bn non∧HAt W bd A∧Bk9 W br) ⟨B,hK,hE,hY,hR⟩ ?_
  clear B hK hE hY hR ghE
  rintro W ⟨B,hK,hE,hY,hR⟩
  with_reducible refine (MG.out _).mono ?_
  rintro e w3 ⟨rfl,hb⟩
  replace B:=B.trans (hb.mono B.size)
  replace hK:=hK.keep hb;replace hE:=hE.keep hb;replace hY:=hY.keep hb;replace hR:=hR.keep hb
  clear hb W
  go_wp2_with fail
  refine af (fun W=>Below w.heap.size w W∧Nm W w.heap.size key∧Nm W bn non∧HAt W bd A∧Bk9 W br∧Pnt W w3.heap.size X Y j) ⟨B.alloc B.size _,hK.alloc _,hE.alloc _,hY.alloc _,hR.alloc _,Pnt.new rfl⟩ ?_
  clear B hK hE hY hR
  rintro W ⟨B,hK,hE,hY,hR,hP⟩
  generalize w3.heap.size=bp at *
  have ghP:=hP.grown
  refine wp_region_quiet_below (by kernel_rfl) (by kernel_rfl) ?_
  repeat
    first
      | go_big_quiet_skip
      | (go_big_quiet_want;go_big_quiet_op;go_big_quiet_on)
      | (go_big_quiet_want
         go_big_quiet_op
         apply Exists.intro
         refine ⟨fun p=>?_,?_⟩
         · (first|(go_at_call 34;with_reducible exact Calls.regrown_of (OR.out _))|(go_at_call 33;with_reducible exact Calls.regrown_of (CP.out _)))
         go_big_quiet_on)
  refine wpQuiet_nil ?_
  rintro w4 ⟨p,rfl⟩
  have hb:=below_regrown W p.d p.os
  generalize grow (redrawn W p.d) p.os=w4 at *
  replace B:=B.trans (hb.mono B.size)
  replace hK:=hK.keep hb;replace hE:=hE.keep hb;replace hY:=hY.keep hb;replace hR:=hR.keep hb;replace hP:=hP.keep hb
  clear hb W ghP
  have ra:=hY.2
  go_wp2_with (refine wpList_load_mid rfl 26 _ rfl bd 0 rfl (A.map fun z=>Value.int .u8 z) _ ra Tryz.underlying26 rfl (by rw [List.length_map,hl];kernel_rfl) ?_)
  clear ra
  refine aa (fun W=>Below w.heap.size w W∧Nm W w.heap.size key∧Nm W bn non∧HAt W bd A∧Bk9 W br∧Pnt W bp X Y j) ⟨B,hK,hE,hY,hR,hP⟩ ?_
  clear B hK hE hY hR hP
  rintro W ⟨B,hK,hE,hY,hR,hP⟩
  clear w4
  with_reducible refine (CN.out _).mono ?_
  rintro e w5 ⟨rfl,hb⟩
  replace B:=B.trans (hb.mono B.size)
  replace hK:=hK.keep hb;replace hE:=hE.keep hb;replace hY:=hY.keep hb;replace hR:=hR.keep hb;replace hP:=hP.keep hb
  clear hb W
  go_wp2_with fail
  refine af (fun W=>Below w.heap.size w W∧Nm W w.heap.size key∧Nm W bn non∧HAt W bd A∧Bk9 W br∧Pnt W bp X Y j∧Nm W w5.heap.size dg) ⟨B.alloc B.size _,hK.alloc _,hE.alloc _,hY.alloc _,hR.alloc _,hP.alloc _,Nm.new rfl⟩ ?_
  clear B hK hE hY hR hP
  rintro W ⟨B,hK,hE,hY,hR,hP,hG⟩
  generalize w5.heap.size=bg at *
  clear hY
  refine aD (A:=?AA1) 9 (by kernel_rfl) (by kernel_rfl) rfl rfl (aB _ _ _) (fun V hV=>?HH1) (fun V w1 hV hw=>?TT1)
  case HH1 =>
    have ghK:=(hK.keep hV).grown
    have ghE:=(hE.keep hV).grown
    have ghP:=(hP.keep hV).grown
    have ghG:=(hG.keep hV).grown
    unfold Gr
    simp only [List.take_succ_cons,List.take_zero]
    repeat
      first
        | go_big_quiet_skip
        | (go_big_quiet_want;go_big_quiet_op;go_big_quiet_on)
        | (go_big_quiet_want
           go_big_quiet_op
           apply Exists.intro
           refine ⟨fun p=>?_,?_⟩
           · (first|(go_at_call 69;with_reducible exact Calls.regrown_of (A1.out _))|(go_at_call 70;with_reducible exact Calls.regrown_of (A2.out _))|(go_at_call 71;with_reducible exact Calls.regrown_of (A3.out _))|(go_at_call 69;with_reducible exact Calls.regrown_of (A4.out _)))
           go_big_quiet_on)
    refine wpQuiet_nil ?_
    exact rfl
  case TT1 =>
    have hb:=ap hV hw
    have hN:=(ac.new rfl).keep hw
    have nhK:V.heap.size≠w.heap.size:=Nat.ne_of_gt (Nat.lt_of_lt_of_le hK.lt hV.size)
    have nhE:V.heap.size≠bn:=Nat.ne_of_gt (Nat.lt_of_lt_of_le hE.lt hV.size)
    have nhR:V.heap.size≠br:=Nat.ne_of_gt (Nat.lt_of_lt_of_le hR.lt hV.size)
    have nhP:V.heap.size≠bp:=Nat.ne_of_gt (Nat.lt_of_lt_of_le hP.lt hV.size)
    have nhG:V.heap.size≠bg:=Nat.ne_of_gt (Nat.lt_of_lt_of_le hG.lt hV.size)
    have gn:w.heap.size≤V.heap.size:=Nat.le_trans B.size hV.size
    replace B:=B.trans (hb.mono B.size)
    replace hK:=hK.keep hb;replace hE:=hE.keep hb;replace hR:=hR.keep hb;replace hP:=hP.keep hb;replace hG:=hG.keep hb
    clear hb hw hV W
    generalize V.heap.size=bs at *
    clear V
    have gN:=hN.1.all4;have qN:=hN.2.all4
    have ghP:=hP.cells
    have mhK:=nhK.symm
    have mhE:=nhE.symm
    have mhR:=nhR.symm
    have mhP:=nhP.symm
    have mhG:=nhG.symm
    simp only [List.drop_succ_cons,List.drop_zero,Act.put,List.setIfInBounds_toArray,List.set_cons_zero,List.set_cons_succ]
    have gR:=hR.cells;have fR:=hR.free
    have BB:Hid (Below w.heap.size w w1):=B
    clear B
    go_wp2
    simp [bodyPost,results,Tryz.results37,go_sem, *]
    repeat (first|with_reducible exact BB.out|with_reducible refine Below.setCell ?_ o3 _|with_reducible refine Below.setCell ?_ gn _)
theorem yJ {key non X Y n q dg a b v s:Int} {j od:Bool} {A:List Int} (hl:A.length=32) (F1:Hid (∀ w,Rt 18 #[U4 key] w (.bool true))) (F2:Hid (∀ w,Rt 18 #[U4 non] w (.bool true))) (MG:Hid (∀ w,Rt 68 #[U4 non] w (P9 X Y j))) (OR:Hid (∀ w,Rt 34 #[] w (U4 n))) (CP:Hid (∀ w,Rt 33 #[U4 X,U4 n] w (.int .i64 q))) (hq:decide (0≤q)=false) (CN:Hid (∀ w,Rt 65 #[.agg ((A.map fun z=>Value.int .u8 z).toArray)] w (U4 dg))) (A1:Hid (∀ w,Rt 69 #[U4 X,U4 key] w (U4 a))) (A2:Hid (∀ w,Rt 70 #[U4 dg,U4 a] w (U4 b))) (A3:Hid (∀ w,Rt 71 #[U4 non] w (U4 v))) (A4:Hid (∀ w,Rt 69 #[U4 b,U4 v] w (U4 s))) (E1:∀ w,(Op.equalIn 10000 24 (U4 X) (.agg #[.int .u64 0,.int .u64 0,.int .u64 0,.int .u64 0])).run Tryz.prog w = .ok false w) (E2:∀ w,(Op.equalIn 10000 24 (U4 s) (.agg #[.int .u64 0,.int .u64 0,.int .u64 0,.int .u64 0])).run Tryz.prog w = .ok false w) (D:Hid (∀ w,Rt 72 #[U4 Y] w (.bool od))) (w:World) :
    Rt 37 #[U4 key,U4 non,aO A] w (.tuple #[P9 X s od,.int .i64 0]):=by
  unfold aO at *
  go_enter Tryz.func37,Tryz.ntmps37
  go_wp2_with fail
  refine aa (fun W=>Below w.heap.size w W∧Nm W w.heap.size key∧Nm W (w.heap.size+1) non∧HAt W (w.heap.size+1+1) A∧Bk9 W (w.heap.size+1+1+1)) ⟨by repeat (first|with_reducible exact Below.refl _ _|with_reducible refine Below.alloc ?_ (by first|omega|(simp;done)|(simp;omega)) _),((Nm.alloc (Cl.new _ rfl rfl) _).alloc _).alloc _,(Nm.alloc (Cl.new _ (by simp) rfl) _).alloc _,(HAt.new hl (by simp)).alloc _,Bk9.new (by simp)⟩ ?_
  rintro W ⟨B,hK,hE,hY,hR⟩
  have o3:w.heap.size≤w.heap.size+1+1+1:=by omega
  generalize w.heap.size+1+1+1=br at *
  generalize w.heap.size+1+1=bd at *
  generalize w.heap.size+1=bn at *
  with_reducible refine (F1.out _).mono ?_
  rintro e w1 ⟨rfl,hb⟩
  replace B:=B.trans (hb.mono B.size)
  replace hK:=hK.keep hb;replace hE:=hE.keep hb;replace hY:=hY.keep hb;replace hR:=hR.keep hb
  clear hb W
  have ghE:=hE.cells
  go_wp2_with fail
  refine aa (fun W=>Below w.heap.size w W∧Nm W w.heap.size key∧Nm W bn non∧HAt W bd A∧Bk9 W br) ⟨B,hK,hE,hY,hR⟩ ?_
  clear B hK hE hY hR ghE
  rintro W ⟨B,hK,hE,hY,hR⟩
  with_reducible refine (F2.out _).mono ?_
  rintro e w2 ⟨rfl,hb⟩
  replace B:=B.trans (hb.mono B.size)
  replace hK:=hK.keep hb;replace hE:=hE.keep hb;replace hY:=hY.keep hb;replace hR:=hR.keep hb
  clear hb W
  have ghE:=hE.cells
  go_wp2_with fail
  refine aa (fun W=>Below w.heap.size w W∧Nm W w.heap.size key∧Nm W bn non∧HAt W bd A∧Bk9 W br) ⟨B,hK,hE,hY,hR⟩ ?_
  clear B hK hE hY hR ghE
  rintro W ⟨B,hK,hE,hY,hR⟩
  with_reducible refine (MG.out _).mono ?_
  rintro e w3 ⟨rfl,hb⟩
  replace B:=B.trans (hb.mono B.size)
  replace hK:=hK.keep hb;replace hE:=hE.keep hb;replace hY:=hY.keep hb;replace hR:=hR.keep hb
  clear hb W
  go_wp2_with fail
  refine af (fun W=>Below w.heap.size w W∧Nm W w.heap.size key∧Nm W bn non∧HAt W bd A∧Bk9 W br∧Pnt W w3.heap.size X Y j) ⟨B.alloc B.size _,hK.alloc _,hE.alloc _,hY.alloc _,hR.alloc _,Pnt.new rfl⟩ ?_
  clear B hK hE hY hR
  rintro W ⟨B,hK,hE,hY,hR,hP⟩
  generalize w3.heap.size=bp at *
  have ghP:=hP.grown
  refine wp_region_quiet_below (by kernel_rfl) (by kernel_rfl) ?_
  repeat
    first
      | go_big_quiet_skip
      | (go_big_quiet_want;go_big_quiet_op;go_big_quiet_on)
      | (go_big_quiet_want
         go_big_quiet_op
         apply Exists.intro
         refine ⟨fun p=>?_,?_⟩
         · (first|(go_at_call 34;with_reducible exact Calls.regrown_of (OR.out _))|(go_at_call 33;with_reducible exact Calls.regrown_of (CP.out _)))
         go_big_quiet_on)
  refine wpQuiet_nil ?_
  rintro w4 ⟨p,rfl⟩
  have hb:=below_regrown W p.d p.os
  generalize grow (redrawn W p.d) p.os=w4 at *
  replace B:=B.trans (hb.mono B.size)
  replace hK:=hK.keep hb;replace hE:=hE.keep hb;replace hY:=hY.keep hb;replace hR:=hR.keep hb;replace hP:=hP.keep hb
  clear hb W ghP
  have ra:=hY.2
  go_wp2_with (refine wpList_load_mid rfl 26 _ rfl bd 0 rfl (A.map fun z=>Value.int .u8 z) _ ra Tryz.underlying26 rfl (by rw [List.length_map,hl];kernel_rfl) ?_)
  clear ra
  refine aa (fun W=>Below w.heap.size w W∧Nm W w.heap.size key∧Nm W bn non∧HAt W bd A∧Bk9 W br∧Pnt W bp X Y j) ⟨B,hK,hE,hY,hR,hP⟩ ?_
  clear B hK hE hY hR hP
  rintro W ⟨B,hK,hE,hY,hR,hP⟩
  clear w4
  with_reducible refine (CN.out _).mono ?_
  rintro e w5 ⟨rfl,hb⟩
  replace B:=B.trans (hb.mono B.size)
  replace hK:=hK.keep hb;replace hE:=hE.keep hb;replace hY:=hY.keep hb;replace hR:=hR.keep hb;replace hP:=hP.keep hb
  clear hb W
  go_wp2_with fail
  refine af (fun W=>Below w.heap.size w W∧Nm W w.heap.size key∧Nm W bn non∧HAt W bd A∧Bk9 W br∧Pnt W bp X Y j∧Nm W w5.heap.size dg) ⟨B.alloc B.size _,hK.alloc _,hE.alloc _,hY.alloc _,hR.alloc _,hP.alloc _,Nm.new rfl⟩ ?_
  clear B hK hE hY hR hP
  rintro W ⟨B,hK,hE,hY,hR,hP,hG⟩
  generalize w5.heap.size=bg at *
  clear hY
  refine aD (A:=?AA1) 9 (by kernel_rfl) (by kernel_rfl) rfl rfl (aB _ _ _) (fun V hV=>?HH1) (fun V w1 hV hw=>?TT1)
  case HH1 =>
    have ghK:=(hK.keep hV).grown
    have ghE:=(hE.keep hV).grown
    have ghP:=(hP.keep hV).grown
    have ghG:=(hG.keep hV).grown
    unfold Gr
    simp only [List.take_succ_cons,List.take_zero]
    repeat
      first
        | go_big_quiet_skip
        | (go_big_quiet_want;go_big_quiet_op;go_big_quiet_on)
        | (go_big_quiet_want
           go_big_quiet_op
           apply Exists.intro
           refine ⟨fun p=>?_,?_⟩
           · (first|(go_at_call 69;with_reducible exact Calls.regrown_of (A1.out _))|(go_at_call 70;with_reducible exact Calls.regrown_of (A2.out _))|(go_at_call 71;with_reducible exact Calls.regrown_of (A3.out _))|(go_at_call 69;with_reducible exact Calls.regrown_of (A4.out _)))
           go_big_quiet_on)
    refine wpQuiet_nil ?_
    exact rfl
  case TT1 =>
    have hb:=ap hV hw
    have hN:=(ac.new rfl).keep hw
    have nhK:V.heap.size≠w.heap.size:=Nat.ne_of_gt (Nat.lt_of_lt_of_le hK.lt hV.size)
    have nhE:V.heap.size≠bn:=Nat.ne_of_gt (Nat.lt_of_lt_of_le hE.lt hV.size)
    have nhR:V.heap.size≠br:=Nat.ne_of_gt (Nat.lt_of_lt_of_le hR.lt hV.size)
    have nhP:V.heap.size≠bp:=Nat.ne_of_gt (Nat.lt_of_lt_of_le hP.lt hV.size)
    have nhG:V.heap.size≠bg:=Nat.ne_of_gt (Nat.lt_of_lt_of_le hG.lt hV.size)
    have gn:w.heap.size≤V.heap.size:=Nat.le_trans B.size hV.size
    replace B:=B.trans (hb.mono B.size)
    replace hK:=hK.keep hb;replace hE:=hE.keep hb;replace hR:=hR.keep hb;replace hP:=hP.keep hb;replace hG:=hG.keep hb
    clear hb hw hV W
    generalize V.heap.size=bs at *
    clear V
    have gN:=hN.1.all4;have qN:=hN.2.all4
    have ghP:=hP.cells
    have mhK:=nhK.symm
    have mhE:=nhE.symm
    have mhR:=nhR.symm
    have mhP:=nhP.symm
    have mhG:=nhG.symm
    simp only [List.drop_succ_cons,List.drop_zero,Act.put,List.setIfInBounds_toArray,List.set_cons_zero,List.set_cons_succ]
    go_wp2_with fail
    refine af (fun W=>Below w.heap.size w W∧Nm W w.heap.size key∧Nm W bn non∧Bk9 W br∧Pnt W bp X Y j∧Nm W bg dg∧Nm W bs s) ⟨iY B gn,hK.put4 nhK,hE.put4 nhE,hR.put4 nhR,hP.put4 nhP,hG.put4 nhG,hN.put4 s⟩ ?_
    clear B hN gN qN hK hE hR hP hG nhK mhK nhE mhE nhR mhR nhP mhP nhG mhG ghP gn
    rintro W ⟨B,hK,hE,hR,hP,hG,hS⟩
    clear w1
    have ghP:=hP.grown
    have ghS:=hS.grown
    refine aL 7 (by kernel_rfl) (by kernel_rfl) ?_
    simp only [List.take_succ_cons,List.take_zero,List.drop_succ_cons,List.drop_zero]
    repeat
      first
        | go_big_quiet_skip
        | (go_big_quiet_want;go_big_quiet_op;go_big_quiet_on)
        | (go_big_quiet_want
           go_big_quiet_op
           apply Exists.intro
           refine ⟨fun p=>?_,?_⟩
           · (first|(go_at_call 72;with_reducible exact Calls.regrown_of (D.out _)))
           go_big_quiet_on)
    refine wpQuiet_nil ?_
    rintro w41 ⟨p,rfl⟩
    have hb:=below_regrown W p.d p.os
    generalize grow (redrawn W p.d) p.os=w41 at *
    replace B:=B.trans (hb.mono B.size)
    replace hK:=hK.keep hb;replace hE:=hE.keep hb;replace hR:=hR.keep hb;replace hP:=hP.keep hb;replace hG:=hG.keep hb;replace hS:=hS.keep hb
    clear hb W ghP ghS
    clear hK hE hG hP hS
    have gR:=hR.cells;have fR:=hR.free
    go_wp2
    simp [bodyPost,results,Tryz.results37,go_sem,gR]
    repeat (first|with_reducible exact B|with_reducible refine Below.setCell ?_ o3 _)
theorem ri {x:Int} (w:World):Rt 72 #[U4 x] w (.bool ((l0 x).tmod 2==1)):=by
 go_enter Tryz.func72,Tryz.ntmps72
 go_wp2
 simp [bodyPost,results,Tryz.results72,go_sem]
 exact by repeat (first|with_reducible exact Below.refl _ _|with_reducible refine Below.alloc ?_ (by first|omega|(simp;done)|(simp;omega)) _)
theorem jx {key non r s e0:Int} {od:Bool} {A:List Int} (hl:A.length=32) (TB:Hid (∀ w,Rt 37 #[U4 key,U4 non,.agg ((A.map fun z=>Value.int .u8 z).toArray)] w (.tuple #[P9 r s od,.int .i64 e0]))) (he:e0≠0) (w:World) :
  Rt 20 #[U4 key,U4 non,aO A] w (.tuple #[.agg #[.int .u64 (l0 0),.int .u64 (l1 0),.int .u64 (l2 0),.int .u64 (l3 0),.int .u64 (l0 0),.int .u64 (l1 0),.int .u64 (l2 0),.int .u64 (l3 0),.bool false],.int .i64 e0]):=by
 obtain ⟨z0,z1,z2,z3⟩:=aq
 ((try unfold Rt);(try unfold U4);(try unfold P9);rw [z0,z1,z2,z3])
 clear z0 z1 z2 z3
 unfold aO at *
 have ra:((((w.alloc (.cells #[.int .u64 (l0 key),.int .u64 (l1 key),.int .u64 (l2 key),.int .u64 (l3 key)] 24)).alloc (.cells #[.int .u64 (l0 non),.int .u64 (l1 non),.int .u64 (l2 non),.int .u64 (l3 non)] 24)).alloc (.cells ((A.map fun z=>Value.int .u8 z).toArray) 26)).alloc (.cells #[.int .u64 0,.int .u64 0,.int .u64 0,.int .u64 0,.int .u64 0,.int .u64 0,.int .u64 0,.int .u64 0,.bool false] 28)).rangeAt (w.heap.size+1+1) 0 (A.map fun z=>Value.int .u8 z):=((HAt.new hl (by simp)).alloc _).2
 go_enter Tryz.func20,Tryz.ntmps20
 go_wp2_with (refine wpList_load_mid rfl 26 _ rfl (w.heap.size+1+1) 0 rfl (A.map fun z=>Value.int .u8 z) _ ra Tryz.underlying26 rfl (by rw [List.length_map,hl];kernel_rfl) ?_)
 refine aa (fun W=>Below w.heap.size w W∧Bk9 W (w.heap.size+1+1+1)) ⟨by repeat (first|with_reducible exact Below.refl _ _|with_reducible refine Below.alloc ?_ (by first|omega|(simp;done)|(simp;omega)) _),Bk9.new (by simp)⟩ ?_
 clear ra
 rintro W ⟨B,hR⟩
 have o3:w.heap.size≤w.heap.size+1+1+1:=by omega
 generalize w.heap.size+1+1+1=br at *
 with_reducible refine (TB.out _).mono ?_
 rintro e w9 ⟨rfl,hb⟩
 replace B:=B.trans (hb.mono B.size)
 replace hR:=hR.keep hb
 clear hb W
 have nr:w9.heap.size≠br:=by have:=hR.lt;omega
 have nr2:=nr.symm
 have lr:=hR.lt
 have gR:=fun o=>(hR.alloc o).cells;have fR:=fun o=>(hR.alloc o).free
 have gR0:=hR.cells;have fR0:=hR.free
 have sz:=B.size
 have BB:Hid (Below w.heap.size w w9):=B
 clear B hR
 go_wp2
 simp [bodyPost,results,Tryz.results20,go_sem, *]
 repeat (first|with_reducible exact BB.out|with_reducible refine Below.setCell ?_ o3 _|with_reducible refine Below.alloc ?_ (by first|omega|(simp;omega)) _)
theorem wO {key non r s:Int} {od:Bool} {A:List Int} (hl:A.length=32) (TB:Hid (∀ w,Rt 37 #[U4 key,U4 non,.agg ((A.map fun z=>Value.int .u8 z).toArray)] w (.tuple #[P9 r s od,.int .i64 0]))) (LO:Hid (∀ w,Rt 38 #[U4 s] w (.bool true))) (w:World) :
  Rt 20 #[U4 key,U4 non,aO A] w (.tuple #[P9 r s od,.int .i64 0]):=by
 unfold aO at *
 have ra:((((w.alloc (.cells #[.int .u64 (l0 key),.int .u64 (l1 key),.int .u64 (l2 key),.int .u64 (l3 key)] 24)).alloc (.cells #[.int .u64 (l0 non),.int .u64 (l1 non),.int .u64 (l2 non),.int .u64 (l3 non)] 24)).alloc (.cells ((A.map fun z=>Value.int .u8 z).toArray) 26)).alloc (.cells #[.int .u64 0,.int .u64 0,.int .u64 0,.int .u64 0,.int .u64 0,.int .u64 0,.int .u64 0,.int .u64 0,.bool false] 28)).rangeAt (w.heap.size+1+1) 0 (A.map fun z=>Value.int .u8 z):=((HAt.new hl (by simp)).alloc _).2
 go_enter Tryz.func20,Tryz.ntmps20
 go_wp2_with (refine wpList_load_mid rfl 26 _ rfl (w.heap.size+1+1) 0 rfl (A.map fun z=>Value.int .u8 z) _ ra Tryz.underlying26 rfl (by rw [List.length_map,hl];kernel_rfl) ?_)
 refine aa (fun W=>Below w.heap.size w W∧Bk9 W (w.heap.size+1+1+1)) ⟨by repeat (first|with_reducible exact Below.refl _ _|with_reducible refine Below.alloc ?_ (by first|omega|(simp;done)|(simp;omega)) _),Bk9.new (by simp)⟩ ?_
 clear ra
 rintro W ⟨B,hR⟩
 have o3:w.heap.size≤w.heap.size+1+1+1:=by omega
 generalize w.heap.size+1+1+1=br at *
 with_reducible refine (TB.out _).mono ?_
 rintro e w1 ⟨rfl,hb⟩
 replace B:=B.trans (hb.mono B.size)
 replace hR:=hR.keep hb
 clear hb W
 have gbs0:Hid (w.heap.size≤w1.heap.size):=B.size
 have nsr0:Hid (w1.heap.size≠br):=Nat.ne_of_gt hR.lt
 go_wp2_with fail
 refine aa (fun W=>Below w.heap.size w W∧Bk9 W br∧Pvr W w1.heap.size r s od) ⟨B.alloc B.size _,hR.alloc _,Pvr.new rfl⟩ ?_
 clear B hR
 rintro W ⟨B,hR,hS⟩
 generalize w1.heap.size=bs at *
 with_reducible refine (LO.out _).mono ?_
 rintro e w9 ⟨rfl,hb⟩
 replace B:=B.trans (hb.mono B.size)
 replace hR:=hR.keep hb;replace hS:=hS.keep hb
 clear hb W
 have gS:=hS.1.cells
 have gR:=hR.cells;have fR:=hR.free
 go_wp2
 simp [bodyPost,results,Tryz.results20,go_sem,gR]
 repeat (first|with_reducible exact B|with_reducible refine Below.setCell ?_ o3 _)
theorem ub {key non r s n t q:Int} {od:Bool} {A:List Int} (hl:A.length=32) (TB:Hid (∀ w,Rt 37 #[U4 key,U4 non,.agg ((A.map fun z=>Value.int .u8 z).toArray)] w (.tuple #[P9 r s od,.int .i64 0]))) (LO:Hid (∀ w,Rt 38 #[U4 s] w (.bool false))) (OR:Hid (∀ w,Rt 34 #[] w (U4 n))) (SB:Hid (∀ w,Rt 39 #[U4 n,U4 s] w (.tuple #[U4 t,.int .u64 q]))) (w:World) :
    Rt 20 #[U4 key,U4 non,aO A] w (.tuple #[P9 r t (!od),.int .i64 0]):=by
  unfold aO at *
  have ra:((((w.alloc (.cells #[.int .u64 (l0 key),.int .u64 (l1 key),.int .u64 (l2 key),.int .u64 (l3 key)] 24)).alloc (.cells #[.int .u64 (l0 non),.int .u64 (l1 non),.int .u64 (l2 non),.int .u64 (l3 non)] 24)).alloc (.cells ((A.map fun z=>Value.int .u8 z).toArray) 26)).alloc (.cells #[.int .u64 0,.int .u64 0,.int .u64 0,.int .u64 0,.int .u64 0,.int .u64 0,.int .u64 0,.int .u64 0,.bool false] 28)).rangeAt (w.heap.size+1+1) 0 (A.map fun z=>Value.int .u8 z):=((HAt.new hl (by simp)).alloc _).2
  go_enter Tryz.func20,Tryz.ntmps20
  go_wp2_with (refine wpList_load_mid rfl 26 _ rfl (w.heap.size+1+1) 0 rfl (A.map fun z=>Value.int .u8 z) _ ra Tryz.underlying26 rfl (by rw [List.length_map,hl];kernel_rfl) ?_)
  refine aa (fun W=>Below w.heap.size w W∧Bk9 W (w.heap.size+1+1+1)) ⟨by repeat (first|with_reducible exact Below.refl _ _|with_reducible refine Below.alloc ?_ (by first|omega|(simp;done)|(simp;omega)) _),Bk9.new (by simp)⟩ ?_
  clear ra
  rintro W ⟨B,hR⟩
  have o3:w.heap.size≤w.heap.size+1+1+1:=by omega
  generalize w.heap.size+1+1+1=br at *
  with_reducible refine (TB.out _).mono ?_
  rintro e w1 ⟨rfl,hb⟩
  replace B:=B.trans (hb.mono B.size)
  replace hR:=hR.keep hb
  clear hb W
  have gbs0:Hid (w.heap.size≤w1.heap.size):=B.size
  have nsr0:Hid (w1.heap.size≠br):=Nat.ne_of_gt hR.lt
  go_wp2_with fail
  refine aa (fun W=>Below w.heap.size w W∧Bk9 W br∧Pvr W w1.heap.size r s od) ⟨B.alloc B.size _,hR.alloc _,Pvr.new rfl⟩ ?_
  clear B hR
  rintro W ⟨B,hR,hS⟩
  generalize w1.heap.size=bs at *
  with_reducible refine (LO.out _).mono ?_
  rintro e w2 ⟨rfl,hb⟩
  replace B:=B.trans (hb.mono B.size)
  replace hR:=hR.keep hb;replace hS:=hS.keep hb
  clear hb W
  go_wp2_with fail
  refine af (fun W=>Below w.heap.size w W∧Bk9 W br∧Pvr W bs r s od) ⟨B,hR,hS⟩ ?_
  clear B hR hS
  rintro W ⟨B,hR,hS⟩
  refine lj (A:=?AA1) 7 (fun V kk=>put4 V kk t) (by kernel_rfl) (by kernel_rfl) rfl rfl rfl (aB _ _ _) (fun V V0 h0 h1=>iY (ap h0 h1) h0.size) (fun V hV=>?HH1) (fun V V0 h0 h1=>?EE1) (fun V0 V w1 h0 h1 h2=>?TT1)
  case HH1 =>
    have ghS:=(hS.keep hV).1.grown
    unfold Gr
    simp only [List.take_succ_cons,List.take_zero]
    repeat
      first
        | go_big_quiet_skip
        | (go_big_quiet_want;go_big_quiet_op;go_big_quiet_on)
        | (go_big_quiet_want
           go_big_quiet_op
           apply Exists.intro
           refine ⟨fun p=>?_,?_⟩
           · (first|(go_at_call 34;with_reducible exact Calls.regrown_of (OR.out _))|(go_at_call 39;with_reducible exact Calls.regrown_of (SB.out _)))
           go_big_quiet_on)
    refine wpQuiet_nil ?_
    exact rfl
  case EE1 =>
    obtain ⟨c0,c1,c2,c3⟩:=((ac.new rfl).keep h1).1.all4
    obtain ⟨f0,f1,f2,f3⟩:=((ac.new rfl).keep h1).2.all4
    unfold put4
    simp [execOp,Act.put,Act.eval,go_sem,c0,c1,c2,c3,f0,f1,f2,f3]
  case TT1 =>
    have hN:=(((ac.new rfl).keep h1).put4 t).keep h2
    have hb:=ap h0 h1
    have nhR:V0.heap.size≠br:=Nat.ne_of_gt (Nat.lt_of_lt_of_le hR.lt h0.size)
    have nhS:V0.heap.size≠bs:=Nat.ne_of_gt (Nat.lt_of_lt_of_le hS.lt h0.size)
    have gn:w.heap.size≤V0.heap.size:=Nat.le_trans B.size h0.size
    have B1:=iY (m:=t) (B.trans (hb.mono B.size)) gn
    replace B:=B1.trans (h2.mono B1.size)
    replace hR:=((hR.keep hb).put4 nhR).keep h2
    replace hS:=((hS.keep hb).put4 nhS).keep h2
    clear hb h0 h1 h2 B1 W gn
    generalize V0.heap.size=bl at *
    clear V V0
    have gN:=hN.cells;have gS:=hS.1.cells
    have q4:=hS.2 4 (by decide);have q5:=hS.2 5 (by decide);have q6:=hS.2 6 (by decide);have q7:=hS.2 7 (by decide);have q8:=hS.2 8 (by decide)
    have nsr:bs≠br:=nsr0.out
    have nrs:=nsr.symm
    have gbs:=gbs0.out
    have nsl:=nhS.symm;have nlr:=nhR.symm
    simp only [List.drop_succ_cons,List.drop_zero,Act.put,List.setIfInBounds_toArray,List.set_cons_zero,List.set_cons_succ]
    have gR:=hR.cells;have fR:=hR.free
    go_wp2
    simp [bodyPost,results,Tryz.results20,go_sem,gR]
    repeat (first|with_reducible exact B|with_reducible refine Below.setCell ?_ o3 _|with_reducible refine Below.setCell ?_ gbs _)
open Go.RowKit Go.Sort
theorem wP (x n:Int):decide (0≤dI x n) = !decide (x<n):=by
 rw [←oF x n]
 by_cases h:dI x n<0
 ·rw [decide_eq_true h,decide_eq_false (by omega)];rfl
 ·rw [decide_eq_false h,decide_eq_true (by omega)];rfl
theorem A0 {s:Int} (h0:0<s) (h1:s<nN):Hid (∀ w,Rt 39 #[U4 nN,U4 s] w (.tuple #[U4 (ag nN (0-s)),.int .u64 (cL nN s)])):=fun w=>by
 have ns:Num s:=⟨by omega,by have:=jp.2;omega⟩
 have:=gE jp ns w
 rw [show ca nN s=ag nN (0-s) by rw [tY h0 h1];unfold ca;have:=jp.2;exact Int.emod_eq_of_lt (by omega) (by omega)] at this
 exact this
theorem wQ {r s:Int} {od:Bool} (hr:Num r) (hs:Num s):∀ w,(Op.equalIn 10000 28 (P9 r s od) (P9 r s od)).run Tryz.prog w = .ok true w:=fun w=>by
 have:=rh (i:=od) (j:=od) hr hs hr hs w
 simpa using this
open Go.RowKit Go.Sort
theorem wR {key non X Y:Int} {A:List Int} {j:Bool} (hk:Num key) (hn:Num non) (hA:dR A) (hl:A.length=32) (hv:Vd X Y j) (ev:bI X Y j=EC.smul non.toNat EC.gJ.pt) (w:World) :
  Rt 20 #[U4 key,U4 non,aO A] w (.tuple #[.agg #[.int .u64 (l0 (swR key non A X Y).r),.int .u64 (l1 (swR key non A X Y).r),.int .u64 (l2 (swR key non A X Y).r),.int .u64 (l3 (swR key non A X Y).r),.int .u64 (l0 (swR key non A X Y).s),.int .u64 (l1 (swR key non A X Y).s),.int .u64 (l2 (swR key non A X Y).s),.int .u64 (l3 (swR key non A X Y).s),.bool (swR key non A X Y).o],.int .i64 (swR key non A X Y).e]):=by
 have nX:=hv.low.1.num;have nY:=hv.low.2.num
 have i1:=fj hk;have i2:=fj hn
 have nz:Num 0:=⟨by decide,by decide⟩
 cases h1:cM key with
 | false =>
  rw [h1] at i1
  have e:swR key non A X Y=⟨0,0,false,60⟩:=by unfold swR;rw [h1,Bool.false_and,if_pos rfl]
  rw [e]
  exact (jx hl (tZ hl i1 i2) (by decide)) w
 | true =>
  rw [h1] at i1
  cases h2:cM non with
  | false =>
   rw [h2] at i2
   have e:swR key non A X Y=⟨0,0,false,60⟩:=by unfold swR;rw [h1,h2,Bool.and_false,if_pos rfl]
   rw [e]
   exact (jx hl (ua hl i1 i2) (by decide)) w
  | true =>
   rw [h2] at i2
   have CN:Hid (∀ w,Rt 65 #[.agg ((A.map fun z=>Value.int .u8 z).toArray)] w (U4 (dgN A))):=fun w=>ju hA hl w
   have MG:Hid (∀ w,Rt 68 #[U4 non] w (P9 X Y j)):=fun w=>re hn hv ev w
   have OR:Hid (∀ w,Rt 34 #[] w (U4 nN)):=fun w=>gI w
   have CP:Hid (∀ w,Rt 33 #[U4 X,U4 nN] w (.int .i64 (dI X nN))):=fun w=>jk nX jp w
   have b0:swR key non A X Y=if ¬X<nN then ⟨0,0,false,64⟩ else if X=0∨swS key non (dgN A) X=0 then ⟨0,0,false,65⟩ else if qL (swS key non (dgN A) X) then ⟨X,swS key non (dgN A) X,oddB Y,0⟩ else ⟨X,ag nN (0-swS key non (dgN A) X),!oddB Y,0⟩:=by
    unfold swR;rw [h1,h2,Bool.and_self,if_neg (by decide)]
   have nd:Num (dgN A):=ae dY _
   have hz:ag nN non≠0:=by
    obtain ⟨a1,a2⟩:=pV h2
    rw [fC hn.1 a2];exact a1
   by_cases c1:X<nN
   ·rw [if_neg (not_not_intro c1)] at b0
    have hq:decide (0≤dI X nN)=false:=by rw [wP,decide_eq_true c1];rfl
    have ns:Num (swS key non (dgN A) X):=ae dY _
    have A1:Hid (∀ w,Rt 69 #[U4 X,U4 key] w (U4 (ag nN (X*key)))):=j7 nX hk
    have A2:Hid (∀ w,Rt 70 #[U4 (dgN A),U4 (ag nN (X*key))] w (.agg #[.int .u64 (l0 (ag nN (dgN A+ag nN (X*key)))),.int .u64 (l1 (ag nN (dgN A+ag nN (X*key)))),.int .u64 (l2 (ag nN (dgN A+ag nN (X*key)))),.int .u64 (l3 (ag nN (dgN A+ag nN (X*key))))])):=qR nd (ae dY _)
    have A3:=tK hn hz
    have A4:Hid (∀ w,Rt 69 #[.agg #[.int .u64 (l0 (ag nN (dgN A+ag nN (X*key)))),.int .u64 (l1 (ag nN (dgN A+ag nN (X*key)))),.int .u64 (l2 (ag nN (dgN A+ag nN (X*key)))),.int .u64 (l3 (ag nN (dgN A+ag nN (X*key))))],U4 (fi nN non)] w (U4 (swS key non (dgN A) X))):=j7 (ae dY _) (bY dY _ _)
    by_cases c2:X=0∨swS key non (dgN A) X=0
    ·rw [if_pos c2] at b0
     rw [b0]
     refine (jx hl (r:=0) (s:=0) (od:=false) (fun w=>?_) (by decide)) w
     by_cases c3:X=0
     ·exact yH hl i1 i2 MG OR CP hq CN A1 A2 A3 A4 (jq nX (decide_eq_true c3)) w
     ·have c4:swS key non (dgN A) X=0:=c2.resolve_left c3
      exact yI hl i1 i2 MG OR CP hq CN A1 A2 A3 A4 (jq nX (decide_eq_false c3)) (jq ns (decide_eq_true c4)) w
    ·rw [if_neg c2] at b0
     have c3:X≠0:=fun e=>c2 (.inl e)
     have c4:swS key non (dgN A) X≠0:=fun e=>c2 (.inr e)
     have sl:0≤swS key non (dgN A) X∧swS key non (dgN A) X<nN:=tX
     have OD:Hid (∀ w,Rt 72 #[U4 Y] w (.bool (oddB Y))):=fun w=>by rw [Ae Y nY];exact ri w
     have TB:=yJ hl i1 i2 MG OR CP hq CN A1 A2 A3 A4 (jq nX (decide_eq_false c3)) (jq ns (decide_eq_false c4)) OD
     have LW:=tB ns
     cases h5:qL (swS key non (dgN A) X) with
     | true =>
      rw [h5] at LW b0
      rw [if_pos rfl] at b0
      rw [b0]
      exact (wO hl TB LW) w
     | false =>
      rw [h5] at LW b0
      rw [if_neg (by decide)] at b0
      rw [b0]
      exact (ub hl TB LW OR (A0 (by omega) sl.2)) w
   ·rw [if_pos c1] at b0
    rw [b0]
    have hq:decide (0≤dI X nN)=true:=by rw [wP,decide_eq_false c1];rfl
    exact (jx hl (Af hl i1 i2 MG OR CP hq) (by decide)) w
end Go.Proofs.YtnnnaajgjniiaaaGreatDoor
