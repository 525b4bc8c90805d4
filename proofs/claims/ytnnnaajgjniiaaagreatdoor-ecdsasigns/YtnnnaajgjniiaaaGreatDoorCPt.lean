import Derived.Test.YtnnnaajgjniiaaaGreatDoorAb
import Derived.Test.YtnnnaajgjniiaaaGreatDoorCFp
import Derived.Test.YtnnnaajgjniiaaaGreatDoorCEq
import Derived.Test.YtnnnaajgjniiaaaGreatDoorEChk
import Derived.Test.YtnnnaajgjniiaaaGreatDoorHold
set_option maxRecDepth 100000
set_option maxHeartbeats 8000000
namespace Go.Proofs.YtnnnaajgjniiaaaGreatDoor
open Go.RowKit Go.Sort
def bI (x y:Int) (i:Bool):EC.Pt:=if i then .o else .a (EC.fp x) (EC.fp y)
def Vd (x y:Int) (i:Bool):Prop:=if i then x=0∧y=0 else EC.Low x∧EC.Low y∧EC.On (bI x y false)
instance (x:Int):Decidable (EC.Low x):=inferInstanceAs (Decidable (_∧_))
instance (x y:Int):Decidable (EC.On (bI x y false)):=inferInstanceAs (Decidable (_=_))
instance (x y:Int) (i:Bool):Decidable (Vd x y i):=by unfold Vd;cases i<;>infer_instance
theorem Vd.on {x y:Int} {i:Bool} (h:Vd x y i):EC.On (bI x y i):=by
 cases i with
 | true=>exact EC.on_o
 | false=>exact h.2.2
theorem Vd.low {x y:Int} {i:Bool} (h:Vd x y i):EC.Low x∧EC.Low y:=by
 cases i with
 | true=>obtain ⟨rfl,rfl⟩:=h;exact ⟨⟨by decide,by decide⟩,⟨by decide,by decide⟩⟩
 | false=>exact ⟨h.1,h.2.1⟩
theorem Vd.inj {x y x' y':Int} {i j:Bool} (h:Vd x y i) (h':Vd x' y' j) (e:bI x y i=bI x' y' j):x=x'∧y=y'∧i=j:=by
 cases i<;>cases j
 ·have e':EC.Pt.a (EC.fp x) (EC.fp y) = .a (EC.fp x') (EC.fp y'):=e
  injection e' with e1 e2
  exact ⟨EC.fp_inj h.1 h'.1 e1,EC.fp_inj h.2.1 h'.2.1 e2,rfl⟩
 ·have e':EC.Pt.a (EC.fp x) (EC.fp y) = .o:=e
  cases e'
 ·have e':EC.Pt.o = .a (EC.fp x') (EC.fp y'):=e
  cases e'
 ·obtain ⟨rfl,rfl⟩:=h;obtain ⟨rfl,rfl⟩:=h';exact ⟨rfl,rfl,rfl⟩
theorem l9 {x y:Int} {i:Bool} (h:Vd x y i):∃ x' y' z',EC.Low x'∧EC.Low y'∧EC.Low z'∧(J3 x' y' z').pt=bI x y i ∧
  ∀ w,Rt 82 #[P9 x y i] w (.agg #[.int .u64 (l0 x'),.int .u64 (l1 x'),.int .u64 (l2 x'),.int .u64 (l3 x'),.int .u64 (l0 y'),.int .u64 (l1 y'),.int .u64 (l2 y'),.int .u64 (l3 y'),.int .u64 (l0 z'),.int .u64 (l1 z'),.int .u64 (l2 z'),.int .u64 (l3 z')]):=by
 cases i with
 | true =>
  refine ⟨0,0,0,⟨by decide,by decide⟩,⟨by decide,by decide⟩,⟨by decide,by decide⟩,?_,fun w=>tG w⟩
  exact EC.pt_o EC.fp_zero
 | false =>
  refine ⟨x,y,1,h.1,h.2.1,⟨by decide,by decide⟩,?_,fun w=>tH w⟩
  show EC.pt (EC.fp x) (EC.fp y) (EC.fp 1) = .a (EC.fp x) (EC.fp y)
  rw [EC.fp_one]
  refine EC.pt_of (by decide +kernel) ?_ ?_<;>grind -lia -linarith
theorem pJ {x y z:Int} (hx:EC.Low x) (hy:EC.Low y) (hz:EC.Low z):∃ x' y' i,EC.Low x'∧EC.Low y'∧(i=true→x'=0∧y'=0)∧bI x' y' i=(J3 x y z).pt ∧
  ∀ w,Mds w→Rt 45 #[.agg #[.int .u64 (l0 x),.int .u64 (l1 x),.int .u64 (l2 x),.int .u64 (l3 x),.int .u64 (l0 y),.int .u64 (l1 y),.int .u64 (l2 y),.int .u64 (l3 y),.int .u64 (l0 z),.int .u64 (l1 z),.int .u64 (l2 z),.int .u64 (l3 z)]] w (P9 x' y' i):=by
 by_cases h0:z=0
 ·subst h0
  exact ⟨0,0,true,⟨by decide,by decide⟩,⟨by decide,by decide⟩,fun _=>⟨rfl,rfl⟩,(EC.pt_o EC.fp_zero).symm,fun w _=>wi w⟩
 ·have hm0:ag pN z≠0:=by rw [fC hz.1 hz.2];exact h0
  refine ⟨_,_,false,EC.low_mod _,EC.low_mod _,(fun e=>by cases e),?_,fun w hm=>pA (v:=fi pN z) (fun w=>?_) (fun w hm=>jo ox hz.num hm0 w hm) (fun w hm=>bE (bY am _ _) w hm)
   (fun w hm=>aF hx.num (ae am _) w hm) (fun w hm=>aF (ae am _) (bY am _ _) w hm) (fun w hm=>aF hy.num (ae am _) w hm) w hm⟩
  ·show EC.Pt.a _ _=EC.pt (EC.fp x) (EC.fp y) (EC.fp z)
   unfold EC.pt
   rw [if_neg (fM hz h0)]
   have ei:EC.fp (aY pN z (pN-2))=EC.iv (EC.fp z):=EC.fp_inv hz
   simp only [EC.fp_mod,EC.fp_mul,ei]
  ·have:=cW (x:=x) (y:=y) hz.num w
   rw [decide_eq_false h0] at this;exact this
open Go.RowKit Go.Sort
theorem yu {key non dig x y:Int} {i:Bool} (C0:Hid (∀ w,Mds w→Rt 27 #[U4 x] w (.bool false))) (w:World) (hm:Mds w) :
  Rt 31 #[U4 key,U4 non,U4 dig,P9 x y i] w (.tuple #[.agg #[.int .u64 (l0 0),.int .u64 (l1 0),.int .u64 (l2 0),.int .u64 (l3 0),.int .u64 (l0 0),.int .u64 (l1 0),.int .u64 (l2 0),.int .u64 (l3 0),.bool false],.int .i64 64]):=by
 obtain ⟨z0,z1,z2,z3⟩:=aq
 ((try unfold Rt);(try unfold U4);(try unfold P9);rw [z0,z1,z2,z3])
 clear z0 z1 z2 z3
 go_enter Tryz.func31,Tryz.ntmps31
 go_wp2_with fail
 refine aa (fun W=>Below w.heap.size w W∧Mds W∧ab W w.heap.size key∧ab W (w.heap.size+1) non∧ab W (w.heap.size+1+1) dig∧Pnt W (w.heap.size+1+1+1) x y i∧Bk9 W (w.heap.size+1+1+1+1)) ⟨by repeat (first|with_reducible exact Below.refl _ _|with_reducible refine Below.alloc ?_ (by first|omega|(simp;done)|(simp;omega)) _),((((hm.alloc _).alloc _).alloc _).alloc _).alloc _,((((ab.new _ _ _).alloc _).alloc _).alloc _).alloc _,(((ab.fresh (by simp)).alloc _).alloc _).alloc _,((ab.fresh (by simp)).alloc _).alloc _,(Pnt.new (by simp)).alloc _,Bk9.new (by simp)⟩ ?_
 rintro W ⟨B,hD,hK,hE,hG,hP,hR⟩
 have o3:w.heap.size≤w.heap.size+1+1+1+1:=by omega
 generalize w.heap.size+1+1+1+1=br at *
 generalize w.heap.size+1+1+1=bp at *
 generalize w.heap.size+1+1=bg at *
 generalize w.heap.size+1=bn at *
 with_reducible refine (C0.out _ hD).mono ?_
 rintro e w9 ⟨rfl,hb⟩
 replace B:=B.trans (hb.mono B.size)
 replace hD:=hD.keep hb;replace hK:=hK.keep hb;replace hE:=hE.keep hb;replace hG:=hG.keep hb;replace hP:=hP.keep hb;replace hR:=hR.keep hb
 clear hb W hD hK hE hG hP
 have gR:=hR.cells;have fR:=hR.free
 go_wp2
 simp [bodyPost,results,Tryz.results31,go_sem,gR]
 repeat (first|with_reducible exact B|with_reducible refine Below.setCell ?_ o3 _)
theorem wx {key non dig x y a b v s:Int} {i:Bool} (C0:Hid (∀ w,Mds w→Rt 27 #[U4 x] w (.bool true))) (A1:Hid (∀ w,Mds w→Rt 50 #[U4 x,U4 key] w (U4 a))) (A2:Hid (∀ w,Mds w→Rt 60 #[U4 dig,U4 a] w (U4 b))) (A3:Hid (∀ w,Mds w→Rt 48 #[U4 non] w (U4 v))) (A4:Hid (∀ w,Mds w→Rt 50 #[U4 b,U4 v] w (U4 s))) (Z1:Hid (∀ w,Rt 26 #[U4 x] w (.bool true))) (w:World) (hm:Mds w) :
    Rt 31 #[U4 key,U4 non,U4 dig,P9 x y i] w (.tuple #[.agg #[.int .u64 (l0 0),.int .u64 (l1 0),.int .u64 (l2 0),.int .u64 (l3 0),.int .u64 (l0 0),.int .u64 (l1 0),.int .u64 (l2 0),.int .u64 (l3 0),.bool false],.int .i64 65]):=by
  obtain ⟨z0,z1,z2,z3⟩:=aq
  ((try unfold Rt);(try unfold U4);(try unfold P9);rw [z0,z1,z2,z3])
  clear z0 z1 z2 z3
  go_enter Tryz.func31,Tryz.ntmps31
  go_wp2_with fail
  refine aa (fun W=>Below w.heap.size w W∧Mds W∧ab W w.heap.size key∧ab W (w.heap.size+1) non∧ab W (w.heap.size+1+1) dig∧Pnt W (w.heap.size+1+1+1) x y i∧Bk9 W (w.heap.size+1+1+1+1)) ⟨by repeat (first|with_reducible exact Below.refl _ _|with_reducible refine Below.alloc ?_ (by first|omega|(simp;done)|(simp;omega)) _),((((hm.alloc _).alloc _).alloc _).alloc _).alloc _,((((ab.new _ _ _).alloc _).alloc _).alloc _).alloc _,(((ab.fresh (by simp)).alloc _).alloc _).alloc _,((ab.fresh (by simp)).alloc _).alloc _,(Pnt.new (by simp)).alloc _,Bk9.new (by simp)⟩ ?_
  rintro W ⟨B,hD,hK,hE,hG,hP,hR⟩
  have o3:w.heap.size≤w.heap.size+1+1+1+1:=by omega
  generalize w.heap.size+1+1+1+1=br at *
  generalize w.heap.size+1+1+1=bp at *
  generalize w.heap.size+1+1=bg at *
  generalize w.heap.size+1=bn at *
  with_reducible refine (C0.out _ hD).mono ?_
  rintro e w1 ⟨rfl,hb⟩
  replace B:=B.trans (hb.mono B.size)
  replace hD:=hD.keep hb;replace hK:=hK.keep hb;replace hE:=hE.keep hb;replace hG:=hG.keep hb;replace hP:=hP.keep hb;replace hR:=hR.keep hb
  clear hb W
  go_wp2_with fail
  refine af (fun W=>Below w.heap.size w W∧Mds W∧ab W w.heap.size key∧ab W bn non∧ab W bg dig∧Pnt W bp x y i∧Bk9 W br) ⟨B,hD,hK,hE,hG,hP,hR⟩ ?_
  clear B hD hK hE hG hP hR
  rintro W ⟨B,hD,hK,hE,hG,hP,hR⟩
  refine aD (A:=?AA1) 9 (by kernel_rfl) (by kernel_rfl) rfl rfl (aB _ _ _) (fun V hV=>?HH1) (fun V w1 hV hw=>?TT1)
  case HH1 =>
    have hDg:∀ d os,Mds (grow (redrawn V d) os):=fun d os=>(hD.keep hV).keep (below_regrown V d os)
    have ghK:=(hK.keep hV).grown
    have ghE:=(hE.keep hV).grown
    have ghG:=(hG.keep hV).grown
    have ghP:=(hP.keep hV).grown
    unfold Gr
    simp only [List.take_succ_cons,List.take_zero]
    repeat
      first
        | go_big_quiet_skip
        | (go_big_quiet_want;go_big_quiet_op;go_big_quiet_on)
        | (go_big_quiet_want
           go_big_quiet_op
           apply Exists.intro
           refine ⟨fun p=>?_,?_⟩
           · (first|(go_at_call 50;with_reducible exact Calls.regrown_of (A1.out _ (hDg p.d p.os)))|(go_at_call 60;with_reducible exact Calls.regrown_of (A2.out _ (hDg p.d p.os)))|(go_at_call 48;with_reducible exact Calls.regrown_of (A3.out _ (hDg p.d p.os)))|(go_at_call 50;with_reducible exact Calls.regrown_of (A4.out _ (hDg p.d p.os))))
           go_big_quiet_on)
    refine wpQuiet_nil ?_
    exact rfl
  case TT1 =>
    have hb:=ap hV hw
    have hN:=(ac.new rfl).keep hw
    have nhD:V.heap.size≠1:=Nat.ne_of_gt (Nat.lt_of_lt_of_le (hD.lt) hV.size)
    have nhK:V.heap.size≠w.heap.size:=Nat.ne_of_gt (Nat.lt_of_lt_of_le (World.block_lt_of_cell? _ _ hK.1) hV.size)
    have nhE:V.heap.size≠bn:=Nat.ne_of_gt (Nat.lt_of_lt_of_le (World.block_lt_of_cell? _ _ hE.1) hV.size)
    have nhG:V.heap.size≠bg:=Nat.ne_of_gt (Nat.lt_of_lt_of_le (World.block_lt_of_cell? _ _ hG.1) hV.size)
    have nhP:V.heap.size≠bp:=Nat.ne_of_gt (Nat.lt_of_lt_of_le (hP.lt) hV.size)
    have nhR:V.heap.size≠br:=Nat.ne_of_gt (Nat.lt_of_lt_of_le (hR.lt) hV.size)
    have gn:w.heap.size≤V.heap.size:=Nat.le_trans B.size hV.size
    replace B:=B.trans (hb.mono B.size)
    replace hD:=hD.keep hb;replace hK:=hK.keep hb;replace hE:=hE.keep hb;replace hG:=hG.keep hb;replace hP:=hP.keep hb;replace hR:=hR.keep hb
    clear hb hw hV W
    generalize V.heap.size=bs at *
    clear V
    have gN:=hN.1.all4;have qN:=hN.2.all4
    have ghP:=hP.cells
    have mhD:=nhD.symm
    have mhK:=nhK.symm
    have mhE:=nhE.symm
    have mhG:=nhG.symm
    have mhP:=nhP.symm
    have mhR:=nhR.symm
    simp only [List.drop_succ_cons,List.drop_zero,Act.put,List.setIfInBounds_toArray,List.set_cons_zero,List.set_cons_succ]
    go_wp2_with fail
    refine aa (fun W=>Below w.heap.size w W∧Mds W∧ab W w.heap.size key∧ab W bn non∧ab W bg dig∧Pnt W bp x y i∧Bk9 W br∧ab W bs s) ⟨ah B gn _ _ _ _,hD.set4 nhD _ _ _ _,hK.set4 nhK _ _ _ _,hE.set4 nhE _ _ _ _,hG.set4 nhG _ _ _ _,hP.set4 nhP _ _ _ _,hR.set4 nhR _ _ _ _,ab.sets4 (ac.has hN)⟩ ?_
    clear B hN gN qN hD hK hE hG hP hR nhD mhD nhK mhK nhE mhE nhG mhG nhP mhP nhR mhR ghP gn
    rintro W ⟨B,hD,hK,hE,hG,hP,hR,hS⟩
    clear w1
    clear hK hE hG
    with_reducible refine (Z1.out _).mono ?_
    rintro e w9 ⟨rfl,hb⟩
    replace B:=B.trans (hb.mono B.size)
    replace hD:=hD.keep hb;replace hP:=hP.keep hb;replace hR:=hR.keep hb;replace hS:=hS.keep hb
    clear hb W hD hP hS
    have gR:=hR.cells;have fR:=hR.free
    go_wp2
    simp [bodyPost,results,Tryz.results31,go_sem,gR]
    repeat (first|with_reducible exact B|with_reducible refine Below.setCell ?_ o3 _)
theorem wA {key non dig x y a b v s:Int} {i:Bool} (C0:Hid (∀ w,Mds w→Rt 27 #[U4 x] w (.bool true))) (A1:Hid (∀ w,Mds w→Rt 50 #[U4 x,U4 key] w (U4 a))) (A2:Hid (∀ w,Mds w→Rt 60 #[U4 dig,U4 a] w (U4 b))) (A3:Hid (∀ w,Mds w→Rt 48 #[U4 non] w (U4 v))) (A4:Hid (∀ w,Mds w→Rt 50 #[U4 b,U4 v] w (U4 s))) (Z1:Hid (∀ w,Rt 26 #[U4 x] w (.bool false))) (Z2:Hid (∀ w,Rt 26 #[U4 s] w (.bool true))) (w:World) (hm:Mds w) :
    Rt 31 #[U4 key,U4 non,U4 dig,P9 x y i] w (.tuple #[.agg #[.int .u64 (l0 0),.int .u64 (l1 0),.int .u64 (l2 0),.int .u64 (l3 0),.int .u64 (l0 0),.int .u64 (l1 0),.int .u64 (l2 0),.int .u64 (l3 0),.bool false],.int .i64 65]):=by
  obtain ⟨z0,z1,z2,z3⟩:=aq
  ((try unfold Rt);(try unfold U4);(try unfold P9);rw [z0,z1,z2,z3])
  clear z0 z1 z2 z3
  go_enter Tryz.func31,Tryz.ntmps31
  go_wp2_with fail
  refine aa (fun W=>Below w.heap.size w W∧Mds W∧ab W w.heap.size key∧ab W (w.heap.size+1) non∧ab W (w.heap.size+1+1) dig∧Pnt W (w.heap.size+1+1+1) x y i∧Bk9 W (w.heap.size+1+1+1+1)) ⟨by repeat (first|with_reducible exact Below.refl _ _|with_reducible refine Below.alloc ?_ (by first|omega|(simp;done)|(simp;omega)) _),((((hm.alloc _).alloc _).alloc _).alloc _).alloc _,((((ab.new _ _ _).alloc _).alloc _).alloc _).alloc _,(((ab.fresh (by simp)).alloc _).alloc _).alloc _,((ab.fresh (by simp)).alloc _).alloc _,(Pnt.new (by simp)).alloc _,Bk9.new (by simp)⟩ ?_
  rintro W ⟨B,hD,hK,hE,hG,hP,hR⟩
  have o3:w.heap.size≤w.heap.size+1+1+1+1:=by omega
  generalize w.heap.size+1+1+1+1=br at *
  generalize w.heap.size+1+1+1=bp at *
  generalize w.heap.size+1+1=bg at *
  generalize w.heap.size+1=bn at *
  with_reducible refine (C0.out _ hD).mono ?_
  rintro e w1 ⟨rfl,hb⟩
  replace B:=B.trans (hb.mono B.size)
  replace hD:=hD.keep hb;replace hK:=hK.keep hb;replace hE:=hE.keep hb;replace hG:=hG.keep hb;replace hP:=hP.keep hb;replace hR:=hR.keep hb
  clear hb W
  go_wp2_with fail
  refine af (fun W=>Below w.heap.size w W∧Mds W∧ab W w.heap.size key∧ab W bn non∧ab W bg dig∧Pnt W bp x y i∧Bk9 W br) ⟨B,hD,hK,hE,hG,hP,hR⟩ ?_
  clear B hD hK hE hG hP hR
  rintro W ⟨B,hD,hK,hE,hG,hP,hR⟩
  refine aD (A:=?AA1) 9 (by kernel_rfl) (by kernel_rfl) rfl rfl (aB _ _ _) (fun V hV=>?HH1) (fun V w1 hV hw=>?TT1)
  case HH1 =>
    have hDg:∀ d os,Mds (grow (redrawn V d) os):=fun d os=>(hD.keep hV).keep (below_regrown V d os)
    have ghK:=(hK.keep hV).grown
    have ghE:=(hE.keep hV).grown
    have ghG:=(hG.keep hV).grown
    have ghP:=(hP.keep hV).grown
    unfold Gr
    simp only [List.take_succ_cons,List.take_zero]
    repeat
      first
        | go_big_quiet_skip
        | (go_big_quiet_want;go_big_quiet_op;go_big_quiet_on)
        | (go_big_quiet_want
           go_big_quiet_op
           apply Exists.intro
           refine ⟨fun p=>?_,?_⟩
           · (first|(go_at_call 50;with_reducible exact Calls.regrown_of (A1.out _ (hDg p.d p.os)))|(go_at_call 60;with_reducible exact Calls.regrown_of (A2.out _ (hDg p.d p.os)))|(go_at_call 48;with_reducible exact Calls.regrown_of (A3.out _ (hDg p.d p.os)))|(go_at_call 50;with_reducible exact Calls.regrown_of (A4.out _ (hDg p.d p.os))))
           go_big_quiet_on)
    refine wpQuiet_nil ?_
    exact rfl
  case TT1 =>
    have hb:=ap hV hw
    have hN:=(ac.new rfl).keep hw
    have nhD:V.heap.size≠1:=Nat.ne_of_gt (Nat.lt_of_lt_of_le (hD.lt) hV.size)
    have nhK:V.heap.size≠w.heap.size:=Nat.ne_of_gt (Nat.lt_of_lt_of_le (World.block_lt_of_cell? _ _ hK.1) hV.size)
    have nhE:V.heap.size≠bn:=Nat.ne_of_gt (Nat.lt_of_lt_of_le (World.block_lt_of_cell? _ _ hE.1) hV.size)
    have nhG:V.heap.size≠bg:=Nat.ne_of_gt (Nat.lt_of_lt_of_le (World.block_lt_of_cell? _ _ hG.1) hV.size)
    have nhP:V.heap.size≠bp:=Nat.ne_of_gt (Nat.lt_of_lt_of_le (hP.lt) hV.size)
    have nhR:V.heap.size≠br:=Nat.ne_of_gt (Nat.lt_of_lt_of_le (hR.lt) hV.size)
    have gn:w.heap.size≤V.heap.size:=Nat.le_trans B.size hV.size
    replace B:=B.trans (hb.mono B.size)
    replace hD:=hD.keep hb;replace hK:=hK.keep hb;replace hE:=hE.keep hb;replace hG:=hG.keep hb;replace hP:=hP.keep hb;replace hR:=hR.keep hb
    clear hb hw hV W
    generalize V.heap.size=bs at *
    clear V
    have gN:=hN.1.all4;have qN:=hN.2.all4
    have ghP:=hP.cells
    have mhD:=nhD.symm
    have mhK:=nhK.symm
    have mhE:=nhE.symm
    have mhG:=nhG.symm
    have mhP:=nhP.symm
    have mhR:=nhR.symm
    simp only [List.drop_succ_cons,List.drop_zero,Act.put,List.setIfInBounds_toArray,List.set_cons_zero,List.set_cons_succ]
    go_wp2_with fail
    refine aa (fun W=>Below w.heap.size w W∧Mds W∧ab W w.heap.size key∧ab W bn non∧ab W bg dig∧Pnt W bp x y i∧Bk9 W br∧ab W bs s) ⟨ah B gn _ _ _ _,hD.set4 nhD _ _ _ _,hK.set4 nhK _ _ _ _,hE.set4 nhE _ _ _ _,hG.set4 nhG _ _ _ _,hP.set4 nhP _ _ _ _,hR.set4 nhR _ _ _ _,ab.sets4 (ac.has hN)⟩ ?_
    clear B hN gN qN hD hK hE hG hP hR nhD mhD nhK mhK nhE mhE nhG mhG nhP mhP nhR mhR ghP gn
    rintro W ⟨B,hD,hK,hE,hG,hP,hR,hS⟩
    clear w1
    clear hK hE hG
    with_reducible refine (Z1.out _).mono ?_
    rintro e w2 ⟨rfl,hb⟩
    replace B:=B.trans (hb.mono B.size)
    replace hD:=hD.keep hb;replace hP:=hP.keep hb;replace hR:=hR.keep hb;replace hS:=hS.keep hb
    clear hb W
    have ghS:=hS.cells
    go_wp2_with fail
    refine aa (fun W=>Below w.heap.size w W∧Mds W∧Pnt W bp x y i∧Bk9 W br∧ab W bs s) ⟨B,hD,hP,hR,hS⟩ ?_
    clear B hD hP hR hS ghS
    rintro W ⟨B,hD,hP,hR,hS⟩
    with_reducible refine (Z2.out _).mono ?_
    rintro e w9 ⟨rfl,hb⟩
    replace B:=B.trans (hb.mono B.size)
    replace hD:=hD.keep hb;replace hP:=hP.keep hb;replace hR:=hR.keep hb;replace hS:=hS.keep hb
    clear hb W hD hP hS
    have gR:=hR.cells;have fR:=hR.free
    go_wp2
    simp [bodyPost,results,Tryz.results31,go_sem,gR]
    repeat (first|with_reducible exact B|with_reducible refine Below.setCell ?_ o3 _)
theorem wB {key non dig x y a b v s:Int} {i od:Bool} (C0:Hid (∀ w,Mds w→Rt 27 #[U4 x] w (.bool true))) (A1:Hid (∀ w,Mds w→Rt 50 #[U4 x,U4 key] w (U4 a))) (A2:Hid (∀ w,Mds w→Rt 60 #[U4 dig,U4 a] w (U4 b))) (A3:Hid (∀ w,Mds w→Rt 48 #[U4 non] w (U4 v))) (A4:Hid (∀ w,Mds w→Rt 50 #[U4 b,U4 v] w (U4 s))) (Z1:Hid (∀ w,Rt 26 #[U4 x] w (.bool false))) (Z2:Hid (∀ w,Rt 26 #[U4 s] w (.bool false))) (D:Hid (∀ w,Rt 61 #[U4 y] w (.bool od))) (w:World) (hm:Mds w) :
    Rt 31 #[U4 key,U4 non,U4 dig,P9 x y i] w (.tuple #[P9 x s od,.int .i64 0]):=by
  go_enter Tryz.func31,Tryz.ntmps31
  go_wp2_with fail
  refine aa (fun W=>Below w.heap.size w W∧Mds W∧ab W w.heap.size key∧ab W (w.heap.size+1) non∧ab W (w.heap.size+1+1) dig∧Pnt W (w.heap.size+1+1+1) x y i∧Bk9 W (w.heap.size+1+1+1+1)) ⟨by repeat (first|with_reducible exact Below.refl _ _|with_reducible refine Below.alloc ?_ (by first|omega|(simp;done)|(simp;omega)) _),((((hm.alloc _).alloc _).alloc _).alloc _).alloc _,((((ab.new _ _ _).alloc _).alloc _).alloc _).alloc _,(((ab.fresh (by simp)).alloc _).alloc _).alloc _,((ab.fresh (by simp)).alloc _).alloc _,(Pnt.new (by simp)).alloc _,Bk9.new (by simp)⟩ ?_
  rintro W ⟨B,hD,hK,hE,hG,hP,hR⟩
  have o3:w.heap.size≤w.heap.size+1+1+1+1:=by omega
  generalize w.heap.size+1+1+1+1=br at *
  generalize w.heap.size+1+1+1=bp at *
  generalize w.heap.size+1+1=bg at *
  generalize w.heap.size+1=bn at *
  with_reducible refine (C0.out _ hD).mono ?_
  rintro e w1 ⟨rfl,hb⟩
  replace B:=B.trans (hb.mono B.size)
  replace hD:=hD.keep hb;replace hK:=hK.keep hb;replace hE:=hE.keep hb;replace hG:=hG.keep hb;replace hP:=hP.keep hb;replace hR:=hR.keep hb
  clear hb W
  go_wp2_with fail
  refine af (fun W=>Below w.heap.size w W∧Mds W∧ab W w.heap.size key∧ab W bn non∧ab W bg dig∧Pnt W bp x y i∧Bk9 W br) ⟨B,hD,hK,hE,hG,hP,hR⟩ ?_
  clear B hD hK hE hG hP hR
  rintro W ⟨B,hD,hK,hE,hG,hP,hR⟩
  refine aD (A:=?AA1) 9 (by kernel_rfl) (by kernel_rfl) rfl rfl (aB _ _ _) (fun V hV=>?HH1) (fun V w1 hV hw=>?TT1)
  case HH1 =>
    have hDg:∀ d os,Mds (grow (redrawn V d) os):=fun d os=>(hD.keep hV).keep (below_regrown V d os)
    have ghK:=(hK.keep hV).grown
    have ghE:=(hE.keep hV).grown
    have ghG:=(hG.keep hV).grown
    have ghP:=(hP.keep hV).grown
    unfold Gr
    simp only [List.take_succ_cons,List.take_zero]
    repeat
      first
        | go_big_quiet_skip
        | (go_big_quiet_want;go_big_quiet_op;go_big_quiet_on)
        | (go_big_quiet_want
           go_big_quiet_op
           apply Exists.intro
           refine ⟨fun p=>?_,?_⟩
           · (first|(go_at_call 50;with_reducible exact Calls.regrown_of (A1.out _ (hDg p.d p.os)))|(go_at_call 60;with_reducible exact Calls.regrown_of (A2.out _ (hDg p.d p.os)))|(go_at_call 48;with_reducible exact Calls.regrown_of (A3.out _ (hDg p.d p.os)))|(go_at_call 50;with_reducible exact Calls.regrown_of (A4.out _ (hDg p.d p.os))))
           go_big_quiet_on)
    refine wpQuiet_nil ?_
    exact rfl
  case TT1 =>
    have hb:=ap hV hw
    have hN:=(ac.new rfl).keep hw
    have nhD:V.heap.size≠1:=Nat.ne_of_gt (Nat.lt_of_lt_of_le (hD.lt) hV.size)
    have nhK:V.heap.size≠w.heap.size:=Nat.ne_of_gt (Nat.lt_of_lt_of_le (World.block_lt_of_cell? _ _ hK.1) hV.size)
    have nhE:V.heap.size≠bn:=Nat.ne_of_gt (Nat.lt_of_lt_of_le (World.block_lt_of_cell? _ _ hE.1) hV.size)
    have nhG:V.heap.size≠bg:=Nat.ne_of_gt (Nat.lt_of_lt_of_le (World.block_lt_of_cell? _ _ hG.1) hV.size)
    have nhP:V.heap.size≠bp:=Nat.ne_of_gt (Nat.lt_of_lt_of_le (hP.lt) hV.size)
    have nhR:V.heap.size≠br:=Nat.ne_of_gt (Nat.lt_of_lt_of_le (hR.lt) hV.size)
    have gn:w.heap.size≤V.heap.size:=Nat.le_trans B.size hV.size
    replace B:=B.trans (hb.mono B.size)
    replace hD:=hD.keep hb;replace hK:=hK.keep hb;replace hE:=hE.keep hb;replace hG:=hG.keep hb;replace hP:=hP.keep hb;replace hR:=hR.keep hb
    clear hb hw hV W
    generalize V.heap.size=bs at *
    clear V
    have gN:=hN.1.all4;have qN:=hN.2.all4
    have ghP:=hP.cells
    have mhD:=nhD.symm
    have mhK:=nhK.symm
    have mhE:=nhE.symm
    have mhG:=nhG.symm
    have mhP:=nhP.symm
    have mhR:=nhR.symm
    simp only [List.drop_succ_cons,List.drop_zero,Act.put,List.setIfInBounds_toArray,List.set_cons_zero,List.set_cons_succ]
    go_wp2_with fail
    refine aa (fun W=>Below w.heap.size w W∧Mds W∧ab W w.heap.size key∧ab W bn non∧ab W bg dig∧Pnt W bp x y i∧Bk9 W br∧ab W bs s) ⟨ah B gn _ _ _ _,hD.set4 nhD _ _ _ _,hK.set4 nhK _ _ _ _,hE.set4 nhE _ _ _ _,hG.set4 nhG _ _ _ _,hP.set4 nhP _ _ _ _,hR.set4 nhR _ _ _ _,ab.sets4 (ac.has hN)⟩ ?_
    clear B hN gN qN hD hK hE hG hP hR nhD mhD nhK mhK nhE mhE nhG mhG nhP mhP nhR mhR ghP gn
    rintro W ⟨B,hD,hK,hE,hG,hP,hR,hS⟩
    clear w1
    clear hK hE hG
    with_reducible refine (Z1.out _).mono ?_
    rintro e w2 ⟨rfl,hb⟩
    replace B:=B.trans (hb.mono B.size)
    replace hD:=hD.keep hb;replace hP:=hP.keep hb;replace hR:=hR.keep hb;replace hS:=hS.keep hb
    clear hb W
    have ghS:=hS.cells
    go_wp2_with fail
    refine aa (fun W=>Below w.heap.size w W∧Mds W∧Pnt W bp x y i∧Bk9 W br∧ab W bs s) ⟨B,hD,hP,hR,hS⟩ ?_
    clear B hD hP hR hS ghS
    rintro W ⟨B,hD,hP,hR,hS⟩
    with_reducible refine (Z2.out _).mono ?_
    rintro e w3 ⟨rfl,hb⟩
    replace B:=B.trans (hb.mono B.size)
    replace hD:=hD.keep hb;replace hP:=hP.keep hb;replace hR:=hR.keep hb;replace hS:=hS.keep hb
    clear hb W
    go_wp2_with fail
    refine af (fun W=>Below w.heap.size w W∧Mds W∧Pnt W bp x y i∧Bk9 W br∧ab W bs s) ⟨B,hD,hP,hR,hS⟩ ?_
    clear B hD hP hR hS
    rintro W ⟨B,hD,hP,hR,hS⟩
    have ghP:=hP.grown
    have ghS:=hS.grown
    have hDg:∀ d os,Mds (grow (redrawn W d) os):=fun d os=>hD.keep (below_regrown W d os)
    refine aL 7 (by kernel_rfl) (by kernel_rfl) ?_
    simp only [List.take_succ_cons,List.take_zero,List.drop_succ_cons,List.drop_zero]
    repeat
      first
        | go_big_quiet_skip
        | (go_big_quiet_want;go_big_quiet_op;go_big_quiet_on)
        | (go_big_quiet_want
           go_big_quiet_op
           apply Exists.intro
           refine ⟨fun p=>?_,?_⟩
           · (first|(go_at_call 61;with_reducible exact Calls.regrown_of (D.out _)))
           go_big_quiet_on)
    refine wpQuiet_nil ?_
    rintro w4 ⟨p,rfl⟩
    have hb:=below_regrown W p.d p.os
    generalize grow (redrawn W p.d) p.os=w4 at *
    replace B:=B.trans (hb.mono B.size)
    replace hD:=hD.keep hb;replace hP:=hP.keep hb;replace hR:=hR.keep hb;replace hS:=hS.keep hb
    clear hb W ghP ghS hDg
    clear hD hP hS
    have gR:=hR.cells;have fR:=hR.free
    go_wp2
    simp [bodyPost,results,Tryz.results31,go_sem,gR]
    repeat (first|with_reducible exact B|with_reducible refine Below.setCell ?_ o3 _)
theorem oM {r s:Int} {od:Bool} (C0:Hid (∀ w,Mds w→Rt 62 #[U4 s] w (.bool true))) (w:World) (hm:Mds w) :
  Rt 32 #[P9 r s od] w (P9 r s od):=by
 go_enter Tryz.func32,Tryz.ntmps32
 go_wp2_with fail
 refine aa (fun W=>Below w.heap.size w W∧Mds W∧Pnt W w.heap.size r s od∧Bk9 W (w.heap.size+1)) ⟨by repeat (first|with_reducible exact Below.refl _ _|with_reducible refine Below.alloc ?_ (by first|omega|(simp;done)|(simp;omega)) _),(hm.alloc _).alloc _,(Pnt.new rfl).alloc _,Bk9.new (by simp)⟩ ?_
 rintro W ⟨B,hD,hP,hR⟩
 have o3:w.heap.size≤w.heap.size+1:=by omega
 generalize w.heap.size+1=br at *
 with_reducible refine (C0.out _ hD).mono ?_
 rintro e w9 ⟨rfl,hb⟩
 replace B:=B.trans (hb.mono B.size)
 replace hD:=hD.keep hb;replace hP:=hP.keep hb;replace hR:=hR.keep hb
 clear hb W hD
 have gP:=hP.cells
 clear hP
 have gR:=hR.cells;have fR:=hR.free
 go_wp2
 simp [bodyPost,results,Tryz.results32,go_sem,gR]
 repeat (first|with_reducible exact B|with_reducible refine Below.setCell ?_ o3 _)
theorem pK {r s t:Int} {od:Bool} (C0:Hid (∀ w,Mds w→Rt 62 #[U4 s] w (.bool false))) (C1:Hid (∀ w,Mds w→Rt 51 #[U4 s] w (U4 t))) (w:World) (hm:Mds w) :
    Rt 32 #[P9 r s od] w (P9 r t (!od)):=by
  go_enter Tryz.func32,Tryz.ntmps32
  go_wp2_with fail
  refine aa (fun W=>Below w.heap.size w W∧Mds W∧Pnt W w.heap.size r s od∧Bk9 W (w.heap.size+1)) ⟨by repeat (first|with_reducible exact Below.refl _ _|with_reducible refine Below.alloc ?_ (by first|omega|(simp;done)|(simp;omega)) _),(hm.alloc _).alloc _,(Pnt.new rfl).alloc _,Bk9.new (by simp)⟩ ?_
  rintro W ⟨B,hD,hP,hR⟩
  have o3:w.heap.size≤w.heap.size+1:=by omega
  generalize w.heap.size+1=br at *
  with_reducible refine (C0.out _ hD).mono ?_
  rintro e w1 ⟨rfl,hb⟩
  replace B:=B.trans (hb.mono B.size)
  replace hD:=hD.keep hb;replace hP:=hP.keep hb;replace hR:=hR.keep hb
  clear hb W
  go_wp2_with fail
  refine af (fun W=>Below w.heap.size w W∧Mds W∧Pnt W w.heap.size r s od∧Bk9 W br) ⟨B,hD,hP,hR⟩ ?_
  clear B hD hP hR
  rintro W ⟨B,hD,hP,hR⟩
  have ghP:=hP.grown
  have hDg:∀ d os,Mds (grow (redrawn W d) os):=fun d os=>hD.keep (below_regrown W d os)
  refine aL 9 (by kernel_rfl) (by kernel_rfl) ?_
  simp only [List.take_succ_cons,List.take_zero,List.drop_succ_cons,List.drop_zero]
  repeat
    first
      | go_big_quiet_skip
      | (go_big_quiet_want;go_big_quiet_op;go_big_quiet_on)
      | (go_big_quiet_want
         go_big_quiet_op
         apply Exists.intro
         refine ⟨fun p=>?_,?_⟩
         · (first|(go_at_call 51;with_reducible exact Calls.regrown_of (C1.out _ (hDg p.d p.os))))
         go_big_quiet_on)
  refine wpQuiet_nil ?_
  rintro w2 ⟨p,rfl⟩
  have hb:=below_regrown W p.d p.os
  generalize grow (redrawn W p.d) p.os=w2 at *
  replace B:=B.trans (hb.mono B.size)
  replace hD:=hD.keep hb;replace hP:=hP.keep hb;replace hR:=hR.keep hb
  clear hb W ghP hDg
  clear hD hP
  have gR:=hR.cells;have fR:=hR.free
  go_wp2
  simp [bodyPost,results,Tryz.results32,go_sem,gR]
  repeat (first|with_reducible exact B|with_reducible refine Below.setCell ?_ o3 _)
end Go.Proofs.YtnnnaajgjniiaaaGreatDoor
