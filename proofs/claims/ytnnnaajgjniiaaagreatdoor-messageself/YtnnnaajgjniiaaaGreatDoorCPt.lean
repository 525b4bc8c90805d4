import Derived.Test.YtnnnaajgjniiaaaGreatDoorFFermat
import Derived.Test.YtnnnaajgjniiaaaGreatDoorCEq
import Derived.Test.YtnnnaajgjniiaaaGreatDoorFExp
import Derived.Test.YtnnnaajgjniiaaaGreatDoorHold
set_option maxRecDepth 100000
set_option maxHeartbeats 8000000
namespace Go.Proofs.YtnnnaajgjniiaaaGreatDoor
open Go.RowKit Go.Sort
theorem yp {x y:Int} (hx:Num x) (hy:Num y) (w:World) :
  Calls Tryz.prog 93 #[.agg #[.int .u64 (l0 x),.int .u64 (l1 x),.int .u64 (l2 x),.int .u64 (l3 x),.int .u64 (l0 y),.int .u64 (l1 y),.int .u64 (l2 y),.int .u64 (l3 y),.bool true]] w fun e w'=>e = .returned (.bool (decide (x=0)&&decide (y=0)))∧Below w.heap.size w w':=by
 have he:∀ w,(Op.equalIn 10000 56 (.agg #[.int .u64 (l0 x),.int .u64 (l1 x),.int .u64 (l2 x),.int .u64 (l3 x),.int .u64 (l0 y),.int .u64 (l1 y),.int .u64 (l2 y),.int .u64 (l3 y),.bool true]) (.agg #[.int .u64 0,.int .u64 0,.int .u64 0,.int .u64 0,.int .u64 0,.int .u64 0,.int .u64 0,.int .u64 0,.bool true])).run Tryz.prog w = .ok (decide (x=0)&&decide (y=0)) w:=fun w=>by
  have:=sb (i:=true) (j:=true) hx hy (x':=0) (y':=0) ⟨by decide,by decide⟩ ⟨by decide,by decide⟩ w
  obtain ⟨z0,z1,z2,z3⟩:=ap
  rw [z0,z1,z2,z3] at this
  rw [this];simp
 generalize (decide (x=0)&&decide (y=0))=r at *
 clear hx hy
 go_enter Tryz.func93,Tryz.ntmps93
 go_wp2
 simp [bodyPost,results,Tryz.results93,go_sem]
 repeat (first|with_reducible exact Below.refl _ _|with_reducible refine Below.alloc ?_ (by first|omega|(simp;done)|(simp;omega)) _)
theorem zj {x y:Int} (C1:Hid (∀ w,Mds w→Calls Tryz.prog 89 #[.agg #[.int .u64 (l0 x),.int .u64 (l1 x),.int .u64 (l2 x),.int .u64 (l3 x)]] w fun e w'=>e = .returned (.bool false)∧Below w.heap.size w w')) (w:World) (hm:Mds w) :
    Calls Tryz.prog 93 #[.agg #[.int .u64 (l0 x),.int .u64 (l1 x),.int .u64 (l2 x),.int .u64 (l3 x),.int .u64 (l0 y),.int .u64 (l1 y),.int .u64 (l2 y),.int .u64 (l3 y),.bool false]] w fun e w'=>e = .returned (.bool false)∧Below w.heap.size w w':=by
  go_enter Tryz.func93,Tryz.ntmps93
  go_wp2_with fail
  refine aj (fun W=>Below w.heap.size w W∧Mds W∧Pnt W w.heap.size x y false) ⟨by repeat (first|with_reducible exact Below.refl _ _|with_reducible refine Below.alloc ?_ (by first|omega|(simp;done)|(simp;omega)) _),hm.alloc _,Pnt.new rfl⟩ ?_
  rintro W ⟨B,hD,hP⟩
  have ghP:=hP.grown
  have hDg:∀ d os,Mds (grow (redrawn W d) os):=fun d os=>hD.keep (below_regrown W d os)
  refine wp_region_quiet_below (by kernel_rfl) (by kernel_rfl) ?_
  repeat
    first
      | go_big_quiet_skip
      | (go_big_quiet_want;go_big_quiet_op;go_big_quiet_on)
      | (go_big_quiet_want
         go_big_quiet_op
         apply Exists.intro
         refine ⟨fun p=>?_,?_⟩
         · (first|(go_at_call 89;with_reducible exact Calls.regrown_of (C1.out _ (hDg p.d p.os))))
         go_big_quiet_on)
  refine wpQuiet_nil ?_
  rintro w1 ⟨p,rfl⟩
  have hb:=below_regrown W p.d p.os
  generalize grow (redrawn W p.d) p.os=w1 at *
  replace B:=B.trans (hb.mono B.size)
  replace hD:=hD.keep hb;replace hP:=hP.keep hb
  clear hb W ghP hDg
  clear hD hP
  go_wp2
  simp [bodyPost,results,Tryz.results93,go_sem]
  exact B
theorem zk {x y:Int} (C1:Hid (∀ w,Mds w→Calls Tryz.prog 89 #[.agg #[.int .u64 (l0 x),.int .u64 (l1 x),.int .u64 (l2 x),.int .u64 (l3 x)]] w fun e w'=>e = .returned (.bool true)∧Below w.heap.size w w')) (C2:Hid (∀ w,Mds w→Calls Tryz.prog 89 #[.agg #[.int .u64 (l0 y),.int .u64 (l1 y),.int .u64 (l2 y),.int .u64 (l3 y)]] w fun e w'=>e = .returned (.bool false)∧Below w.heap.size w w')) (w:World) (hm:Mds w) :
    Calls Tryz.prog 93 #[.agg #[.int .u64 (l0 x),.int .u64 (l1 x),.int .u64 (l2 x),.int .u64 (l3 x),.int .u64 (l0 y),.int .u64 (l1 y),.int .u64 (l2 y),.int .u64 (l3 y),.bool false]] w fun e w'=>e = .returned (.bool false)∧Below w.heap.size w w':=by
  go_enter Tryz.func93,Tryz.ntmps93
  go_wp2_with fail
  refine aj (fun W=>Below w.heap.size w W∧Mds W∧Pnt W w.heap.size x y false) ⟨by repeat (first|with_reducible exact Below.refl _ _|with_reducible refine Below.alloc ?_ (by first|omega|(simp;done)|(simp;omega)) _),hm.alloc _,Pnt.new rfl⟩ ?_
  rintro W ⟨B,hD,hP⟩
  have ghP:=hP.grown
  have hDg:∀ d os,Mds (grow (redrawn W d) os):=fun d os=>hD.keep (below_regrown W d os)
  refine wp_region_quiet_below (by kernel_rfl) (by kernel_rfl) ?_
  repeat
    first
      | go_big_quiet_skip
      | (go_big_quiet_want;go_big_quiet_op;go_big_quiet_on)
      | (go_big_quiet_want
         go_big_quiet_op
         apply Exists.intro
         refine ⟨fun p=>?_,?_⟩
         · (first|(go_at_call 89;with_reducible exact Calls.regrown_of (C1.out _ (hDg p.d p.os)))|(go_at_call 89;with_reducible exact Calls.regrown_of (C2.out _ (hDg p.d p.os))))
         go_big_quiet_on)
  refine wpQuiet_nil ?_
  rintro w1 ⟨p,rfl⟩
  have hb:=below_regrown W p.d p.os
  generalize grow (redrawn W p.d) p.os=w1 at *
  replace B:=B.trans (hb.mono B.size)
  replace hD:=hD.keep hb;replace hP:=hP.keep hb
  clear hb W ghP hDg
  clear hD hP
  go_wp2
  simp [bodyPost,results,Tryz.results93,go_sem]
  exact B
theorem zl {x y a b:Int} {r:Bool} (C1:Hid (∀ w,Mds w→Calls Tryz.prog 89 #[.agg #[.int .u64 (l0 x),.int .u64 (l1 x),.int .u64 (l2 x),.int .u64 (l3 x)]] w fun e w'=>e = .returned (.bool true)∧Below w.heap.size w w')) (C2:Hid (∀ w,Mds w→Calls Tryz.prog 89 #[.agg #[.int .u64 (l0 y),.int .u64 (l1 y),.int .u64 (l2 y),.int .u64 (l3 y)]] w fun e w'=>e = .returned (.bool true)∧Below w.heap.size w w')) (C3:Hid (∀ w,Mds w→Calls Tryz.prog 86 #[.agg #[.int .u64 (l0 y),.int .u64 (l1 y),.int .u64 (l2 y),.int .u64 (l3 y)]] w fun e w'=>e = .returned (.agg #[.int .u64 (l0 a),.int .u64 (l1 a),.int .u64 (l2 a),.int .u64 (l3 a)])∧Below w.heap.size w w')) (C4:Hid (∀ w,Mds w→Calls Tryz.prog 91 #[.agg #[.int .u64 (l0 x),.int .u64 (l1 x),.int .u64 (l2 x),.int .u64 (l3 x)]] w fun e w'=>e = .returned (.agg #[.int .u64 (l0 b),.int .u64 (l1 b),.int .u64 (l2 b),.int .u64 (l3 b)])∧Below w.heap.size w w')) (he:∀ w,(Op.equalIn 10000 24 (.agg #[.int .u64 (l0 a),.int .u64 (l1 a),.int .u64 (l2 a),.int .u64 (l3 a)]) (.agg #[.int .u64 (l0 b),.int .u64 (l1 b),.int .u64 (l2 b),.int .u64 (l3 b)])).run Tryz.prog w = .ok r w) (w:World) (hm:Mds w) :
    Calls Tryz.prog 93 #[.agg #[.int .u64 (l0 x),.int .u64 (l1 x),.int .u64 (l2 x),.int .u64 (l3 x),.int .u64 (l0 y),.int .u64 (l1 y),.int .u64 (l2 y),.int .u64 (l3 y),.bool false]] w fun e w'=>e = .returned (.bool r)∧Below w.heap.size w w':=by
  go_enter Tryz.func93,Tryz.ntmps93
  go_wp2_with fail
  refine aj (fun W=>Below w.heap.size w W∧Mds W∧Pnt W w.heap.size x y false) ⟨by repeat (first|with_reducible exact Below.refl _ _|with_reducible refine Below.alloc ?_ (by first|omega|(simp;done)|(simp;omega)) _),hm.alloc _,Pnt.new rfl⟩ ?_
  rintro W ⟨B,hD,hP⟩
  have ghP:=hP.grown
  have hDg:∀ d os,Mds (grow (redrawn W d) os):=fun d os=>hD.keep (below_regrown W d os)
  refine wp_region_quiet_below (by kernel_rfl) (by kernel_rfl) ?_
  repeat
    first
      | go_big_quiet_skip
      | (go_big_quiet_want;go_big_quiet_op;go_big_quiet_on)
      | (go_big_quiet_want
         go_big_quiet_op
         apply Exists.intro
         refine ⟨fun p=>?_,?_⟩
         · (first|(go_at_call 89;with_reducible exact Calls.regrown_of (C1.out _ (hDg p.d p.os)))|(go_at_call 89;with_reducible exact Calls.regrown_of (C2.out _ (hDg p.d p.os)))|(go_at_call 86;with_reducible exact Calls.regrown_of (C3.out _ (hDg p.d p.os)))|(go_at_call 91;with_reducible exact Calls.regrown_of (C4.out _ (hDg p.d p.os))))
         go_big_quiet_on)
  refine wpQuiet_nil ?_
  rintro w1 ⟨p,rfl⟩
  have hb:=below_regrown W p.d p.os
  generalize grow (redrawn W p.d) p.os=w1 at *
  replace B:=B.trans (hb.mono B.size)
  replace hD:=hD.keep hb;replace hP:=hP.keep hb
  clear hb W ghP hDg
  clear hD hP
  go_wp2
  simp [bodyPost,results,Tryz.results93,go_sem]
  exact B
def aS (x y:Int) (i:Bool):EC.Pt:=if i then .o else .a (EC.fp x) (EC.fp y)
def Vd (x y:Int) (i:Bool):Prop:=if i then x=0∧y=0 else EC.Low x∧EC.Low y∧EC.On (aS x y false)
instance (x:Int):Decidable (EC.Low x):=inferInstanceAs (Decidable (_∧_))
instance (x y:Int):Decidable (EC.On (aS x y false)):=inferInstanceAs (Decidable (_=_))
instance (x y:Int) (i:Bool):Decidable (Vd x y i):=by unfold Vd;cases i<;>infer_instance
theorem Vd.on {x y:Int} {i:Bool} (h:Vd x y i):EC.On (aS x y i):=by
 cases i with
 | true=>exact EC.on_o
 | false=>exact h.2.2
theorem Vd.low {x y:Int} {i:Bool} (h:Vd x y i):EC.Low x∧EC.Low y:=by
 cases i with
 | true=>obtain ⟨rfl,rfl⟩:=h;exact ⟨⟨by decide,by decide⟩,⟨by decide,by decide⟩⟩
 | false=>exact ⟨h.1,h.2.1⟩
theorem Vd.inj {x y x' y':Int} {i j:Bool} (h:Vd x y i) (h':Vd x' y' j) (e:aS x y i=aS x' y' j):x=x'∧y=y'∧i=j:=by
 cases i<;>cases j
 ·have e':EC.Pt.a (EC.fp x) (EC.fp y) = .a (EC.fp x') (EC.fp y'):=e
  injection e' with e1 e2
  exact ⟨EC.fp_inj h.1 h'.1 e1,EC.fp_inj h.2.1 h'.2.1 e2,rfl⟩
 ·have e':EC.Pt.a (EC.fp x) (EC.fp y) = .o:=e
  cases e'
 ·have e':EC.Pt.o = .a (EC.fp x') (EC.fp y'):=e
  cases e'
 ·obtain ⟨rfl,rfl⟩:=h;obtain ⟨rfl,rfl⟩:=h';exact ⟨rfl,rfl,rfl⟩
theorem xa {x y:Int} {i:Bool} (hx:Num x) (hy:Num y) (w:World) (hm:Mds w) :
  Calls Tryz.prog 93 #[.agg #[.int .u64 (l0 x),.int .u64 (l1 x),.int .u64 (l2 x),.int .u64 (l3 x),.int .u64 (l0 y),.int .u64 (l1 y),.int .u64 (l2 y),.int .u64 (l3 y),.bool i]] w fun e w'=>e = .returned (.bool (decide (Vd x y i)))∧Below w.heap.size w w':=by
 cases i with
 | true =>
  have:=yp hx hy w
  rw [show (decide (x=0)&&decide (y=0))=decide (Vd x y true) by rw [←Bool.decide_and];rfl] at this
  exact this
 | false =>
  by_cases h1:x<pN
  ·have C1:Hid (∀ w,Mds w→Calls Tryz.prog 89 #[.agg #[.int .u64 (l0 x),.int .u64 (l1 x),.int .u64 (l2 x),.int .u64 (l3 x)]] w fun e w'=>e = .returned (.bool true)∧Below w.heap.size w w'):=fun w hm=>by
    have:=c9 hx w hm
    rw [decide_eq_true h1] at this;exact this
   by_cases h2:y<pN
   ·have C2:Hid (∀ w,Mds w→Calls Tryz.prog 89 #[.agg #[.int .u64 (l0 y),.int .u64 (l1 y),.int .u64 (l2 y),.int .u64 (l3 y)]] w fun e w'=>e = .returned (.bool true)∧Below w.heap.size w w'):=fun w hm=>by
     have:=c9 hy w hm
     rw [decide_eq_true h2] at this;exact this
    have lx:EC.Low x:=⟨hx.1,h1⟩
    have ly:EC.Low y:=⟨hy.1,h2⟩
    have key:decide (ac pN (y*y)=bV x)=decide (Vd x y false):=by
     apply decide_eq_decide.2
     constructor
     ·intro e
      refine ⟨lx,ly,?_⟩
      have:=congrArg EC.fp e
      unfold bV at this
      simp only [EC.fp_mod,EC.fp_mul,EC.fp_add] at this
      rw [show EC.fp 7=7 by decide +kernel] at this
      exact this
     ·intro ⟨_,_,e⟩
      have e':EC.fp y*EC.fp y=EC.fp x*EC.fp x*EC.fp x+7:=e
      unfold bV
      refine EC.fp_inj (EC.low_mod _) (EC.low_mod _) ?_
      simp only [EC.fp_mod,EC.fp_mul,EC.fp_add]
      rw [show EC.fp 7=7 by decide +kernel]
      exact e'
    rw [←key]
    exact zl C1 C2 (fun w hm=>aO hy w hm) (fun w hm=>gz hx w hm) (fun w=>fD (ag am _) (ag am _) w) w hm
   ·rw [decide_eq_false (show ¬Vd x y false from fun h=>h2 h.2.1.2)]
    exact zk C1 (fun w hm=>by
     have:=c9 hy w hm
     rw [decide_eq_false h2] at this;exact this) w hm
  ·rw [decide_eq_false (show ¬Vd x y false from fun h=>h1 h.1.2)]
   exact zj (fun w hm=>by
    have:=c9 hx w hm
    rw [decide_eq_false h1] at this;exact this) w hm
theorem kU {x y:Int} {i:Bool} (h:Vd x y i):∃ x' y' z',EC.Low x'∧EC.Low y'∧EC.Low z'∧(J3 x' y' z').pt=aS x y i ∧
  ∀ w,Calls Tryz.prog 82 #[.agg #[.int .u64 (l0 x),.int .u64 (l1 x),.int .u64 (l2 x),.int .u64 (l3 x),.int .u64 (l0 y),.int .u64 (l1 y),.int .u64 (l2 y),.int .u64 (l3 y),.bool i]] w fun e w'=>e = .returned (.agg #[.int .u64 (l0 x'),.int .u64 (l1 x'),.int .u64 (l2 x'),.int .u64 (l3 x'),.int .u64 (l0 y'),.int .u64 (l1 y'),.int .u64 (l2 y'),.int .u64 (l3 y'),.int .u64 (l0 z'),.int .u64 (l1 z'),.int .u64 (l2 z'),.int .u64 (l3 z')])∧Below w.heap.size w w':=by
 cases i with
 | true =>
  refine ⟨0,0,0,⟨by decide,by decide⟩,⟨by decide,by decide⟩,⟨by decide,by decide⟩,?_,fun w=>rQ w⟩
  exact EC.pt_o EC.fp_zero
 | false =>
  refine ⟨x,y,1,h.1,h.2.1,⟨by decide,by decide⟩,?_,fun w=>rR w⟩
  show EC.pt (EC.fp x) (EC.fp y) (EC.fp 1) = .a (EC.fp x) (EC.fp y)
  rw [EC.fp_one]
  refine EC.pt_of (by decide +kernel) ?_ ?_<;>grind -lia -linarith
theorem oC {x y z:Int} (hx:EC.Low x) (hy:EC.Low y) (hz:EC.Low z):∃ x' y' i,EC.Low x'∧EC.Low y'∧(i=true→x'=0∧y'=0)∧aS x' y' i=(J3 x y z).pt ∧
  ∀ w,Mds w→Calls Tryz.prog 45 #[.agg #[.int .u64 (l0 x),.int .u64 (l1 x),.int .u64 (l2 x),.int .u64 (l3 x),.int .u64 (l0 y),.int .u64 (l1 y),.int .u64 (l2 y),.int .u64 (l3 y),.int .u64 (l0 z),.int .u64 (l1 z),.int .u64 (l2 z),.int .u64 (l3 z)]] w fun e w'=>e = .returned (.agg #[.int .u64 (l0 x'),.int .u64 (l1 x'),.int .u64 (l2 x'),.int .u64 (l3 x'),.int .u64 (l0 y'),.int .u64 (l1 y'),.int .u64 (l2 y'),.int .u64 (l3 y'),.bool i])∧Below w.heap.size w w':=by
 by_cases h0:z=0
 ·subst h0
  exact ⟨0,0,true,⟨by decide,by decide⟩,⟨by decide,by decide⟩,fun _=>⟨rfl,rfl⟩,(EC.pt_o EC.fp_zero).symm,fun w _=>uf w⟩
 ·have hm0:ac pN z≠0:=by rw [cw hz.1 hz.2];exact h0
  refine ⟨_,_,false,EC.low_mod _,EC.low_mod _,(fun e=>by cases e),?_,fun w hm=>oa (v:=aR pN z) (fun w=>?_) (fun w hm=>iT ks hz.num hm0 w hm) (fun w hm=>aO (dr am _ _) w hm)
   (fun w hm=>aA hx.num (ag am _) w hm) (fun w hm=>aA (ag am _) (dr am _ _) w hm) (fun w hm=>aA hy.num (ag am _) w hm) w hm⟩
  ·show EC.Pt.a _ _=EC.pt (EC.fp x) (EC.fp y) (EC.fp z)
   unfold EC.pt
   rw [if_neg (mz hz h0)]
   have ei:EC.fp (aD pN z (pN-2))=EC.iv (EC.fp z):=EC.fp_inv hz
   simp only [EC.fp_mod,EC.fp_mul,ei]
  ·have:=cL (x:=x) (y:=y) hz.num w
   rw [decide_eq_false h0] at this;exact this
open Go.RowKit Go.Sort
theorem xb {key non dig x y:Int} {i:Bool} (C0:Hid (∀ w,Mds w→Calls Tryz.prog 27 #[.agg #[.int .u64 (l0 x),.int .u64 (l1 x),.int .u64 (l2 x),.int .u64 (l3 x)]] w fun e w'=>e = .returned (.bool false)∧Below w.heap.size w w')) (w:World) (hm:Mds w) :
  Calls Tryz.prog 31 #[.agg #[.int .u64 (l0 key),.int .u64 (l1 key),.int .u64 (l2 key),.int .u64 (l3 key)],.agg #[.int .u64 (l0 non),.int .u64 (l1 non),.int .u64 (l2 non),.int .u64 (l3 non)],.agg #[.int .u64 (l0 dig),.int .u64 (l1 dig),.int .u64 (l2 dig),.int .u64 (l3 dig)],.agg #[.int .u64 (l0 x),.int .u64 (l1 x),.int .u64 (l2 x),.int .u64 (l3 x),.int .u64 (l0 y),.int .u64 (l1 y),.int .u64 (l2 y),.int .u64 (l3 y),.bool i]] w fun e w'=>e = .returned (.tuple #[.agg #[.int .u64 (l0 0),.int .u64 (l1 0),.int .u64 (l2 0),.int .u64 (l3 0),.int .u64 (l0 0),.int .u64 (l1 0),.int .u64 (l2 0),.int .u64 (l3 0),.bool false],.int .i64 64])∧Below w.heap.size w w':=by
 obtain ⟨z0,z1,z2,z3⟩:=ap
 rw [z0,z1,z2,z3]
 clear z0 z1 z2 z3
 go_enter Tryz.func31,Tryz.ntmps31
 go_wp2_with fail
 refine aa (fun W=>Below w.heap.size w W∧Mds W∧ae W w.heap.size key∧ae W (w.heap.size+1) non∧ae W (w.heap.size+1+1) dig∧Pnt W (w.heap.size+1+1+1) x y i∧Bk9 W (w.heap.size+1+1+1+1)) ⟨by repeat (first|with_reducible exact Below.refl _ _|with_reducible refine Below.alloc ?_ (by first|omega|(simp;done)|(simp;omega)) _),((((hm.alloc _).alloc _).alloc _).alloc _).alloc _,((((ae.new _ _ _).alloc _).alloc _).alloc _).alloc _,(((ae.fresh (by simp)).alloc _).alloc _).alloc _,((ae.fresh (by simp)).alloc _).alloc _,(Pnt.new (by simp)).alloc _,Bk9.new (by simp)⟩ ?_
 rintro W ⟨B,hD,hK,hE,hG,hP,hR⟩
 have o3:w.heap.size≤w.heap.size+1+1+1+1:=by omega
 generalize w.heap.size+1+1+1+1=br at *
 generalize w.heap.size+1+1+1=bp at *
 generalize w.heap.size+1+1=bg at *
 generalize w.heap.size+1=bn at *
 with_reducible refine (C0.out _ hD).mono ?_
 rintro e w9 ⟨rfl,hb⟩
 replace B:=B.trans (hb.mono B.size)
 replace hD:=hD.keep hb;replace hK:=hK.keep hb;replace hE:=hE.keep hb;replace hG:=hG.keep hb;replace hP:=hP.keep hb;replace hR:=hR.keep hb
 clear hb W hD hK hE hG hP
 have gR:=hR.cells;have fR:=hR.free
 go_wp2
 simp [bodyPost,results,Tryz.results31,go_sem,gR]
 repeat (first|with_reducible exact B|with_reducible refine Below.setCell ?_ o3 _)
theorem uz {key non dig x y a b v s:Int} {i:Bool} (C0:Hid (∀ w,Mds w→Calls Tryz.prog 27 #[.agg #[.int .u64 (l0 x),.int .u64 (l1 x),.int .u64 (l2 x),.int .u64 (l3 x)]] w fun e w'=>e = .returned (.bool true)∧Below w.heap.size w w')) (A1:Hid (∀ w,Mds w→Calls Tryz.prog 50 #[.agg #[.int .u64 (l0 x),.int .u64 (l1 x),.int .u64 (l2 x),.int .u64 (l3 x)],.agg #[.int .u64 (l0 key),.int .u64 (l1 key),.int .u64 (l2 key),.int .u64 (l3 key)]] w fun e w'=>e = .returned (.agg #[.int .u64 (l0 a),.int .u64 (l1 a),.int .u64 (l2 a),.int .u64 (l3 a)])∧Below w.heap.size w w')) (A2:Hid (∀ w,Mds w→Calls Tryz.prog 60 #[.agg #[.int .u64 (l0 dig),.int .u64 (l1 dig),.int .u64 (l2 dig),.int .u64 (l3 dig)],.agg #[.int .u64 (l0 a),.int .u64 (l1 a),.int .u64 (l2 a),.int .u64 (l3 a)]] w fun e w'=>e = .returned (.agg #[.int .u64 (l0 b),.int .u64 (l1 b),.int .u64 (l2 b),.int .u64 (l3 b)])∧Below w.heap.size w w')) (A3:Hid (∀ w,Mds w→Calls Tryz.prog 48 #[.agg #[.int .u64 (l0 non),.int .u64 (l1 non),.int .u64 (l2 non),.int .u64 (l3 non)]] w fun e w'=>e = .returned (.agg #[.int .u64 (l0 v),.int .u64 (l1 v),.int .u64 (l2 v),.int .u64 (l3 v)])∧Below w.heap.size w w')) (A4:Hid (∀ w,Mds w→Calls Tryz.prog 50 #[.agg #[.int .u64 (l0 b),.int .u64 (l1 b),.int .u64 (l2 b),.int .u64 (l3 b)],.agg #[.int .u64 (l0 v),.int .u64 (l1 v),.int .u64 (l2 v),.int .u64 (l3 v)]] w fun e w'=>e = .returned (.agg #[.int .u64 (l0 s),.int .u64 (l1 s),.int .u64 (l2 s),.int .u64 (l3 s)])∧Below w.heap.size w w')) (Z1:Hid (∀ w,Calls Tryz.prog 26 #[.agg #[.int .u64 (l0 x),.int .u64 (l1 x),.int .u64 (l2 x),.int .u64 (l3 x)]] w fun e w'=>e = .returned (.bool true)∧Below w.heap.size w w')) (w:World) (hm:Mds w) :
    Calls Tryz.prog 31 #[.agg #[.int .u64 (l0 key),.int .u64 (l1 key),.int .u64 (l2 key),.int .u64 (l3 key)],.agg #[.int .u64 (l0 non),.int .u64 (l1 non),.int .u64 (l2 non),.int .u64 (l3 non)],.agg #[.int .u64 (l0 dig),.int .u64 (l1 dig),.int .u64 (l2 dig),.int .u64 (l3 dig)],.agg #[.int .u64 (l0 x),.int .u64 (l1 x),.int .u64 (l2 x),.int .u64 (l3 x),.int .u64 (l0 y),.int .u64 (l1 y),.int .u64 (l2 y),.int .u64 (l3 y),.bool i]] w fun e w'=>e = .returned (.tuple #[.agg #[.int .u64 (l0 0),.int .u64 (l1 0),.int .u64 (l2 0),.int .u64 (l3 0),.int .u64 (l0 0),.int .u64 (l1 0),.int .u64 (l2 0),.int .u64 (l3 0),.bool false],.int .i64 65])∧Below w.heap.size w w':=by
  obtain ⟨z0,z1,z2,z3⟩:=ap
  rw [z0,z1,z2,z3]
  clear z0 z1 z2 z3
  go_enter Tryz.func31,Tryz.ntmps31
  go_wp2_with fail
  refine aa (fun W=>Below w.heap.size w W∧Mds W∧ae W w.heap.size key∧ae W (w.heap.size+1) non∧ae W (w.heap.size+1+1) dig∧Pnt W (w.heap.size+1+1+1) x y i∧Bk9 W (w.heap.size+1+1+1+1)) ⟨by repeat (first|with_reducible exact Below.refl _ _|with_reducible refine Below.alloc ?_ (by first|omega|(simp;done)|(simp;omega)) _),((((hm.alloc _).alloc _).alloc _).alloc _).alloc _,((((ae.new _ _ _).alloc _).alloc _).alloc _).alloc _,(((ae.fresh (by simp)).alloc _).alloc _).alloc _,((ae.fresh (by simp)).alloc _).alloc _,(Pnt.new (by simp)).alloc _,Bk9.new (by simp)⟩ ?_
  rintro W ⟨B,hD,hK,hE,hG,hP,hR⟩
  have o3:w.heap.size≤w.heap.size+1+1+1+1:=by omega
  generalize w.heap.size+1+1+1+1=br at *
  generalize w.heap.size+1+1+1=bp at *
  generalize w.heap.size+1+1=bg at *
  generalize w.heap.size+1=bn at *
  with_reducible refine (C0.out _ hD).mono ?_
  rintro e w1 ⟨rfl,hb⟩
  replace B:=B.trans (hb.mono B.size)
  replace hD:=hD.keep hb;replace hK:=hK.keep hb;replace hE:=hE.keep hb;replace hG:=hG.keep hb;replace hP:=hP.keep hb;replace hR:=hR.keep hb
  clear hb W
  go_wp2_with fail
  refine aj (fun W=>Below w.heap.size w W∧Mds W∧ae W w.heap.size key∧ae W bn non∧ae W bg dig∧Pnt W bp x y i∧Bk9 W br) ⟨B,hD,hK,hE,hG,hP,hR⟩ ?_
  clear B hD hK hE hG hP hR
  rintro W ⟨B,hD,hK,hE,hG,hP,hR⟩
  refine bF (A:=?AA1) 9 (by kernel_rfl) (by kernel_rfl) rfl rfl (aU _ _ _) (fun V hV=>?HH1) (fun V w1 hV hw=>?TT1)
  case HH1 =>
    have hDg:∀ d os,Mds (grow (redrawn V d) os):=fun d os=>(hD.keep hV).keep (below_regrown V d os)
    have ghK:=(hK.keep hV).grown
    have ghE:=(hE.keep hV).grown
    have ghG:=(hG.keep hV).grown
    have ghP:=(hP.keep hV).grown
    unfold Gr
    simp only [List.take_succ_cons,List.take_zero]
    repeat
      first
        | go_big_quiet_skip
        | (go_big_quiet_want;go_big_quiet_op;go_big_quiet_on)
        | (go_big_quiet_want
           go_big_quiet_op
           apply Exists.intro
           refine ⟨fun p=>?_,?_⟩
           · (first|(go_at_call 50;with_reducible exact Calls.regrown_of (A1.out _ (hDg p.d p.os)))|(go_at_call 60;with_reducible exact Calls.regrown_of (A2.out _ (hDg p.d p.os)))|(go_at_call 48;with_reducible exact Calls.regrown_of (A3.out _ (hDg p.d p.os)))|(go_at_call 50;with_reducible exact Calls.regrown_of (A4.out _ (hDg p.d p.os))))
           go_big_quiet_on)
    refine wpQuiet_nil ?_
    exact rfl
  case TT1 =>
    have hb:=au hV hw
    have hN:=(af.new rfl).keep hw
    have nhD:V.heap.size≠1:=Nat.ne_of_gt (Nat.lt_of_lt_of_le (hD.lt) hV.size)
    have nhK:V.heap.size≠w.heap.size:=Nat.ne_of_gt (Nat.lt_of_lt_of_le (World.block_lt_of_cell? _ _ hK.1) hV.size)
    have nhE:V.heap.size≠bn:=Nat.ne_of_gt (Nat.lt_of_lt_of_le (World.block_lt_of_cell? _ _ hE.1) hV.size)
    have nhG:V.heap.size≠bg:=Nat.ne_of_gt (Nat.lt_of_lt_of_le (World.block_lt_of_cell? _ _ hG.1) hV.size)
    have nhP:V.heap.size≠bp:=Nat.ne_of_gt (Nat.lt_of_lt_of_le (hP.lt) hV.size)
    have nhR:V.heap.size≠br:=Nat.ne_of_gt (Nat.lt_of_lt_of_le (hR.lt) hV.size)
    have gn:w.heap.size≤V.heap.size:=Nat.le_trans B.size hV.size
    replace B:=B.trans (hb.mono B.size)
    replace hD:=hD.keep hb;replace hK:=hK.keep hb;replace hE:=hE.keep hb;replace hG:=hG.keep hb;replace hP:=hP.keep hb;replace hR:=hR.keep hb
    clear hb hw hV W
    generalize V.heap.size=bs at *
    clear V
    have gN:=hN.1.all4;have qN:=hN.2.all4
    have ghP:=hP.cells
    have mhD:=nhD.symm
    have mhK:=nhK.symm
    have mhE:=nhE.symm
    have mhG:=nhG.symm
    have mhP:=nhP.symm
    have mhR:=nhR.symm
    simp only [List.drop_succ_cons,List.drop_zero,Act.put,List.setIfInBounds_toArray,List.set_cons_zero,List.set_cons_succ]
    go_wp2_with fail
    refine aa (fun W=>Below w.heap.size w W∧Mds W∧ae W w.heap.size key∧ae W bn non∧ae W bg dig∧Pnt W bp x y i∧Bk9 W br∧ae W bs s) ⟨ak B gn _ _ _ _,hD.set4 nhD _ _ _ _,hK.set4 nhK _ _ _ _,hE.set4 nhE _ _ _ _,hG.set4 nhG _ _ _ _,hP.set4 nhP _ _ _ _,hR.set4 nhR _ _ _ _,ae.sets4 (af.has hN)⟩ ?_
    clear B hN gN qN hD hK hE hG hP hR nhD mhD nhK mhK nhE mhE nhG mhG nhP mhP nhR mhR ghP gn
    rintro W ⟨B,hD,hK,hE,hG,hP,hR,hS⟩
    clear w1
    clear hK hE hG
    with_reducible refine (Z1.out _).mono ?_
    rintro e w9 ⟨rfl,hb⟩
    replace B:=B.trans (hb.mono B.size)
    replace hD:=hD.keep hb;replace hP:=hP.keep hb;replace hR:=hR.keep hb;replace hS:=hS.keep hb
    clear hb W hD hP hS
    have gR:=hR.cells;have fR:=hR.free
    go_wp2
    simp [bodyPost,results,Tryz.results31,go_sem,gR]
    repeat (first|with_reducible exact B|with_reducible refine Below.setCell ?_ o3 _)
theorem uA {key non dig x y a b v s:Int} {i:Bool} (C0:Hid (∀ w,Mds w→Calls Tryz.prog 27 #[.agg #[.int .u64 (l0 x),.int .u64 (l1 x),.int .u64 (l2 x),.int .u64 (l3 x)]] w fun e w'=>e = .returned (.bool true)∧Below w.heap.size w w')) (A1:Hid (∀ w,Mds w→Calls Tryz.prog 50 #[.agg #[.int .u64 (l0 x),.int .u64 (l1 x),.int .u64 (l2 x),.int .u64 (l3 x)],.agg #[.int .u64 (l0 key),.int .u64 (l1 key),.int .u64 (l2 key),.int .u64 (l3 key)]] w fun e w'=>e = .returned (.agg #[.int .u64 (l0 a),.int .u64 (l1 a),.int .u64 (l2 a),.int .u64 (l3 a)])∧Below w.heap.size w w')) (A2:Hid (∀ w,Mds w→Calls Tryz.prog 60 #[.agg #[.int .u64 (l0 dig),.int .u64 (l1 dig),.int .u64 (l2 dig),.int .u64 (l3 dig)],.agg #[.int .u64 (l0 a),.int .u64 (l1 a),.int .u64 (l2 a),.int .u64 (l3 a)]] w fun e w'=>e = .returned (.agg #[.int .u64 (l0 b),.int .u64 (l1 b),.int .u64 (l2 b),.int .u64 (l3 b)])∧Below w.heap.size w w')) (A3:Hid (∀ w,Mds w→Calls Tryz.prog 48 #[.agg #[.int .u64 (l0 non),.int .u64 (l1 non),.int .u64 (l2 non),.int .u64 (l3 non)]] w fun e w'=>e = .returned (.agg #[.int .u64 (l0 v),.int .u64 (l1 v),.int .u64 (l2 v),.int .u64 (l3 v)])∧Below w.heap.size w w')) (A4:Hid (∀ w,Mds w→Calls Tryz.prog 50 #[.agg #[.int .u64 (l0 b),.int .u64 (l1 b),.int .u64 (l2 b),.int .u64 (l3 b)],.agg #[.int .u64 (l0 v),.int .u64 (l1 v),.int .u64 (l2 v),.int .u64 (l3 v)]] w fun e w'=>e = .returned (.agg #[.int .u64 (l0 s),.int .u64 (l1 s),.int .u64 (l2 s),.int .u64 (l3 s)])∧Below w.heap.size w w')) (Z1:Hid (∀ w,Calls Tryz.prog 26 #[.agg #[.int .u64 (l0 x),.int .u64 (l1 x),.int .u64 (l2 x),.int .u64 (l3 x)]] w fun e w'=>e = .returned (.bool false)∧Below w.heap.size w w')) (Z2:Hid (∀ w,Calls Tryz.prog 26 #[.agg #[.int .u64 (l0 s),.int .u64 (l1 s),.int .u64 (l2 s),.int .u64 (l3 s)]] w fun e w'=>e = .returned (.bool true)∧Below w.heap.size w w')) (w:World) (hm:Mds w) :
    Calls Tryz.prog 31 #[.agg #[.int .u64 (l0 key),.int .u64 (l1 key),.int .u64 (l2 key),.int .u64 (l3 key)],.agg #[.int .u64 (l0 non),.int .u64 (l1 non),.int .u64 (l2 non),.int .u64 (l3 non)],.agg #[.int .u64 (l0 dig),.int .u64 (l1 dig),.int .u64 (l2 dig),.int .u64 (l3 dig)],.agg #[.int .u64 (l0 x),.int .u64 (l1 x),.int .u64 (l2 x),.int .u64 (l3 x),.int .u64 (l0 y),.int .u64 (l1 y),.int .u64 (l2 y),.int .u64 (l3 y),.bool i]] w fun e w'=>e = .returned (.tuple #[.agg #[.int .u64 (l0 0),.int .u64 (l1 0),.int .u64 (l2 0),.int .u64 (l3 0),.int .u64 (l0 0),.int .u64 (l1 0),.int .u64 (l2 0),.int .u64 (l3 0),.bool false],.int .i64 65])∧Below w.heap.size w w':=by
  obtain ⟨z0,z1,z2,z3⟩:=ap
  rw [z0,z1,z2,z3]
  clear z0 z1 z2 z3
  go_enter Tryz.func31,Tryz.ntmps31
  go_wp2_with fail
  refine aa (fun W=>Below w.heap.size w W∧Mds W∧ae W w.heap.size key∧ae W (w.heap.size+1) non∧ae W (w.heap.size+1+1) dig∧Pnt W (w.heap.size+1+1+1) x y i∧Bk9 W (w.heap.size+1+1+1+1)) ⟨by repeat (first|with_reducible exact Below.refl _ _|with_reducible refine Below.alloc ?_ (by first|omega|(simp;done)|(simp;omega)) _),((((hm.alloc _).alloc _).alloc _).alloc _).alloc _,((((ae.new _ _ _).alloc _).alloc _).alloc _).alloc _,(((ae.fresh (by simp)).alloc _).alloc _).alloc _,((ae.fresh (by simp)).alloc _).alloc _,(Pnt.new (by simp)).alloc _,Bk9.new (by simp)⟩ ?_
  rintro W ⟨B,hD,hK,hE,hG,hP,hR⟩
  have o3:w.heap.size≤w.heap.size+1+1+1+1:=by omega
  generalize w.heap.size+1+1+1+1=br at *
  generalize w.heap.size+1+1+1=bp at *
  generalize w.heap.size+1+1=bg at *
  generalize w.heap.size+1=bn at *
  with_reducible refine (C0.out _ hD).mono ?_
  rintro e w1 ⟨rfl,hb⟩
  replace B:=B.trans (hb.mono B.size)
  replace hD:=hD.keep hb;replace hK:=hK.keep hb;replace hE:=hE.keep hb;replace hG:=hG.keep hb;replace hP:=hP.keep hb;replace hR:=hR.keep hb
  clear hb W
  go_wp2_with fail
  refine aj (fun W=>Below w.heap.size w W∧Mds W∧ae W w.heap.size key∧ae W bn non∧ae W bg dig∧Pnt W bp x y i∧Bk9 W br) ⟨B,hD,hK,hE,hG,hP,hR⟩ ?_
  clear B hD hK hE hG hP hR
  rintro W ⟨B,hD,hK,hE,hG,hP,hR⟩
  refine bF (A:=?AA1) 9 (by kernel_rfl) (by kernel_rfl) rfl rfl (aU _ _ _) (fun V hV=>?HH1) (fun V w1 hV hw=>?TT1)
  case HH1 =>
    have hDg:∀ d os,Mds (grow (redrawn V d) os):=fun d os=>(hD.keep hV).keep (below_regrown V d os)
    have ghK:=(hK.keep hV).grown
    have ghE:=(hE.keep hV).grown
    have ghG:=(hG.keep hV).grown
    have ghP:=(hP.keep hV).grown
    unfold Gr
    simp only [List.take_succ_cons,List.take_zero]
    repeat
      first
        | go_big_quiet_skip
        | (go_big_quiet_want;go_big_quiet_op;go_big_quiet_on)
        | (go_big_quiet_want
           go_big_quiet_op
           apply Exists.intro
           refine ⟨fun p=>?_,?_⟩
           · (first|(go_at_call 50;with_reducible exact Calls.regrown_of (A1.out _ (hDg p.d p.os)))|(go_at_call 60;with_reducible exact Calls.regrown_of (A2.out _ (hDg p.d p.os)))|(go_at_call 48;with_reducible exact Calls.regrown_of (A3.out _ (hDg p.d p.os)))|(go_at_call 50;with_reducible exact Calls.regrown_of (A4.out _ (hDg p.d p.os))))
           go_big_quiet_on)
    refine wpQuiet_nil ?_
    exact rfl
  case TT1 =>
    have hb:=au hV hw
    have hN:=(af.new rfl).keep hw
    have nhD:V.heap.size≠1:=Nat.ne_of_gt (Nat.lt_of_lt_of_le (hD.lt) hV.size)
    have nhK:V.heap.size≠w.heap.size:=Nat.ne_of_gt (Nat.lt_of_lt_of_le (World.block_lt_of_cell? _ _ hK.1) hV.size)
    have nhE:V.heap.size≠bn:=Nat.ne_of_gt (Nat.lt_of_lt_of_le (World.block_lt_of_cell? _ _ hE.1) hV.size)
    have nhG:V.heap.size≠bg:=Nat.ne_of_gt (Nat.lt_of_lt_of_le (World.block_lt_of_cell? _ _ hG.1) hV.size)
    have nhP:V.heap.size≠bp:=Nat.ne_of_gt (Nat.lt_of_lt_of_le (hP.lt) hV.size)
    have nhR:V.heap.size≠br:=Nat.ne_of_gt (Nat.lt_of_lt_of_le (hR.lt) hV.size)
    have gn:w.heap.size≤V.heap.size:=Nat.le_trans B.size hV.size
    replace B:=B.trans (hb.mono B.size)
    replace hD:=hD.keep hb;replace hK:=hK.keep hb;replace hE:=hE.keep hb;replace hG:=hG.keep hb;replace hP:=hP.keep hb;replace hR:=hR.keep hb
    clear hb hw hV W
    generalize V.heap.size=bs at *
    clear V
    have gN:=hN.1.all4;have qN:=hN.2.all4
    have ghP:=hP.cells
    have mhD:=nhD.symm
    have mhK:=nhK.symm
    have mhE:=nhE.symm
    have mhG:=nhG.symm
    have mhP:=nhP.symm
    have mhR:=nhR.symm
    simp only [List.drop_succ_cons,List.drop_zero,Act.put,List.setIfInBounds_toArray,List.set_cons_zero,List.set_cons_succ]
    go_wp2_with fail
    refine aa (fun W=>Below w.heap.size w W∧Mds W∧ae W w.heap.size key∧ae W bn non∧ae W bg dig∧Pnt W bp x y i∧Bk9 W br∧ae W bs s) ⟨ak B gn _ _ _ _,hD.set4 nhD _ _ _ _,hK.set4 nhK _ _ _ _,hE.set4 nhE _ _ _ _,hG.set4 nhG _ _ _ _,hP.set4 nhP _ _ _ _,hR.set4 nhR _ _ _ _,ae.sets4 (af.has hN)⟩ ?_
    clear B hN gN qN hD hK hE hG hP hR nhD mhD nhK mhK nhE mhE nhG mhG nhP mhP nhR mhR ghP gn
    rintro W ⟨B,hD,hK,hE,hG,hP,hR,hS⟩
    clear w1
    clear hK hE hG
    with_reducible refine (Z1.out _).mono ?_
    rintro e w2 ⟨rfl,hb⟩
    replace B:=B.trans (hb.mono B.size)
    replace hD:=hD.keep hb;replace hP:=hP.keep hb;replace hR:=hR.keep hb;replace hS:=hS.keep hb
    clear hb W
    have ghS:=hS.cells
    go_wp2_with fail
    refine aa (fun W=>Below w.heap.size w W∧Mds W∧Pnt W bp x y i∧Bk9 W br∧ae W bs s) ⟨B,hD,hP,hR,hS⟩ ?_
    clear B hD hP hR hS ghS
    rintro W ⟨B,hD,hP,hR,hS⟩
    with_reducible refine (Z2.out _).mono ?_
    rintro e w9 ⟨rfl,hb⟩
    replace B:=B.trans (hb.mono B.size)
    replace hD:=hD.keep hb;replace hP:=hP.keep hb;replace hR:=hR.keep hb;replace hS:=hS.keep hb
    clear hb W hD hP hS
    have gR:=hR.cells;have fR:=hR.free
    go_wp2
    simp [bodyPost,results,Tryz.results31,go_sem,gR]
    repeat (first|with_reducible exact B|with_reducible refine Below.setCell ?_ o3 _)
theorem uB {key non dig x y a b v s:Int} {i od:Bool} (C0:Hid (∀ w,Mds w→Calls Tryz.prog 27 #[.agg #[.int .u64 (l0 x),.int .u64 (l1 x),.int .u64 (l2 x),.int .u64 (l3 x)]] w fun e w'=>e = .returned (.bool true)∧Below w.heap.size w w')) (A1:Hid (∀ w,Mds w→Calls Tryz.prog 50 #[.agg #[.int .u64 (l0 x),.int .u64 (l1 x),.int .u64 (l2 x),.int .u64 (l3 x)],.agg #[.int .u64 (l0 key),.int .u64 (l1 key),.int .u64 (l2 key),.int .u64 (l3 key)]] w fun e w'=>e = .returned (.agg #[.int .u64 (l0 a),.int .u64 (l1 a),.int .u64 (l2 a),.int .u64 (l3 a)])∧Below w.heap.size w w')) (A2:Hid (∀ w,Mds w→Calls Tryz.prog 60 #[.agg #[.int .u64 (l0 dig),.int .u64 (l1 dig),.int .u64 (l2 dig),.int .u64 (l3 dig)],.agg #[.int .u64 (l0 a),.int .u64 (l1 a),.int .u64 (l2 a),.int .u64 (l3 a)]] w fun e w'=>e = .returned (.agg #[.int .u64 (l0 b),.int .u64 (l1 b),.int .u64 (l2 b),.int .u64 (l3 b)])∧Below w.heap.size w w')) (A3:Hid (∀ w,Mds w→Calls Tryz.prog 48 #[.agg #[.int .u64 (l0 non),.int .u64 (l1 non),.int .u64 (l2 non),.int .u64 (l3 non)]] w fun e w'=>e = .returned (.agg #[.int .u64 (l0 v),.int .u64 (l1 v),.int .u64 (l2 v),.int .u64 (l3 v)])∧Below w.heap.size w w')) (A4:Hid (∀ w,Mds w→Calls Tryz.prog 50 #[.agg #[.int .u64 (l0 b),.int .u64 (l1 b),.int .u64 (l2 b),.int .u64 (l3 b)],.agg #[.int .u64 (l0 v),.int .u64 (l1 v),.int .u64 (l2 v),.int .u64 (l3 v)]] w fun e w'=>e = .returned (.agg #[.int .u64 (l0 s),.int .u64 (l1 s),.int .u64 (l2 s),.int .u64 (l3 s)])∧Below w.heap.size w w')) (Z1:Hid (∀ w,Calls Tryz.prog 26 #[.agg #[.int .u64 (l0 x),.int .u64 (l1 x),.int .u64 (l2 x),.int .u64 (l3 x)]] w fun e w'=>e = .returned (.bool false)∧Below w.heap.size w w')) (Z2:Hid (∀ w,Calls Tryz.prog 26 #[.agg #[.int .u64 (l0 s),.int .u64 (l1 s),.int .u64 (l2 s),.int .u64 (l3 s)]] w fun e w'=>e = .returned (.bool false)∧Below w.heap.size w w')) (D:Hid (∀ w,Calls Tryz.prog 61 #[.agg #[.int .u64 (l0 y),.int .u64 (l1 y),.int .u64 (l2 y),.int .u64 (l3 y)]] w fun e w'=>e = .returned (.bool od)∧Below w.heap.size w w')) (w:World) (hm:Mds w) :
    Calls Tryz.prog 31 #[.agg #[.int .u64 (l0 key),.int .u64 (l1 key),.int .u64 (l2 key),.int .u64 (l3 key)],.agg #[.int .u64 (l0 non),.int .u64 (l1 non),.int .u64 (l2 non),.int .u64 (l3 non)],.agg #[.int .u64 (l0 dig),.int .u64 (l1 dig),.int .u64 (l2 dig),.int .u64 (l3 dig)],.agg #[.int .u64 (l0 x),.int .u64 (l1 x),.int .u64 (l2 x),.int .u64 (l3 x),.int .u64 (l0 y),.int .u64 (l1 y),.int .u64 (l2 y),.int .u64 (l3 y),.bool i]] w fun e w'=>e = .returned (.tuple #[.agg #[.int .u64 (l0 x),.int .u64 (l1 x),.int .u64 (l2 x),.int .u64 (l3 x),.int .u64 (l0 s),.int .u64 (l1 s),.int .u64 (l2 s),.int .u64 (l3 s),.bool od],.int .i64 0])∧Below w.heap.size w w':=by
  go_enter Tryz.func31,Tryz.ntmps31
  go_wp2_with fail
  refine aa (fun W=>Below w.heap.size w W∧Mds W∧ae W w.heap.size key∧ae W (w.heap.size+1) non∧ae W (w.heap.size+1+1) dig∧Pnt W (w.heap.size+1+1+1) x y i∧Bk9 W (w.heap.size+1+1+1+1)) ⟨by repeat (first|with_reducible exact Below.refl _ _|with_reducible refine Below.alloc ?_ (by first|omega|(simp;done)|(simp;omega)) _),((((hm.alloc _).alloc _).alloc _).alloc _).alloc _,((((ae.new _ _ _).alloc _).alloc _).alloc _).alloc _,(((ae.fresh (by simp)).alloc _).alloc _).alloc _,((ae.fresh (by simp)).alloc _).alloc _,(Pnt.new (by simp)).alloc _,Bk9.new (by simp)⟩ ?_
  rintro W ⟨B,hD,hK,hE,hG,hP,hR⟩
  have o3:w.heap.size≤w.heap.size+1+1+1+1:=by omega
  generalize w.heap.size+1+1+1+1=br at *
  generalize w.heap.size+1+1+1=bp at *
  generalize w.heap.size+1+1=bg at *
  generalize w.heap.size+1=bn at *
  with_reducible refine (C0.out _ hD).mono ?_
  rintro e w1 ⟨rfl,hb⟩
  replace B:=B.trans (hb.mono B.size)
  replace hD:=hD.keep hb;replace hK:=hK.keep hb;replace hE:=hE.keep hb;replace hG:=hG.keep hb;replace hP:=hP.keep hb;replace hR:=hR.keep hb
  clear hb W
  go_wp2_with fail
  refine aj (fun W=>Below w.heap.size w W∧Mds W∧ae W w.heap.size key∧ae W bn non∧ae W bg dig∧Pnt W bp x y i∧Bk9 W br) ⟨B,hD,hK,hE,hG,hP,hR⟩ ?_
  clear B hD hK hE hG hP hR
  rintro W ⟨B,hD,hK,hE,hG,hP,hR⟩
  refine bF (A:=?AA1) 9 (by kernel_rfl) (by kernel_rfl) rfl rfl (aU _ _ _) (fun V hV=>?HH1) (fun V w1 hV hw=>?TT1)
  case HH1 =>
    have hDg:∀ d os,Mds (grow (redrawn V d) os):=fun d os=>(hD.keep hV).keep (below_regrown V d os)
    have ghK:=(hK.keep hV).grown
    have ghE:=(hE.keep hV).grown
    have ghG:=(hG.keep hV).grown
    have ghP:=(hP.keep hV).grown
    unfold Gr
    simp only [List.take_succ_cons,List.take_zero]
    repeat
      first
        | go_big_quiet_skip
        | (go_big_quiet_want;go_big_quiet_op;go_big_quiet_on)
        | (go_big_quiet_want
           go_big_quiet_op
           apply Exists.intro
           refine ⟨fun p=>?_,?_⟩
           · (first|(go_at_call 50;with_reducible exact Calls.regrown_of (A1.out _ (hDg p.d p.os)))|(go_at_call 60;with_reducible exact Calls.regrown_of (A2.out _ (hDg p.d p.os)))|(go_at_call 48;with_reducible exact Calls.regrown_of (A3.out _ (hDg p.d p.os)))|(go_at_call 50;with_reducible exact Calls.regrown_of (A4.out _ (hDg p.d p.os))))
           go_big_quiet_on)
    refine wpQuiet_nil ?_
    exact rfl
  case TT1 =>
    have hb:=au hV hw
    have hN:=(af.new rfl).keep hw
    have nhD:V.heap.size≠1:=Nat.ne_of_gt (Nat.lt_of_lt_of_le (hD.lt) hV.size)
    have nhK:V.heap.size≠w.heap.size:=Nat.ne_of_gt (Nat.lt_of_lt_of_le (World.block_lt_of_cell? _ _ hK.1) hV.size)
    have nhE:V.heap.size≠bn:=Nat.ne_of_gt (Nat.lt_of_lt_of_le (World.block_lt_of_cell? _ _ hE.1) hV.size)
    have nhG:V.heap.size≠bg:=Nat.ne_of_gt (Nat.lt_of_lt_of_le (World.block_lt_of_cell? _ _ hG.1) hV.size)
    have nhP:V.heap.size≠bp:=Nat.ne_of_gt (Nat.lt_of_lt_of_le (hP.lt) hV.size)
    have nhR:V.heap.size≠br:=Nat.ne_of_gt (Nat.lt_of_lt_of_le (hR.lt) hV.size)
    have gn:w.heap.size≤V.heap.size:=Nat.le_trans B.size hV.size
    replace B:=B.trans (hb.mono B.size)
    replace hD:=hD.keep hb;replace hK:=hK.keep hb;replace hE:=hE.keep hb;replace hG:=hG.keep hb;replace hP:=hP.keep hb;replace hR:=hR.keep hb
    clear hb hw hV W
    generalize V.heap.size=bs at *
    clear V
    have gN:=hN.1.all4;have qN:=hN.2.all4
    have ghP:=hP.cells
    have mhD:=nhD.symm
    have mhK:=nhK.symm
    have mhE:=nhE.symm
    have mhG:=nhG.symm
    have mhP:=nhP.symm
    have mhR:=nhR.symm
    simp only [List.drop_succ_cons,List.drop_zero,Act.put,List.setIfInBounds_toArray,List.set_cons_zero,List.set_cons_succ]
    go_wp2_with fail
    refine aa (fun W=>Below w.heap.size w W∧Mds W∧ae W w.heap.size key∧ae W bn non∧ae W bg dig∧Pnt W bp x y i∧Bk9 W br∧ae W bs s) ⟨ak B gn _ _ _ _,hD.set4 nhD _ _ _ _,hK.set4 nhK _ _ _ _,hE.set4 nhE _ _ _ _,hG.set4 nhG _ _ _ _,hP.set4 nhP _ _ _ _,hR.set4 nhR _ _ _ _,ae.sets4 (af.has hN)⟩ ?_
    clear B hN gN qN hD hK hE hG hP hR nhD mhD nhK mhK nhE mhE nhG mhG nhP mhP nhR mhR ghP gn
    rintro W ⟨B,hD,hK,hE,hG,hP,hR,hS⟩
    clear w1
    clear hK hE hG
    with_reducible refine (Z1.out _).mono ?_
    rintro e w2 ⟨rfl,hb⟩
    replace B:=B.trans (hb.mono B.size)
    replace hD:=hD.keep hb;replace hP:=hP.keep hb;replace hR:=hR.keep hb;replace hS:=hS.keep hb
    clear hb W
    have ghS:=hS.cells
    go_wp2_with fail
    refine aa (fun W=>Below w.heap.size w W∧Mds W∧Pnt W bp x y i∧Bk9 W br∧ae W bs s) ⟨B,hD,hP,hR,hS⟩ ?_
    clear B hD hP hR hS ghS
    rintro W ⟨B,hD,hP,hR,hS⟩
    with_reducible refine (Z2.out _).mono ?_
    rintro e w3 ⟨rfl,hb⟩
    replace B:=B.trans (hb.mono B.size)
    replace hD:=hD.keep hb;replace hP:=hP.keep hb;replace hR:=hR.keep hb;replace hS:=hS.keep hb
    clear hb W
    go_wp2_with fail
    refine aj (fun W=>Below w.heap.size w W∧Mds W∧Pnt W bp x y i∧Bk9 W br∧ae W bs s) ⟨B,hD,hP,hR,hS⟩ ?_
    clear B hD hP hR hS
    rintro W ⟨B,hD,hP,hR,hS⟩
    have ghP:=hP.grown
    have ghS:=hS.grown
    have hDg:∀ d os,Mds (grow (redrawn W d) os):=fun d os=>hD.keep (below_regrown W d os)
    refine aT 7 (by kernel_rfl) (by kernel_rfl) ?_
    simp only [List.take_succ_cons,List.take_zero,List.drop_succ_cons,List.drop_zero]
    repeat
      first
        | go_big_quiet_skip
        | (go_big_quiet_want;go_big_quiet_op;go_big_quiet_on)
        | (go_big_quiet_want
           go_big_quiet_op
           apply Exists.intro
           refine ⟨fun p=>?_,?_⟩
           · (first|(go_at_call 61;with_reducible exact Calls.regrown_of (D.out _)))
           go_big_quiet_on)
    refine wpQuiet_nil ?_
    rintro w4 ⟨p,rfl⟩
    have hb:=below_regrown W p.d p.os
    generalize grow (redrawn W p.d) p.os=w4 at *
    replace B:=B.trans (hb.mono B.size)
    replace hD:=hD.keep hb;replace hP:=hP.keep hb;replace hR:=hR.keep hb;replace hS:=hS.keep hb
    clear hb W ghP ghS hDg
    clear hD hP hS
    have gR:=hR.cells;have fR:=hR.free
    go_wp2
    simp [bodyPost,results,Tryz.results31,go_sem,gR]
    repeat (first|with_reducible exact B|with_reducible refine Below.setCell ?_ o3 _)
theorem ng {r s:Int} {od:Bool} (C0:Hid (∀ w,Mds w→Calls Tryz.prog 62 #[.agg #[.int .u64 (l0 s),.int .u64 (l1 s),.int .u64 (l2 s),.int .u64 (l3 s)]] w fun e w'=>e = .returned (.bool true)∧Below w.heap.size w w')) (w:World) (hm:Mds w) :
  Calls Tryz.prog 32 #[.agg #[.int .u64 (l0 r),.int .u64 (l1 r),.int .u64 (l2 r),.int .u64 (l3 r),.int .u64 (l0 s),.int .u64 (l1 s),.int .u64 (l2 s),.int .u64 (l3 s),.bool od]] w fun e w'=>e = .returned (.agg #[.int .u64 (l0 r),.int .u64 (l1 r),.int .u64 (l2 r),.int .u64 (l3 r),.int .u64 (l0 s),.int .u64 (l1 s),.int .u64 (l2 s),.int .u64 (l3 s),.bool od])∧Below w.heap.size w w':=by
 go_enter Tryz.func32,Tryz.ntmps32
 go_wp2_with fail
 refine aa (fun W=>Below w.heap.size w W∧Mds W∧Pnt W w.heap.size r s od∧Bk9 W (w.heap.size+1)) ⟨by repeat (first|with_reducible exact Below.refl _ _|with_reducible refine Below.alloc ?_ (by first|omega|(simp;done)|(simp;omega)) _),(hm.alloc _).alloc _,(Pnt.new rfl).alloc _,Bk9.new (by simp)⟩ ?_
 rintro W ⟨B,hD,hP,hR⟩
 have o3:w.heap.size≤w.heap.size+1:=by omega
 generalize w.heap.size+1=br at *
 with_reducible refine (C0.out _ hD).mono ?_
 rintro e w9 ⟨rfl,hb⟩
 replace B:=B.trans (hb.mono B.size)
 replace hD:=hD.keep hb;replace hP:=hP.keep hb;replace hR:=hR.keep hb
 clear hb W hD
 have gP:=hP.cells
 clear hP
 have gR:=hR.cells;have fR:=hR.free
 go_wp2
 simp [bodyPost,results,Tryz.results32,go_sem,gR]
 repeat (first|with_reducible exact B|with_reducible refine Below.setCell ?_ o3 _)
theorem oD {r s t:Int} {od:Bool} (C0:Hid (∀ w,Mds w→Calls Tryz.prog 62 #[.agg #[.int .u64 (l0 s),.int .u64 (l1 s),.int .u64 (l2 s),.int .u64 (l3 s)]] w fun e w'=>e = .returned (.bool false)∧Below w.heap.size w w')) (C1:Hid (∀ w,Mds w→Calls Tryz.prog 51 #[.agg #[.int .u64 (l0 s),.int .u64 (l1 s),.int .u64 (l2 s),.int .u64 (l3 s)]] w fun e w'=>e = .returned (.agg #[.int .u64 (l0 t),.int .u64 (l1 t),.int .u64 (l2 t),.int .u64 (l3 t)])∧Below w.heap.size w w')) (w:World) (hm:Mds w) :
    Calls Tryz.prog 32 #[.agg #[.int .u64 (l0 r),.int .u64 (l1 r),.int .u64 (l2 r),.int .u64 (l3 r),.int .u64 (l0 s),.int .u64 (l1 s),.int .u64 (l2 s),.int .u64 (l3 s),.bool od]] w fun e w'=>e = .returned (.agg #[.int .u64 (l0 r),.int .u64 (l1 r),.int .u64 (l2 r),.int .u64 (l3 r),.int .u64 (l0 t),.int .u64 (l1 t),.int .u64 (l2 t),.int .u64 (l3 t),.bool (!od)])∧Below w.heap.size w w':=by
  go_enter Tryz.func32,Tryz.ntmps32
  go_wp2_with fail
  refine aa (fun W=>Below w.heap.size w W∧Mds W∧Pnt W w.heap.size r s od∧Bk9 W (w.heap.size+1)) ⟨by repeat (first|with_reducible exact Below.refl _ _|with_reducible refine Below.alloc ?_ (by first|omega|(simp;done)|(simp;omega)) _),(hm.alloc _).alloc _,(Pnt.new rfl).alloc _,Bk9.new (by simp)⟩ ?_
  rintro W ⟨B,hD,hP,hR⟩
  have o3:w.heap.size≤w.heap.size+1:=by omega
  generalize w.heap.size+1=br at *
  with_reducible refine (C0.out _ hD).mono ?_
  rintro e w1 ⟨rfl,hb⟩
  replace B:=B.trans (hb.mono B.size)
  replace hD:=hD.keep hb;replace hP:=hP.keep hb;replace hR:=hR.keep hb
  clear hb W
  go_wp2_with fail
  refine aj (fun W=>Below w.heap.size w W∧Mds W∧Pnt W w.heap.size r s od∧Bk9 W br) ⟨B,hD,hP,hR⟩ ?_
  clear B hD hP hR
  rintro W ⟨B,hD,hP,hR⟩
  have ghP:=hP.grown
  have hDg:∀ d os,Mds (grow (redrawn W d) os):=fun d os=>hD.keep (below_regrown W d os)
  refine aT 9 (by kernel_rfl) (by kernel_rfl) ?_
  simp only [List.take_succ_cons,List.take_zero,List.drop_succ_cons,List.drop_zero]
  repeat
    first
      | go_big_quiet_skip
      | (go_big_quiet_want;go_big_quiet_op;go_big_quiet_on)
      | (go_big_quiet_want
         go_big_quiet_op
         apply Exists.intro
         refine ⟨fun p=>?_,?_⟩
         · (first|(go_at_call 51;with_reducible exact Calls.regrown_of (C1.out _ (hDg p.d p.os))))
         go_big_quiet_on)
  refine wpQuiet_nil ?_
  rintro w2 ⟨p,rfl⟩
  have hb:=below_regrown W p.d p.os
  generalize grow (redrawn W p.d) p.os=w2 at *
  replace B:=B.trans (hb.mono B.size)
  replace hD:=hD.keep hb;replace hP:=hP.keep hb;replace hR:=hR.keep hb
  clear hb W ghP hDg
  clear hD hP
  have gR:=hR.cells;have fR:=hR.free
  go_wp2
  simp [bodyPost,results,Tryz.results32,go_sem,gR]
  repeat (first|with_reducible exact B|with_reducible refine Below.setCell ?_ o3 _)
end Go.Proofs.YtnnnaajgjniiaaaGreatDoor
