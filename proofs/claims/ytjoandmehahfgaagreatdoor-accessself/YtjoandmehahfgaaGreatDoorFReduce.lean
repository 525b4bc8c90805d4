import Derived.Test.YtjoandmehahfgaaGreatDoorAb
import Derived.Test.YtjoandmehahfgaaGreatDoorMul2
import Derived.Test.YtjoandmehahfgaaGreatDoorTail
import Derived.Deep.LoopGhost
import Derived.Deep.RegionHeld3
set_option maxHeartbeats 4000000
namespace Go.Proofs.YtjoandmehahfgaaGreatDoor
open Go.RowKit Go.Sort
theorem qv {m:Int} (hm:Num m) (w:World):(Op.equalIn 10000 24 (U4 m) (.agg #[.int .u64 0,.int .u64 0,.int .u64 0,.int .u64 0])).run Tryz.prog w = .ok (decide (m=0)) w:=by
 have h:=ik (m:=0) hm ⟨by decide,by decide⟩ w
 obtain ⟨z0,z1,z2,z3⟩:=ap
 ((try unfold Rt at h);(try unfold U4 at h);(try unfold P9 at h);rw [z0,z1,z2,z3] at h)
 exact h
def aC (W:World) (b:Nat) (m c:Int):Prop:=Row W b [l0 m,l1 m,l2 m,l3 m,l0 c,l1 c,l2 c,l3 c]
theorem aC.keep {W w1:World} {b:Nat} {m c:Int} (h:aC W b m c) (hb:Below W.heap.size W w1):aC w1 b m c:=Row.keep h hb
theorem aC.alloc {W:World} {b:Nat} {m c:Int} (h:aC W b m c) (o:Obj):aC (W.alloc o) b m c:=Row.alloc h o
theorem aC.drew {W:World} {b:Nat} {m c:Int} (h:aC W b m c):aC W.drew b m c:=h
theorem aC.new (W:World) (m c:Int) (t:TypeId):aC (W.alloc (.cells #[.int .u64 (l0 m),.int .u64 (l1 m),.int .u64 (l2 m),.int .u64 (l3 m),.int .u64 (l0 c),.int .u64 (l1 c),.int .u64 (l2 c),.int .u64 (l3 c)] t)) W.heap.size m c:=Row.fresh8 rfl
theorem aC.set {W:World} {b b' i:Nat} {m c:Int} (h:aC W b m c) (ne:b'≠b) (v:Value):aC (W.setCell ⟨b',i,none⟩ v) b m c:=Row.setOther h ne v
theorem aC.set4 {W:World} {b b':Nat} {m c:Int} (h:aC W b m c) (ne:b'≠b) (v0 v1 v2 v3:Value):aC ((((W.setCell ⟨b',0,none⟩ v0).setCell ⟨b',1,none⟩ v1).setCell ⟨b',2,none⟩ v2).setCell ⟨b',3,none⟩ v3) b m c :=
 (((h.set ne v0).set ne v1).set ne v2).set ne v3
theorem aC.cells {W:World} {b:Nat} {m c:Int} (h:aC W b m c):W.cell? ⟨b,0,none⟩=some (.int .u64 (l0 m))∧W.cell? ⟨b,1,none⟩=some (.int .u64 (l1 m))∧W.cell? ⟨b,2,none⟩=some (.int .u64 (l2 m))∧W.cell? ⟨b,3,none⟩=some (.int .u64 (l3 m))∧W.cell? ⟨b,4,none⟩=some (.int .u64 (l0 c))∧W.cell? ⟨b,5,none⟩=some (.int .u64 (l1 c))∧W.cell? ⟨b,6,none⟩=some (.int .u64 (l2 c))∧W.cell? ⟨b,7,none⟩=some (.int .u64 (l3 c)):=Row.all8 h
theorem aC.grown {W:World} {b:Nat} {m c:Int} (h:aC W b m c):∀ d os,(grow (redrawn W d) os).cell? ⟨b,0,none⟩=some (.int .u64 (l0 m))∧(grow (redrawn W d) os).cell? ⟨b,1,none⟩=some (.int .u64 (l1 m))∧(grow (redrawn W d) os).cell? ⟨b,2,none⟩=some (.int .u64 (l2 m))∧(grow (redrawn W d) os).cell? ⟨b,3,none⟩=some (.int .u64 (l3 m))∧(grow (redrawn W d) os).cell? ⟨b,4,none⟩=some (.int .u64 (l0 c))∧(grow (redrawn W d) os).cell? ⟨b,5,none⟩=some (.int .u64 (l1 c))∧(grow (redrawn W d) os).cell? ⟨b,6,none⟩=some (.int .u64 (l2 c))∧(grow (redrawn W d) os).cell? ⟨b,7,none⟩=some (.int .u64 (l3 c)) :=
 fun d os=>(h.keep (below_regrown W d os)).cells
theorem aC.lt {W:World} {b:Nat} {m c:Int} (h:aC W b m c):b<W.heap.size:=Row.lt h (by simp)
theorem l8 {m c h l:Int} (hf:Fit m c) (hh:Num h) (hl:Num l) (w:World) :
  Rt 125 #[.agg #[.int .u64 (l0 m),.int .u64 (l1 m),.int .u64 (l2 m),.int .u64 (l3 m),.int .u64 (l0 c),.int .u64 (l1 c),.int .u64 (l2 c),.int .u64 (l3 c)],U4 h,U4 l] w (U4 (ab m (b8 h l))):=by
 go_enter Tryz.func125,Tryz.ntmps125
 go_wp2_with fail
 refine ah (fun W=>Below w.heap.size w W∧aC W w.heap.size m c∧Var W (w.heap.size+1) h∧Var W (w.heap.size+1+1) l∧af W (w.heap.size+1+1+1)) ⟨by repeat (first|with_reducible exact Below.refl _ _|with_reducible refine Below.alloc ?_ (by first|omega|(simp;done)|(simp;omega)) _),(((aC.new w m c _).alloc _).alloc _).alloc _,((Var.new (by simp)).alloc _).alloc _,(Var.new (by simp)).alloc _,af.new (by simp)⟩ ?_
 rintro W ⟨B,hF,hH,hL,hR⟩
 have o1:w.heap.size≤w.heap.size+1:=by omega
 have o2:w.heap.size≤w.heap.size+1+1:=by omega
 have o3:w.heap.size≤w.heap.size+1+1+1:=by omega
 have n1:w.heap.size+1≠w.heap.size:=by omega
 have n2:w.heap.size+1+1≠w.heap.size:=by omega
 have n3:w.heap.size+1+1≠w.heap.size+1:=by omega
 have n4:w.heap.size+1+1+1≠w.heap.size+1:=by omega
 have n5:w.heap.size+1+1+1≠w.heap.size+1+1:=by omega
 generalize w.heap.size+1+1+1=br at *
 generalize w.heap.size+1+1=bl at *
 generalize w.heap.size+1=bh at *
 go_loopg [] (b8 h l).toNat (fun g wr=>∃ H L:Int,g=(b8 H L).toNat∧Num H∧Num L∧b8 H L%m=b8 h l%m∧Below w.heap.size w wr∧aC wr w.heap.size m c∧Var wr bh H∧Var wr bl L∧af wr br)
 case atStart=>exact ⟨h,l,rfl,hh,hl,rfl,B,hF,hH,hL,hR⟩
 case round =>
  clear B hF hH hL hR W
  obtain ⟨H,L,hg,nH,nL,he,B,hF,hH,hL,hR⟩:=hrel
  have E:Hid (gk=(b8 H L).toNat∧b8 H L%m=b8 h l%m):=⟨hg,he⟩
  clear hg he
  have hq:=qv nH
  have bz:=bR
  have gH:=hH.1.cells;have gL:=hL.1.cells;have gF:=hF.cells
  by_cases hz:H=0
  ·simp only [hz,decide_true] at hq
   subst hz
   have e2:ab m (b8 h l)=ab m L:=by
    have:=E.out.2;rw [uM] at this;unfold ab;rw [this]
   have O:=dP hf nL
   rw [←e2] at O
   have O':Hid (∀ w,Rt 81 #[.agg #[.int .u64 (l0 m),.int .u64 (l1 m),.int .u64 (l2 m),.int .u64 (l3 m),.int .u64 (l0 c),.int .u64 (l1 c),.int .u64 (l2 c),.int .u64 (l3 c)],U4 L] w (U4 (ab m (b8 h l)))):=O
   clear O e2
   go_wp2_with fail
   with_reducible refine (O'.out _).mono ?_
   rintro e w1 ⟨rfl,hb⟩
   replace B:=B.trans (hb.mono B.size)
   replace hR:=hR.keep hb
   clear hb gH gL gF hF hH hL
   have gR:=hR.1.all4;have fR:=hR.2.all4
   go_wp2
   simp [bodyPost,results,Tryz.results125,go_sem,gR]
   exact ak B o3 _ _ _ _
  ·have hzd:decide (H=0)=false:=by simp [hz]
   rw [hzd] at hq
   obtain ⟨st1,st2⟩:=uL (l:=L) hf nH hz
   have nn:=lU (mL hf nH nL).1 (oI H L c)
   have nl:=lU nH nL
   have E2:Hid ((b8 (dN H L c) (dn H L c)).toNat<gk∧Num (dN H L c)∧Num (dn H L c)∧b8 (dN H L c) (dn H L c)%m=b8 h l%m) :=
    ⟨by have:=E.out.1;omega,(mL hf nH nL).1,oI H L c,st1.trans E.out.2⟩
   have D:Hid (∀ w,Rt 133 #[U4 H,U4 L,U4 c] w (.tuple #[U4 (dN H L c),U4 (dn H L c)])):=uQ hf nH nL
   clear st1 st2 nn nl E hz hzd
   generalize dN H L c=H' at *
   generalize dn H L c=L' at *
   go_wp2_with fail
   with_reducible refine (D.out _).mono ?_
   rintro e w1 ⟨rfl,hb⟩
   replace B:=B.trans (hb.mono B.size)
   replace hR:=hR.keep hb;replace hF:=hF.keep hb;replace hH:=hH.keep hb;replace hL:=hL.keep hb
   clear hb gH gL gF hq bz
   have gH:=hH.1.cells;have gL:=hL.1.cells
   have fH:=hH.2.all4;have fL:=hL.2.all4
   have n3':=n3.symm
   go_wp2
   go_roundg (b8 H' L').toNat
   case measure=>exact E2.out.1
   case rel=>exact ⟨H',L',rfl,E2.out.2.1,E2.out.2.2.1,E2.out.2.2.2,ak (ak B o1 _ _ _ _) o2 _ _ _ _,(hF.set4 n1 _ _ _ _).set4 n2 _ _ _ _,(hH.sets _).set4 n3 _ _ _ _,(hL.set4 n3' _ _ _ _).sets _,(hR.set4 n4.symm _ _ _ _).set4 n5.symm _ _ _ _⟩
open Go.RowKit Go.Sort
theorem j8 {m c x y:Int} (hf:Fit m c) (hx:Num x) (hy:Num y) (w:World) :
    Rt 97 #[.agg #[.int .u64 (l0 m),.int .u64 (l1 m),.int .u64 (l2 m),.int .u64 (l3 m),.int .u64 (l0 c),.int .u64 (l1 c),.int .u64 (l2 c),.int .u64 (l3 c)],U4 x,U4 y] w (U4 (ab m (x*y))):=by
  have M1:Hid (∀ w,Rt 126 #[U4 x,U4 y] w (.tuple #[U4 (hiN x y),U4 (loN x y)])):=tQ hx hy
  have R1:Hid (∀ w,Rt 125 #[.agg #[.int .u64 (l0 m),.int .u64 (l1 m),.int .u64 (l2 m),.int .u64 (l3 m),.int .u64 (l0 c),.int .u64 (l1 c),.int .u64 (l2 c),.int .u64 (l3 c)],U4 (hiN x y),U4 (loN x y)] w (U4 (ab m (x*y)))):=fun w=>by
    have:=l8 hf (tO hx hy) (tN x y) w;rw [wW] at this;exact this
  generalize ab m (x*y)=R at *
  generalize hiN x y=H at *
  generalize loN x y=L at *
  go_enter Tryz.func97,Tryz.ntmps97
  go_wp2_with fail
  refine ah (fun W=>Below w.heap.size w W∧aC W w.heap.size m c∧ae W (w.heap.size+1) x∧ae W (w.heap.size+1+1) y∧af W (w.heap.size+1+1+1)) ⟨by repeat (first|with_reducible exact Below.refl _ _|with_reducible refine Below.alloc ?_ (by first|omega|(simp;done)|(simp;omega)) _),(((aC.new w m c _).alloc _).alloc _).alloc _,((ae.fresh (by simp)).alloc _).alloc _,(ae.fresh (by simp)).alloc _,af.new (by simp)⟩ ?_
  rintro W ⟨B,hF,hX,hY,hR⟩
  have o3:w.heap.size≤w.heap.size+1+1+1:=by omega
  generalize w.heap.size+1+1+1=br at *
  generalize w.heap.size+1+1=by' at *
  generalize w.heap.size+1=bx at *
  have gF:=hF.grown;have gX:=hX.grown;have gY:=hY.grown
  refine bj 7 (by kernel_rfl) (by kernel_rfl) ?_
  simp only [List.take_succ_cons,List.take_zero,List.drop_succ_cons,List.drop_zero]
  repeat
    first
      | go_big_quiet_skip
      | (go_big_quiet_want;go_big_quiet_op;go_big_quiet_on)
      | (go_big_quiet_want
         go_big_quiet_op
         apply Exists.intro
         refine ⟨fun p=>?_,?_⟩
         · (first|(go_at_call 126;with_reducible exact Calls.regrown_of (M1.out _))|(go_at_call 125;with_reducible exact Calls.regrown_of (R1.out _)))
         go_big_quiet_on)
  refine wpQuiet_nil ?_
  rintro w1 ⟨p,rfl⟩
  have hb:=below_regrown W p.d p.os
  generalize grow (redrawn W p.d) p.os=w1 at *
  replace B:=B.trans (hb.mono B.size)
  replace hR:=hR.keep hb
  clear hb hF hX hY gF gX gY W
  have gR:=hR.1.all4;have fR:=hR.2.all4
  go_wp2
  simp [bodyPost,results,Tryz.results97,go_sem,gR]
  exact ak B o3 _ _ _ _
open Go.RowKit Go.Sort
theorem xq {m c x y:Int} (hf:Fit m c) :
  (fm (ab m x) (ab m y)=0∧ab m (x+y)=ab m (fM (ab m x) (ab m y)))∨(fm (ab m x) (ab m y)=1∧ab m (x+y)=fN (fM (ab m x) (ab m y)) m):=by
 obtain ⟨a0,a1⟩:=dl hf x
 obtain ⟨b0,b1⟩:=dl hf y
 obtain ⟨h1,h2,h3⟩:=hf
 have e:ab m (x+y)=(ab m x+ab m y)%m:=by unfold ab;rw [←Int.add_emod]
 rw [e]
 generalize ab m x=a at *
 generalize ab m y=b at *
 by_cases h:a+b<115792089237316195423570985008687907853269984665640564039457584007913129639936
 ·left
  have es:fM a b=a+b:=by unfold fM;omega
  refine ⟨by unfold fm;omega,?_⟩
  rw [es];rfl
 ·right
  refine ⟨by unfold fm;omega,?_⟩
  have e2:(a+b)%m=a+b-m:=by
   rw [show a+b=a+b-m+m*1 by omega,Int.add_mul_emod_self_left]
   rw [Int.emod_eq_of_lt (by omega) (by omega)];omega
  rw [e2];unfold fN fM;omega
theorem xr {m c x y:Int} (hf:Fit m c) :
  (fW (ab m x) (ab m y)=0∧ab m (x-y)=fN (ab m x) (ab m y))∨(fW (ab m x) (ab m y)=1∧ab m (x-y)=fM (fN (ab m x) (ab m y)) m):=by
 obtain ⟨a0,a1⟩:=dl hf x
 obtain ⟨b0,b1⟩:=dl hf y
 obtain ⟨h1,h2,h3⟩:=hf
 have e:ab m (x-y)=(ab m x-ab m y)%m:=by unfold ab;rw [←Int.sub_emod]
 rw [e]
 generalize ab m x=a at *
 generalize ab m y=b at *
 by_cases h:b≤a
 ·left
  refine ⟨by unfold fW;rw [if_neg (by omega)],?_⟩
  rw [Int.emod_eq_of_lt (by omega) (by omega)];unfold fN;omega
 ·right
  refine ⟨by unfold fW;rw [if_pos (by omega)],?_⟩
  have e2:(a-b)%m=a-b+m:=by
   rw [show a-b=a-b+m+m*(-1) by omega,Int.add_mul_emod_self_left]
   rw [Int.emod_eq_of_lt (by omega) (by omega)];omega
  rw [e2];unfold fN fM;omega
theorem uT {m c x y a b s r k z:Int} (K1:Hid (∀ w,Rt 81 #[.agg #[.int .u64 (l0 m),.int .u64 (l1 m),.int .u64 (l2 m),.int .u64 (l3 m),.int .u64 (l0 c),.int .u64 (l1 c),.int .u64 (l2 c),.int .u64 (l3 c)],U4 x] w (U4 a))) (K2:Hid (∀ w,Rt 81 #[.agg #[.int .u64 (l0 m),.int .u64 (l1 m),.int .u64 (l2 m),.int .u64 (l3 m),.int .u64 (l0 c),.int .u64 (l1 c),.int .u64 (l2 c),.int .u64 (l3 c)],U4 y] w (U4 b))) (K3:Hid (∀ w,Rt 95 #[U4 a,U4 b] w (.tuple #[U4 s,.int .u64 k]))) (K4:Hid ((k=0∧Hid (∀ w,Rt 81 #[.agg #[.int .u64 (l0 m),.int .u64 (l1 m),.int .u64 (l2 m),.int .u64 (l3 m),.int .u64 (l0 c),.int .u64 (l1 c),.int .u64 (l2 c),.int .u64 (l3 c)],U4 s] w (U4 r)))∨(k=1∧Hid (∀ w,Rt 102 #[U4 s,U4 m] w (.tuple #[U4 r,.int .u64 z]))))) (w:World) :
  Rt 129 #[.agg #[.int .u64 (l0 m),.int .u64 (l1 m),.int .u64 (l2 m),.int .u64 (l3 m),.int .u64 (l0 c),.int .u64 (l1 c),.int .u64 (l2 c),.int .u64 (l3 c)],U4 x,U4 y] w (U4 r):=by
 go_enter Tryz.func129,Tryz.ntmps129
 go_wp2_with fail
 refine ah (fun W=>Below w.heap.size w W∧aC W w.heap.size m c∧ae W (w.heap.size+1) x∧ae W (w.heap.size+1+1) y∧af W (w.heap.size+1+1+1)) ⟨by repeat (first|with_reducible exact Below.refl _ _|with_reducible refine Below.alloc ?_ (by first|omega|(simp;done)|(simp;omega)) _),(((aC.new w m c _).alloc _).alloc _).alloc _,((ae.fresh (by simp)).alloc _).alloc _,(ae.fresh (by simp)).alloc _,af.new (by simp)⟩ ?_
 rintro W ⟨B,hF,hX,hY,hR⟩
 have o3:w.heap.size≤w.heap.size+1+1+1:=by omega
 generalize w.heap.size+1+1+1=br at *
 generalize w.heap.size+1+1=bw at *
 generalize w.heap.size+1=bx at *
 generalize hbf:w.heap.size=bf at *
 have gF:=hF.cells;have gX:=hX.cells;have gY:=hY.cells
 have lf:bf<W.heap.size:=hF.lt
 have lx:bx<W.heap.size:=World.block_lt_of_cell? W _ hX.1
 have ly:bw<W.heap.size:=World.block_lt_of_cell? W _ hY.1
 have lr:br<W.heap.size:=hR.1.lt (by simp)
 have BB:Hid (Below bf w W):=B
 have HF:Hid (aC W bf m c):=hF
 have HR:Hid (af W br):=hR
 have geB:bf≤W.heap.size:=by omega
 clear B hF hX hY hR
 refine rZ (fun a' W'=>∃ bs,Below bf w W'∧aC W' bf m c∧af W' br∧ae W' bs s∧a'={ tmps:=#[.agg #[.int .u64 (l0 m),.int .u64 (l1 m),.int .u64 (l2 m),.int .u64 (l3 m),.int .u64 (l0 c),.int .u64 (l1 c),.int .u64 (l2 c),.int .u64 (l3 c)],U4 x,U4 y,.pointer (some { block:=bf,off:=0 }),.pointer (some { block:=bx,off:=0 }),.pointer (some { block:=bw,off:=0 }),.pointer (some { block:=br,off:=0 }),.pointer (some { block:=bs,off:=0 }),.int .u64 k,Go.undef,Go.undef,.tuple #[U4 s,.int .u64 k],.agg #[.int .u64 (l0 m),.int .u64 (l1 m),.int .u64 (l2 m),.int .u64 (l3 m),.int .u64 (l0 c),.int .u64 (l1 c),.int .u64 (l2 c),.int .u64 (l3 c)],U4 x,U4 a,.agg #[.int .u64 (l0 m),.int .u64 (l1 m),.int .u64 (l2 m),.int .u64 (l3 m),.int .u64 (l0 c),.int .u64 (l1 c),.int .u64 (l2 c),.int .u64 (l3 c)],U4 y,U4 b,.tuple #[U4 s,.int .u64 k],U4 s,.int .u64 k,Go.undef,Go.undef,Go.undef,Go.undef,Go.undef,Go.undef,Go.undef,Go.undef,Go.undef,Go.undef,Go.undef,Go.undef,Go.undef],defers:=[] }) ?_ ?_
 ·have dz:W.drew.heap.size=W.heap.size:=rfl
  clear K4
  have _:bf<W.heap.size:=by omega
  have _:bf≤W.heap.size:=by omega
  have _:bf<W.heap.size+1:=by omega
  have _:bf<W.heap.size+1+1:=by omega
  have _:bf≠W.heap.size:=by omega
  have _:W.heap.size≠bf:=by omega
  have _:bf≠W.heap.size+1:=by omega
  have _:W.heap.size+1≠bf:=by omega
  have _:bx<W.heap.size:=by omega
  have _:bx≤W.heap.size:=by omega
  have _:bx<W.heap.size+1:=by omega
  have _:bx<W.heap.size+1+1:=by omega
  have _:bx≠W.heap.size:=by omega
  have _:W.heap.size≠bx:=by omega
  have _:bx≠W.heap.size+1:=by omega
  have _:W.heap.size+1≠bx:=by omega
  have _:bw<W.heap.size:=by omega
  have _:bw≤W.heap.size:=by omega
  have _:bw<W.heap.size+1:=by omega
  have _:bw<W.heap.size+1+1:=by omega
  have _:bw≠W.heap.size:=by omega
  have _:W.heap.size≠bw:=by omega
  have _:bw≠W.heap.size+1:=by omega
  have _:W.heap.size+1≠bw:=by omega
  have _:br<W.heap.size:=by omega
  have _:br≤W.heap.size:=by omega
  have _:br<W.heap.size+1:=by omega
  have _:br<W.heap.size+1+1:=by omega
  have _:br≠W.heap.size:=by omega
  have _:W.heap.size≠br:=by omega
  have _:br≠W.heap.size+1:=by omega
  have _:W.heap.size+1≠br:=by omega
  go_region_held3 (fun w'=>w'.cell? ⟨bf,0,none⟩=some (.int .u64 (l0 m))∧w'.cell? ⟨bf,1,none⟩=some (.int .u64 (l1 m))∧w'.cell? ⟨bf,2,none⟩=some (.int .u64 (l2 m))∧w'.cell? ⟨bf,3,none⟩=some (.int .u64 (l3 m))∧w'.cell? ⟨bf,4,none⟩=some (.int .u64 (l0 c))∧w'.cell? ⟨bf,5,none⟩=some (.int .u64 (l1 c))∧w'.cell? ⟨bf,6,none⟩=some (.int .u64 (l2 c))∧w'.cell? ⟨bf,7,none⟩=some (.int .u64 (l3 c))∧w'.cell? ⟨bx,0,none⟩=some (.int .u64 (l0 x))∧w'.cell? ⟨bx,1,none⟩=some (.int .u64 (l1 x))∧w'.cell? ⟨bx,2,none⟩=some (.int .u64 (l2 x))∧w'.cell? ⟨bx,3,none⟩=some (.int .u64 (l3 x))∧w'.cell? ⟨bw,0,none⟩=some (.int .u64 (l0 y))∧w'.cell? ⟨bw,1,none⟩=some (.int .u64 (l1 y))∧w'.cell? ⟨bw,2,none⟩=some (.int .u64 (l2 y))∧w'.cell? ⟨bw,3,none⟩=some (.int .u64 (l3 y))) (((try dsimp only);(repeat' (apply And.intro));(all_goals repeat (first|with_reducible assumption|with_reducible apply cell_keep hb3|with_reducible apply cell_keep hb2|with_reducible apply cell_keep hb1|with_reducible apply cell_alloc|(with_reducible refine cell_set ?_ (by with_reducible assumption))|(simp [go_sem, *];done)))))
   (first
    | (go_at_call 81;with_reducible refine (K1.out _).mono ?_;rintro e w1 ⟨rfl,hb1⟩;have hc1:=al hb1;have hz1:=hb1.size;(try simp at hz1);(try (have:=fun j=>al hb1 (W.heap.size) j (by first|omega|(simp;done)|(simp;omega))));(try (have:=fun j=>al hb1 (W.heap.size+1) j (by first|omega|(simp;done)|(simp;omega))));have _:bf<w1.heap.size:=(by omega);have _:bf≤w1.heap.size:=(by omega);have _:bf<w1.heap.size+1:=(by omega);have _:bf<w1.heap.size+1+1:=(by omega);have _:bf≠w1.heap.size:=(by omega);have _:w1.heap.size≠bf:=(by omega);have _:bf≠w1.heap.size+1:=(by omega);have _:w1.heap.size+1≠bf:=(by omega);have _:bx<w1.heap.size:=(by omega);have _:bx≤w1.heap.size:=(by omega);have _:bx<w1.heap.size+1:=(by omega);have _:bx<w1.heap.size+1+1:=(by omega);have _:bx≠w1.heap.size:=(by omega);have _:w1.heap.size≠bx:=(by omega);have _:bx≠w1.heap.size+1:=(by omega);have _:w1.heap.size+1≠bx:=(by omega);have _:bw<w1.heap.size:=(by omega);have _:bw≤w1.heap.size:=(by omega);have _:bw<w1.heap.size+1:=(by omega);have _:bw<w1.heap.size+1+1:=(by omega);have _:bw≠w1.heap.size:=(by omega);have _:w1.heap.size≠bw:=(by omega);have _:bw≠w1.heap.size+1:=(by omega);have _:w1.heap.size+1≠bw:=(by omega);have _:br<w1.heap.size:=(by omega);have _:br≤w1.heap.size:=(by omega);have _:br<w1.heap.size+1:=(by omega);have _:br<w1.heap.size+1+1:=(by omega);have _:br≠w1.heap.size:=(by omega);have _:w1.heap.size≠br:=(by omega);have _:br≠w1.heap.size+1:=(by omega);have _:w1.heap.size+1≠br:=(by omega);(try (have _:W.heap.size<w1.heap.size:=(by omega)));(try (have _:W.heap.size≤w1.heap.size:=(by omega)));(try (have _:W.heap.size≠w1.heap.size:=(by omega)));(try (have _:w1.heap.size≠W.heap.size:=(by omega)));(try (have _:W.heap.size<w1.heap.size+1:=(by omega)));(try (have _:W.heap.size+1<w1.heap.size:=(by omega)));(try (have _:W.heap.size+1≤w1.heap.size:=(by omega)));(try (have _:W.heap.size+1≠w1.heap.size:=(by omega)));(try (have _:w1.heap.size≠W.heap.size+1:=(by omega)));(try (have _:W.heap.size+1<w1.heap.size+1:=(by omega))))
    | (go_at_call 81;with_reducible refine (K2.out _).mono ?_;rintro e w2 ⟨rfl,hb2⟩;have hc2:=al hb2;have hz2:=hb2.size;(try simp at hz2);(try (have:=fun j=>al hb2 (W.heap.size) j (by first|omega|(simp;done)|(simp;omega))));(try (have:=fun j=>al hb2 (W.heap.size+1) j (by first|omega|(simp;done)|(simp;omega))));(try (have:=fun j=>al hb2 (w1.heap.size) j (by first|omega|(simp;done)|(simp;omega))));(try (have:=fun j=>al hb2 (w1.heap.size+1) j (by first|omega|(simp;done)|(simp;omega))));have _:bf<w2.heap.size:=(by omega);have _:bf≤w2.heap.size:=(by omega);have _:bf<w2.heap.size+1:=(by omega);have _:bf<w2.heap.size+1+1:=(by omega);have _:bf≠w2.heap.size:=(by omega);have _:w2.heap.size≠bf:=(by omega);have _:bf≠w2.heap.size+1:=(by omega);have _:w2.heap.size+1≠bf:=(by omega);have _:bx<w2.heap.size:=(by omega);have _:bx≤w2.heap.size:=(by omega);have _:bx<w2.heap.size+1:=(by omega);have _:bx<w2.heap.size+1+1:=(by omega);have _:bx≠w2.heap.size:=(by omega);have _:w2.heap.size≠bx:=(by omega);have _:bx≠w2.heap.size+1:=(by omega);have _:w2.heap.size+1≠bx:=(by omega);have _:bw<w2.heap.size:=(by omega);have _:bw≤w2.heap.size:=(by omega);have _:bw<w2.heap.size+1:=(by omega);have _:bw<w2.heap.size+1+1:=(by omega);have _:bw≠w2.heap.size:=(by omega);have _:w2.heap.size≠bw:=(by omega);have _:bw≠w2.heap.size+1:=(by omega);have _:w2.heap.size+1≠bw:=(by omega);have _:br<w2.heap.size:=(by omega);have _:br≤w2.heap.size:=(by omega);have _:br<w2.heap.size+1:=(by omega);have _:br<w2.heap.size+1+1:=(by omega);have _:br≠w2.heap.size:=(by omega);have _:w2.heap.size≠br:=(by omega);have _:br≠w2.heap.size+1:=(by omega);have _:w2.heap.size+1≠br:=(by omega);(try (have _:W.heap.size<w2.heap.size:=(by omega)));(try (have _:W.heap.size≤w2.heap.size:=(by omega)));(try (have _:W.heap.size≠w2.heap.size:=(by omega)));(try (have _:w2.heap.size≠W.heap.size:=(by omega)));(try (have _:W.heap.size<w2.heap.size+1:=(by omega)));(try (have _:W.heap.size+1<w2.heap.size:=(by omega)));(try (have _:W.heap.size+1≤w2.heap.size:=(by omega)));(try (have _:W.heap.size+1≠w2.heap.size:=(by omega)));(try (have _:w2.heap.size≠W.heap.size+1:=(by omega)));(try (have _:W.heap.size+1<w2.heap.size+1:=(by omega)));(try (have _:w1.heap.size<w2.heap.size:=(by omega)));(try (have _:w1.heap.size≤w2.heap.size:=(by omega)));(try (have _:w1.heap.size≠w2.heap.size:=(by omega)));(try (have _:w2.heap.size≠w1.heap.size:=(by omega)));(try (have _:w1.heap.size<w2.heap.size+1:=(by omega)));(try (have _:w1.heap.size+1<w2.heap.size:=(by omega)));(try (have _:w1.heap.size+1≤w2.heap.size:=(by omega)));(try (have _:w1.heap.size+1≠w2.heap.size:=(by omega)));(try (have _:w2.heap.size≠w1.heap.size+1:=(by omega)));(try (have _:w1.heap.size+1<w2.heap.size+1:=(by omega))))
    | (go_at_call 95;with_reducible refine (K3.out _).mono ?_;rintro e w3 ⟨rfl,hb3⟩;have hc3:=al hb3;have hz3:=hb3.size;(try simp at hz3);(try (have:=fun j=>al hb3 (W.heap.size) j (by first|omega|(simp;done)|(simp;omega))));(try (have:=fun j=>al hb3 (W.heap.size+1) j (by first|omega|(simp;done)|(simp;omega))));(try (have:=fun j=>al hb3 (w1.heap.size) j (by first|omega|(simp;done)|(simp;omega))));(try (have:=fun j=>al hb3 (w1.heap.size+1) j (by first|omega|(simp;done)|(simp;omega))));(try (have:=fun j=>al hb3 (w2.heap.size) j (by first|omega|(simp;done)|(simp;omega))));(try (have:=fun j=>al hb3 (w2.heap.size+1) j (by first|omega|(simp;done)|(simp;omega))));have _:bf<w3.heap.size:=(by omega);have _:bf≤w3.heap.size:=(by omega);have _:bf<w3.heap.size+1:=(by omega);have _:bf<w3.heap.size+1+1:=(by omega);have _:bf≠w3.heap.size:=(by omega);have _:w3.heap.size≠bf:=(by omega);have _:bf≠w3.heap.size+1:=(by omega);have _:w3.heap.size+1≠bf:=(by omega);have _:bx<w3.heap.size:=(by omega);have _:bx≤w3.heap.size:=(by omega);have _:bx<w3.heap.size+1:=(by omega);have _:bx<w3.heap.size+1+1:=(by omega);have _:bx≠w3.heap.size:=(by omega);have _:w3.heap.size≠bx:=(by omega);have _:bx≠w3.heap.size+1:=(by omega);have _:w3.heap.size+1≠bx:=(by omega);have _:bw<w3.heap.size:=(by omega);have _:bw≤w3.heap.size:=(by omega);have _:bw<w3.heap.size+1:=(by omega);have _:bw<w3.heap.size+1+1:=(by omega);have _:bw≠w3.heap.size:=(by omega);have _:w3.heap.size≠bw:=(by omega);have _:bw≠w3.heap.size+1:=(by omega);have _:w3.heap.size+1≠bw:=(by omega);have _:br<w3.heap.size:=(by omega);have _:br≤w3.heap.size:=(by omega);have _:br<w3.heap.size+1:=(by omega);have _:br<w3.heap.size+1+1:=(by omega);have _:br≠w3.heap.size:=(by omega);have _:w3.heap.size≠br:=(by omega);have _:br≠w3.heap.size+1:=(by omega);have _:w3.heap.size+1≠br:=(by omega);(try (have _:W.heap.size<w3.heap.size:=(by omega)));(try (have _:W.heap.size≤w3.heap.size:=(by omega)));(try (have _:W.heap.size≠w3.heap.size:=(by omega)));(try (have _:w3.heap.size≠W.heap.size:=(by omega)));(try (have _:W.heap.size<w3.heap.size+1:=(by omega)));(try (have _:W.heap.size+1<w3.heap.size:=(by omega)));(try (have _:W.heap.size+1≤w3.heap.size:=(by omega)));(try (have _:W.heap.size+1≠w3.heap.size:=(by omega)));(try (have _:w3.heap.size≠W.heap.size+1:=(by omega)));(try (have _:W.heap.size+1<w3.heap.size+1:=(by omega)));(try (have _:w1.heap.size<w3.heap.size:=(by omega)));(try (have _:w1.heap.size≤w3.heap.size:=(by omega)));(try (have _:w1.heap.size≠w3.heap.size:=(by omega)));(try (have _:w3.heap.size≠w1.heap.size:=(by omega)));(try (have _:w1.heap.size<w3.heap.size+1:=(by omega)));(try (have _:w1.heap.size+1<w3.heap.size:=(by omega)));(try (have _:w1.heap.size+1≤w3.heap.size:=(by omega)));(try (have _:w1.heap.size+1≠w3.heap.size:=(by omega)));(try (have _:w3.heap.size≠w1.heap.size+1:=(by omega)));(try (have _:w1.heap.size+1<w3.heap.size+1:=(by omega)));(try (have _:w2.heap.size<w3.heap.size:=(by omega)));(try (have _:w2.heap.size≤w3.heap.size:=(by omega)));(try (have _:w2.heap.size≠w3.heap.size:=(by omega)));(try (have _:w3.heap.size≠w2.heap.size:=(by omega)));(try (have _:w2.heap.size<w3.heap.size+1:=(by omega)));(try (have _:w2.heap.size+1<w3.heap.size:=(by omega)));(try (have _:w2.heap.size+1≤w3.heap.size:=(by omega)));(try (have _:w2.heap.size+1≠w3.heap.size:=(by omega)));(try (have _:w3.heap.size≠w2.heap.size+1:=(by omega)));(try (have _:w2.heap.size+1<w3.heap.size+1:=(by omega)))))
  all_goals (refine uP.intro ⟨_,?_,?_,?_,?_,rfl⟩)
  all_goals repeat (first|with_reducible exact BB.out|with_reducible exact HF.out|with_reducible exact HR.out|with_reducible refine ae.fresh (by first|rfl|(simp;done)|fail)|with_reducible refine ae.sets4 ?_|with_reducible refine ae.alloc ?_ _|with_reducible refine ae.drew ?_|with_reducible refine aC.alloc ?_ _|with_reducible refine aC.drew ?_|with_reducible refine aC.set4 ?_ (by with_reducible assumption) _ _ _ _|with_reducible refine af.alloc ?_ _|with_reducible refine af.drew ?_|with_reducible refine af.set4 ?_ (by with_reducible assumption) _ _ _ _|with_reducible refine ip hbf ?_ _|with_reducible refine Below.drew ?_|with_reducible refine Below.setCell ?_ (by with_reducible assumption) _|with_reducible refine Has.fresh (by first|rfl|(simp;done)|fail) (by first|(simp;done)|fail)|with_reducible refine Has.alloc ?_ _|with_reducible refine Has.drew ?_|with_reducible refine Has.keep ?_ hb3|with_reducible refine ae.keep ?_ hb3|with_reducible refine aC.keep ?_ hb3|with_reducible refine af.keep ?_ hb3|with_reducible refine cJ hbf ?_ hb3|with_reducible refine Has.keep ?_ hb2|with_reducible refine ae.keep ?_ hb2|with_reducible refine aC.keep ?_ hb2|with_reducible refine af.keep ?_ hb2|with_reducible refine cJ hbf ?_ hb2|with_reducible refine Has.keep ?_ hb1|with_reducible refine ae.keep ?_ hb1|with_reducible refine aC.keep ?_ hb1|with_reducible refine af.keep ?_ hb1|with_reducible refine cJ hbf ?_ hb1)
 rintro _ W1 ⟨bs,B,hF,hR,hS,rfl⟩
 subst hbf
 clear BB HF HR gF gX gY lf lx ly lr geB K1 K2 K3 W
 have gF:=hF.cells;have gS:=hS.cells
 rcases K4.out with ⟨rfl,K5⟩|⟨rfl,K5⟩
 ·go_wp2_with fail
  with_reducible refine (K5.out _).mono ?_
  rintro e w1 ⟨rfl,hb⟩
  replace B:=B.trans (hb.mono B.size)
  replace hR:=hR.keep hb
  clear hb gF gS hF hS
  have gR:=hR.1.all4;have fR:=hR.2.all4
  go_wp2
  simp [bodyPost,results,Tryz.results129,go_sem,gR]
  exact ak B o3 _ _ _ _
 ·go_wp2_with fail
  with_reducible refine (K5.out _).mono ?_
  rintro e w1 ⟨rfl,hb⟩
  replace B:=B.trans (hb.mono B.size)
  replace hR:=hR.keep hb
  clear hb gF gS hF hS
  have gR:=fun o=>(hR.alloc o).1.all4
  have fR:=fun o=>(hR.alloc o).2.all4
  have BB:Hid (∀ o,Below w.heap.size w (w1.alloc o)):=fun o=>B.alloc B.size o
  clear B hR
  go_wp2
  simp [bodyPost,results,Tryz.results129,go_sem, *]
  repeat (first|with_reducible exact BB.out _|with_reducible refine Below.drew ?_|with_reducible refine Below.setCell ?_ (by with_reducible assumption) _)
theorem xu {m c x y:Int} (hf:Fit m c) (hx:Num x) (hy:Num y) (w:World) :
  Rt 129 #[.agg #[.int .u64 (l0 m),.int .u64 (l1 m),.int .u64 (l2 m),.int .u64 (l3 m),.int .u64 (l0 c),.int .u64 (l1 c),.int .u64 (l2 c),.int .u64 (l3 c)],U4 x,U4 y] w (U4 (ab m (x+y))):=by
 have na:=ag hf x
 have nb:=ag hf y
 have T:∀ w,Rt 95 #[U4 (ab m x),U4 (ab m y)] w (.tuple #[U4 (fM (ab m x) (ab m y)),.int .u64 (fm (ab m x) (ab m y))]):=fun w=>jO na nb w
 refine uT (z:=fW (fM (ab m x) (ab m y)) m) (dP hf hx) (dP hf hy) T ?_ w
 rcases xq (x:=x) (y:=y) hf with ⟨k1,k2⟩|⟨k1,k2⟩
 ·exact .inl ⟨k1,by rw [k2];exact dP hf (qo _ _)⟩
 ·exact .inr ⟨k1,by rw [k2];exact fun w=>iT (qo _ _) hf.num w⟩
theorem uU {m c x y a b s r k z:Int} (K1:Hid (∀ w,Rt 81 #[.agg #[.int .u64 (l0 m),.int .u64 (l1 m),.int .u64 (l2 m),.int .u64 (l3 m),.int .u64 (l0 c),.int .u64 (l1 c),.int .u64 (l2 c),.int .u64 (l3 c)],U4 x] w (U4 a))) (K2:Hid (∀ w,Rt 81 #[.agg #[.int .u64 (l0 m),.int .u64 (l1 m),.int .u64 (l2 m),.int .u64 (l3 m),.int .u64 (l0 c),.int .u64 (l1 c),.int .u64 (l2 c),.int .u64 (l3 c)],U4 y] w (U4 b))) (K3:Hid (∀ w,Rt 102 #[U4 a,U4 b] w (.tuple #[U4 s,.int .u64 k]))) (K4:Hid ((k=0∧s=r)∨(k=1∧Hid (∀ w,Rt 95 #[U4 s,U4 m] w (.tuple #[U4 r,.int .u64 z]))))) (w:World) :
  Rt 99 #[.agg #[.int .u64 (l0 m),.int .u64 (l1 m),.int .u64 (l2 m),.int .u64 (l3 m),.int .u64 (l0 c),.int .u64 (l1 c),.int .u64 (l2 c),.int .u64 (l3 c)],U4 x,U4 y] w (U4 r):=by
 go_enter Tryz.func99,Tryz.ntmps99
 go_wp2_with fail
 refine ah (fun W=>Below w.heap.size w W∧aC W w.heap.size m c∧ae W (w.heap.size+1) x∧ae W (w.heap.size+1+1) y∧af W (w.heap.size+1+1+1)) ⟨by repeat (first|with_reducible exact Below.refl _ _|with_reducible refine Below.alloc ?_ (by first|omega|(simp;done)|(simp;omega)) _),(((aC.new w m c _).alloc _).alloc _).alloc _,((ae.fresh (by simp)).alloc _).alloc _,(ae.fresh (by simp)).alloc _,af.new (by simp)⟩ ?_
 rintro W ⟨B,hF,hX,hY,hR⟩
 have o3:w.heap.size≤w.heap.size+1+1+1:=by omega
 generalize w.heap.size+1+1+1=br at *
 generalize w.heap.size+1+1=bw at *
 generalize w.heap.size+1=bx at *
 generalize hbf:w.heap.size=bf at *
 have gF:=hF.cells;have gX:=hX.cells;have gY:=hY.cells
 have lf:bf<W.heap.size:=hF.lt
 have lx:bx<W.heap.size:=World.block_lt_of_cell? W _ hX.1
 have ly:bw<W.heap.size:=World.block_lt_of_cell? W _ hY.1
 have lr:br<W.heap.size:=hR.1.lt (by simp)
 have BB:Hid (Below bf w W):=B
 have HF:Hid (aC W bf m c):=hF
 have HR:Hid (af W br):=hR
 have geB:bf≤W.heap.size:=by omega
 clear B hF hX hY hR
 refine rZ (fun a' W'=>∃ bs,Below bf w W'∧aC W' bf m c∧af W' br∧ae W' bs s∧a'={ tmps:=#[.agg #[.int .u64 (l0 m),.int .u64 (l1 m),.int .u64 (l2 m),.int .u64 (l3 m),.int .u64 (l0 c),.int .u64 (l1 c),.int .u64 (l2 c),.int .u64 (l3 c)],U4 x,U4 y,.pointer (some { block:=bf,off:=0 }),.pointer (some { block:=bx,off:=0 }),.pointer (some { block:=bw,off:=0 }),.pointer (some { block:=br,off:=0 }),.pointer (some { block:=bs,off:=0 }),.int .u64 k,Go.undef,Go.undef,.tuple #[U4 s,.int .u64 k],.agg #[.int .u64 (l0 m),.int .u64 (l1 m),.int .u64 (l2 m),.int .u64 (l3 m),.int .u64 (l0 c),.int .u64 (l1 c),.int .u64 (l2 c),.int .u64 (l3 c)],U4 x,U4 a,.agg #[.int .u64 (l0 m),.int .u64 (l1 m),.int .u64 (l2 m),.int .u64 (l3 m),.int .u64 (l0 c),.int .u64 (l1 c),.int .u64 (l2 c),.int .u64 (l3 c)],U4 y,U4 b,.tuple #[U4 s,.int .u64 k],U4 s,.int .u64 k,Go.undef,Go.undef,Go.undef,Go.undef,Go.undef,Go.undef,Go.undef,Go.undef,Go.undef,Go.undef,Go.undef],defers:=[] }) ?_ ?_
 ·have dz:W.drew.heap.size=W.heap.size:=rfl
  clear K4
  have _:bf<W.heap.size:=by omega
  have _:bf≤W.heap.size:=by omega
  have _:bf<W.heap.size+1:=by omega
  have _:bf<W.heap.size+1+1:=by omega
  have _:bf≠W.heap.size:=by omega
  have _:W.heap.size≠bf:=by omega
  have _:bf≠W.heap.size+1:=by omega
  have _:W.heap.size+1≠bf:=by omega
  have _:bx<W.heap.size:=by omega
  have _:bx≤W.heap.size:=by omega
  have _:bx<W.heap.size+1:=by omega
  have _:bx<W.heap.size+1+1:=by omega
  have _:bx≠W.heap.size:=by omega
  have _:W.heap.size≠bx:=by omega
  have _:bx≠W.heap.size+1:=by omega
  have _:W.heap.size+1≠bx:=by omega
  have _:bw<W.heap.size:=by omega
  have _:bw≤W.heap.size:=by omega
  have _:bw<W.heap.size+1:=by omega
  have _:bw<W.heap.size+1+1:=by omega
  have _:bw≠W.heap.size:=by omega
  have _:W.heap.size≠bw:=by omega
  have _:bw≠W.heap.size+1:=by omega
  have _:W.heap.size+1≠bw:=by omega
  have _:br<W.heap.size:=by omega
  have _:br≤W.heap.size:=by omega
  have _:br<W.heap.size+1:=by omega
  have _:br<W.heap.size+1+1:=by omega
  have _:br≠W.heap.size:=by omega
  have _:W.heap.size≠br:=by omega
  have _:br≠W.heap.size+1:=by omega
  have _:W.heap.size+1≠br:=by omega
  go_region_held3 (fun w'=>w'.cell? ⟨bf,0,none⟩=some (.int .u64 (l0 m))∧w'.cell? ⟨bf,1,none⟩=some (.int .u64 (l1 m))∧w'.cell? ⟨bf,2,none⟩=some (.int .u64 (l2 m))∧w'.cell? ⟨bf,3,none⟩=some (.int .u64 (l3 m))∧w'.cell? ⟨bf,4,none⟩=some (.int .u64 (l0 c))∧w'.cell? ⟨bf,5,none⟩=some (.int .u64 (l1 c))∧w'.cell? ⟨bf,6,none⟩=some (.int .u64 (l2 c))∧w'.cell? ⟨bf,7,none⟩=some (.int .u64 (l3 c))∧w'.cell? ⟨bx,0,none⟩=some (.int .u64 (l0 x))∧w'.cell? ⟨bx,1,none⟩=some (.int .u64 (l1 x))∧w'.cell? ⟨bx,2,none⟩=some (.int .u64 (l2 x))∧w'.cell? ⟨bx,3,none⟩=some (.int .u64 (l3 x))∧w'.cell? ⟨bw,0,none⟩=some (.int .u64 (l0 y))∧w'.cell? ⟨bw,1,none⟩=some (.int .u64 (l1 y))∧w'.cell? ⟨bw,2,none⟩=some (.int .u64 (l2 y))∧w'.cell? ⟨bw,3,none⟩=some (.int .u64 (l3 y))) (((try dsimp only);(repeat' (apply And.intro));(all_goals repeat (first|with_reducible assumption|with_reducible apply cell_keep hb3|with_reducible apply cell_keep hb2|with_reducible apply cell_keep hb1|with_reducible apply cell_alloc|(with_reducible refine cell_set ?_ (by with_reducible assumption))|(simp [go_sem, *];done)))))
   (first
    | (go_at_call 81;with_reducible refine (K1.out _).mono ?_;rintro e w1 ⟨rfl,hb1⟩;have hc1:=al hb1;have hz1:=hb1.size;(try simp at hz1);(try (have:=fun j=>al hb1 (W.heap.size) j (by first|omega|(simp;done)|(simp;omega))));(try (have:=fun j=>al hb1 (W.heap.size+1) j (by first|omega|(simp;done)|(simp;omega))));have _:bf<w1.heap.size:=(by omega);have _:bf≤w1.heap.size:=(by omega);have _:bf<w1.heap.size+1:=(by omega);have _:bf<w1.heap.size+1+1:=(by omega);have _:bf≠w1.heap.size:=(by omega);have _:w1.heap.size≠bf:=(by omega);have _:bf≠w1.heap.size+1:=(by omega);have _:w1.heap.size+1≠bf:=(by omega);have _:bx<w1.heap.size:=(by omega);have _:bx≤w1.heap.size:=(by omega);have _:bx<w1.heap.size+1:=(by omega);have _:bx<w1.heap.size+1+1:=(by omega);have _:bx≠w1.heap.size:=(by omega);have _:w1.heap.size≠bx:=(by omega);have _:bx≠w1.heap.size+1:=(by omega);have _:w1.heap.size+1≠bx:=(by omega);have _:bw<w1.heap.size:=(by omega);have _:bw≤w1.heap.size:=(by omega);have _:bw<w1.heap.size+1:=(by omega);have _:bw<w1.heap.size+1+1:=(by omega);have _:bw≠w1.heap.size:=(by omega);have _:w1.heap.size≠bw:=(by omega);have _:bw≠w1.heap.size+1:=(by omega);have _:w1.heap.size+1≠bw:=(by omega);have _:br<w1.heap.size:=(by omega);have _:br≤w1.heap.size:=(by omega);have _:br<w1.heap.size+1:=(by omega);have _:br<w1.heap.size+1+1:=(by omega);have _:br≠w1.heap.size:=(by omega);have _:w1.heap.size≠br:=(by omega);have _:br≠w1.heap.size+1:=(by omega);have _:w1.heap.size+1≠br:=(by omega);(try (have _:W.heap.size<w1.heap.size:=(by omega)));(try (have _:W.heap.size≤w1.heap.size:=(by omega)));(try (have _:W.heap.size≠w1.heap.size:=(by omega)));(try (have _:w1.heap.size≠W.heap.size:=(by omega)));(try (have _:W.heap.size<w1.heap.size+1:=(by omega)));(try (have _:W.heap.size+1<w1.heap.size:=(by omega)));(try (have _:W.heap.size+1≤w1.heap.size:=(by omega)));(try (have _:W.heap.size+1≠w1.heap.size:=(by omega)));(try (have _:w1.heap.size≠W.heap.size+1:=(by omega)));(try (have _:W.heap.size+1<w1.heap.size+1:=(by omega))))
    | (go_at_call 81;with_reducible refine (K2.out _).mono ?_;rintro e w2 ⟨rfl,hb2⟩;have hc2:=al hb2;have hz2:=hb2.size;(try simp at hz2);(try (have:=fun j=>al hb2 (W.heap.size) j (by first|omega|(simp;done)|(simp;omega))));(try (have:=fun j=>al hb2 (W.heap.size+1) j (by first|omega|(simp;done)|(simp;omega))));(try (have:=fun j=>al hb2 (w1.heap.size) j (by first|omega|(simp;done)|(simp;omega))));(try (have:=fun j=>al hb2 (w1.heap.size+1) j (by first|omega|(simp;done)|(simp;omega))));have _:bf<w2.heap.size:=(by omega);have _:bf≤w2.heap.size:=(by omega);have _:bf<w2.heap.size+1:=(by omega);have _:bf<w2.heap.size+1+1:=(by omega);have _:bf≠w2.heap.size:=(by omega);have _:w2.heap.size≠bf:=(by omega);have _:bf≠w2.heap.size+1:=(by omega);have _:w2.heap.size+1≠bf:=(by omega);have _:bx<w2.heap.size:=(by omega);have _:bx≤w2.heap.size:=(by omega);have _:bx<w2.heap.size+1:=(by omega);have _:bx<w2.heap.size+1+1:=(by omega);have _:bx≠w2.heap.size:=(by omega);have _:w2.heap.size≠bx:=(by omega);have _:bx≠w2.heap.size+1:=(by omega);have _:w2.heap.size+1≠bx:=(by omega);have _:bw<w2.heap.size:=(by omega);have _:bw≤w2.heap.size:=(by omega);have _:bw<w2.heap.size+1:=(by omega);have _:bw<w2.heap.size+1+1:=(by omega);have _:bw≠w2.heap.size:=(by omega);have _:w2.heap.size≠bw:=(by omega);have _:bw≠w2.heap.size+1:=(by omega);have _:w2.heap.size+1≠bw:=(by omega);have _:br<w2.heap.size:=(by omega);have _:br≤w2.heap.size:=(by omega);have _:br<w2.heap.size+1:=(by omega);have _:br<w2.heap.size+1+1:=(by omega);have _:br≠w2.heap.size:=(by omega);have _:w2.heap.size≠br:=(by omega);have _:br≠w2.heap.size+1:=(by omega);have _:w2.heap.size+1≠br:=(by omega);(try (have _:W.heap.size<w2.heap.size:=(by omega)));(try (have _:W.heap.size≤w2.heap.size:=(by omega)));(try (have _:W.heap.size≠w2.heap.size:=(by omega)));(try (have _:w2.heap.size≠W.heap.size:=(by omega)));(try (have _:W.heap.size<w2.heap.size+1:=(by omega)));(try (have _:W.heap.size+1<w2.heap.size:=(by omega)));(try (have _:W.heap.size+1≤w2.heap.size:=(by omega)));(try (have _:W.heap.size+1≠w2.heap.size:=(by omega)));(try (have _:w2.heap.size≠W.heap.size+1:=(by omega)));(try (have _:W.heap.size+1<w2.heap.size+1:=(by omega)));(try (have _:w1.heap.size<w2.heap.size:=(by omega)));(try (have _:w1.heap.size≤w2.heap.size:=(by omega)));(try (have _:w1.heap.size≠w2.heap.size:=(by omega)));(try (have _:w2.heap.size≠w1.heap.size:=(by omega)));(try (have _:w1.heap.size<w2.heap.size+1:=(by omega)));(try (have _:w1.heap.size+1<w2.heap.size:=(by omega)));(try (have _:w1.heap.size+1≤w2.heap.size:=(by omega)));(try (have _:w1.heap.size+1≠w2.heap.size:=(by omega)));(try (have _:w2.heap.size≠w1.heap.size+1:=(by omega)));(try (have _:w1.heap.size+1<w2.heap.size+1:=(by omega))))
    | (go_at_call 102;with_reducible refine (K3.out _).mono ?_;rintro e w3 ⟨rfl,hb3⟩;have hc3:=al hb3;have hz3:=hb3.size;(try simp at hz3);(try (have:=fun j=>al hb3 (W.heap.size) j (by first|omega|(simp;done)|(simp;omega))));(try (have:=fun j=>al hb3 (W.heap.size+1) j (by first|omega|(simp;done)|(simp;omega))));(try (have:=fun j=>al hb3 (w1.heap.size) j (by first|omega|(simp;done)|(simp;omega))));(try (have:=fun j=>al hb3 (w1.heap.size+1) j (by first|omega|(simp;done)|(simp;omega))));(try (have:=fun j=>al hb3 (w2.heap.size) j (by first|omega|(simp;done)|(simp;omega))));(try (have:=fun j=>al hb3 (w2.heap.size+1) j (by first|omega|(simp;done)|(simp;omega))));have _:bf<w3.heap.size:=(by omega);have _:bf≤w3.heap.size:=(by omega);have _:bf<w3.heap.size+1:=(by omega);have _:bf<w3.heap.size+1+1:=(by omega);have _:bf≠w3.heap.size:=(by omega);have _:w3.heap.size≠bf:=(by omega);have _:bf≠w3.heap.size+1:=(by omega);have _:w3.heap.size+1≠bf:=(by omega);have _:bx<w3.heap.size:=(by omega);have _:bx≤w3.heap.size:=(by omega);have _:bx<w3.heap.size+1:=(by omega);have _:bx<w3.heap.size+1+1:=(by omega);have _:bx≠w3.heap.size:=(by omega);have _:w3.heap.size≠bx:=(by omega);have _:bx≠w3.heap.size+1:=(by omega);have _:w3.heap.size+1≠bx:=(by omega);have _:bw<w3.heap.size:=(by omega);have _:bw≤w3.heap.size:=(by omega);have _:bw<w3.heap.size+1:=(by omega);have _:bw<w3.heap.size+1+1:=(by omega);have _:bw≠w3.heap.size:=(by omega);have _:w3.heap.size≠bw:=(by omega);have _:bw≠w3.heap.size+1:=(by omega);have _:w3.heap.size+1≠bw:=(by omega);have _:br<w3.heap.size:=(by omega);have _:br≤w3.heap.size:=(by omega);have _:br<w3.heap.size+1:=(by omega);have _:br<w3.heap.size+1+1:=(by omega);have _:br≠w3.heap.size:=(by omega);have _:w3.heap.size≠br:=(by omega);have _:br≠w3.heap.size+1:=(by omega);have _:w3.heap.size+1≠br:=(by omega);(try (have _:W.heap.size<w3.heap.size:=(by omega)));(try (have _:W.heap.size≤w3.heap.size:=(by omega)));(try (have _:W.heap.size≠w3.heap.size:=(by omega)));(try (have _:w3.heap.size≠W.heap.size:=(by omega)));(try (have _:W.heap.size<w3.heap.size+1:=(by omega)));(try (have _:W.heap.size+1<w3.heap.size:=(by omega)));(try (have _:W.heap.size+1≤w3.heap.size:=(by omega)));(try (have _:W.heap.size+1≠w3.heap.size:=(by omega)));(try (have _:w3.heap.size≠W.heap.size+1:=(by omega)));(try (have _:W.heap.size+1<w3.heap.size+1:=(by omega)));(try (have _:w1.heap.size<w3.heap.size:=(by omega)));(try (have _:w1.heap.size≤w3.heap.size:=(by omega)));(try (have _:w1.heap.size≠w3.heap.size:=(by omega)));(try (have _:w3.heap.size≠w1.heap.size:=(by omega)));(try (have _:w1.heap.size<w3.heap.size+1:=(by omega)));(try (have _:w1.heap.size+1<w3.heap.size:=(by omega)));(try (have _:w1.heap.size+1≤w3.heap.size:=(by omega)));(try (have _:w1.heap.size+1≠w3.heap.size:=(by omega)));(try (have _:w3.heap.size≠w1.heap.size+1:=(by omega)));(try (have _:w1.heap.size+1<w3.heap.size+1:=(by omega)));(try (have _:w2.heap.size<w3.heap.size:=(by omega)));(try (have _:w2.heap.size≤w3.heap.size:=(by omega)));(try (have _:w2.heap.size≠w3.heap.size:=(by omega)));(try (have _:w3.heap.size≠w2.heap.size:=(by omega)));(try (have _:w2.heap.size<w3.heap.size+1:=(by omega)));(try (have _:w2.heap.size+1<w3.heap.size:=(by omega)));(try (have _:w2.heap.size+1≤w3.heap.size:=(by omega)));(try (have _:w2.heap.size+1≠w3.heap.size:=(by omega)));(try (have _:w3.heap.size≠w2.heap.size+1:=(by omega)));(try (have _:w2.heap.size+1<w3.heap.size+1:=(by omega)))))
  all_goals (refine uP.intro ⟨_,?_,?_,?_,?_,rfl⟩)
  all_goals repeat (first|with_reducible exact BB.out|with_reducible exact HF.out|with_reducible exact HR.out|with_reducible refine ae.fresh (by first|rfl|(simp;done)|fail)|with_reducible refine ae.sets4 ?_|with_reducible refine ae.alloc ?_ _|with_reducible refine ae.drew ?_|with_reducible refine aC.alloc ?_ _|with_reducible refine aC.drew ?_|with_reducible refine aC.set4 ?_ (by with_reducible assumption) _ _ _ _|with_reducible refine af.alloc ?_ _|with_reducible refine af.drew ?_|with_reducible refine af.set4 ?_ (by with_reducible assumption) _ _ _ _|with_reducible refine ip hbf ?_ _|with_reducible refine Below.drew ?_|with_reducible refine Below.setCell ?_ (by with_reducible assumption) _|with_reducible refine Has.fresh (by first|rfl|(simp;done)|fail) (by first|(simp;done)|fail)|with_reducible refine Has.alloc ?_ _|with_reducible refine Has.drew ?_|with_reducible refine Has.keep ?_ hb3|with_reducible refine ae.keep ?_ hb3|with_reducible refine aC.keep ?_ hb3|with_reducible refine af.keep ?_ hb3|with_reducible refine cJ hbf ?_ hb3|with_reducible refine Has.keep ?_ hb2|with_reducible refine ae.keep ?_ hb2|with_reducible refine aC.keep ?_ hb2|with_reducible refine af.keep ?_ hb2|with_reducible refine cJ hbf ?_ hb2|with_reducible refine Has.keep ?_ hb1|with_reducible refine ae.keep ?_ hb1|with_reducible refine aC.keep ?_ hb1|with_reducible refine af.keep ?_ hb1|with_reducible refine cJ hbf ?_ hb1)
 rintro _ W1 ⟨bs,B,hF,hR,hS,rfl⟩
 subst hbf
 clear BB HF HR gF gX gY lf lx ly lr geB K1 K2 K3 W
 have gF:=hF.cells;have gS:=hS.cells
 rcases K4.out with ⟨rfl,K5⟩|⟨rfl,K5⟩
 ·subst K5
  have gR:=hR.1.all4;have fR:=hR.2.all4
  clear gF hF
  go_wp2
  simp [bodyPost,results,Tryz.results99,go_sem,gR]
  exact ak B o3 _ _ _ _
 ·go_wp2_with fail
  with_reducible refine (K5.out _).mono ?_
  rintro e w1 ⟨rfl,hb⟩
  replace B:=B.trans (hb.mono B.size)
  replace hR:=hR.keep hb
  clear hb gF gS hF hS
  have gR:=fun o=>(hR.alloc o).1.all4
  have fR:=fun o=>(hR.alloc o).2.all4
  have BB:Hid (∀ o,Below w.heap.size w (w1.alloc o)):=fun o=>B.alloc B.size o
  clear B hR
  go_wp2
  simp [bodyPost,results,Tryz.results99,go_sem, *]
  repeat (first|with_reducible exact BB.out _|with_reducible refine Below.drew ?_|with_reducible refine Below.setCell ?_ (by with_reducible assumption) _)
theorem mT {m c x y:Int} (hf:Fit m c) (hx:Num x) (hy:Num y) (w:World) :
  Rt 99 #[.agg #[.int .u64 (l0 m),.int .u64 (l1 m),.int .u64 (l2 m),.int .u64 (l3 m),.int .u64 (l0 c),.int .u64 (l1 c),.int .u64 (l2 c),.int .u64 (l3 c)],U4 x,U4 y] w (U4 (ab m (x-y))):=by
 have na:=ag hf x
 have nb:=ag hf y
 have T:∀ w,Rt 102 #[U4 (ab m x),U4 (ab m y)] w (.tuple #[U4 (fN (ab m x) (ab m y)),.int .u64 (fW (ab m x) (ab m y))]):=fun w=>iT na nb w
 refine uU (z:=fm (fN (ab m x) (ab m y)) m) (dP hf hx) (dP hf hy) T ?_ w
 rcases xr (x:=x) (y:=y) hf with ⟨k1,k2⟩|⟨k1,k2⟩
 ·exact .inl ⟨k1,k2.symm⟩
 ·exact .inr ⟨k1,by rw [k2];exact fun w=>jO (wP _ _) hf.num w⟩
end Go.Proofs.YtjoandmehahfgaaGreatDoor
