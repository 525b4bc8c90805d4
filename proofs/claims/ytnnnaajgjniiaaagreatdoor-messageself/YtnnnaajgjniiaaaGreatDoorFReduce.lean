import Derived.Test.YtnnnaajgjniiaaaGreatDoorHold
import Derived.Test.YtnnnaajgjniiaaaGreatDoorMul2
import Derived.Test.YtnnnaajgjniiaaaGreatDoorQTail
import Derived.Deep.LoopGhost
import Derived.Deep.RegionHeld3
set_option maxHeartbeats 4000000
namespace Go.Proofs.YtnnnaajgjniiaaaGreatDoor
open Go.RowKit Go.Sort
theorem nR {m:Int} (hm:Num m) (w:World):(Op.equalIn 10000 24 (.agg #[.int .u64 (l0 m),.int .u64 (l1 m),.int .u64 (l2 m),.int .u64 (l3 m)]) (.agg #[.int .u64 0,.int .u64 0,.int .u64 0,.int .u64 0])).run Tryz.prog w = .ok (decide (m=0)) w:=by
 have h:=fD (m:=0) hm ⟨by decide,by decide⟩ w
 obtain ⟨z0,z1,z2,z3⟩:=ap
 rw [z0,z1,z2,z3] at h
 exact h
def aw (W:World) (b:Nat) (m c:Int):Prop:=Row W b [l0 m,l1 m,l2 m,l3 m,l0 c,l1 c,l2 c,l3 c]
theorem aw.keep {W w1:World} {b:Nat} {m c:Int} (h:aw W b m c) (hb:Below W.heap.size W w1):aw w1 b m c:=Row.keep h hb
theorem aw.alloc {W:World} {b:Nat} {m c:Int} (h:aw W b m c) (o:Obj):aw (W.alloc o) b m c:=Row.alloc h o
theorem aw.drew {W:World} {b:Nat} {m c:Int} (h:aw W b m c):aw W.drew b m c:=h
theorem aw.new (W:World) (m c:Int) (t:TypeId):aw (W.alloc (.cells #[.int .u64 (l0 m),.int .u64 (l1 m),.int .u64 (l2 m),.int .u64 (l3 m),.int .u64 (l0 c),.int .u64 (l1 c),.int .u64 (l2 c),.int .u64 (l3 c)] t)) W.heap.size m c:=Row.fresh8 rfl
theorem aw.set {W:World} {b b' i:Nat} {m c:Int} (h:aw W b m c) (ne:b'≠b) (v:Value):aw (W.setCell ⟨b',i,none⟩ v) b m c:=Row.setOther h ne v
theorem aw.set4 {W:World} {b b':Nat} {m c:Int} (h:aw W b m c) (ne:b'≠b) (v0 v1 v2 v3:Value):aw ((((W.setCell ⟨b',0,none⟩ v0).setCell ⟨b',1,none⟩ v1).setCell ⟨b',2,none⟩ v2).setCell ⟨b',3,none⟩ v3) b m c :=
 (((h.set ne v0).set ne v1).set ne v2).set ne v3
theorem aw.cells {W:World} {b:Nat} {m c:Int} (h:aw W b m c):W.cell? ⟨b,0,none⟩=some (.int .u64 (l0 m))∧W.cell? ⟨b,1,none⟩=some (.int .u64 (l1 m))∧W.cell? ⟨b,2,none⟩=some (.int .u64 (l2 m))∧W.cell? ⟨b,3,none⟩=some (.int .u64 (l3 m))∧W.cell? ⟨b,4,none⟩=some (.int .u64 (l0 c))∧W.cell? ⟨b,5,none⟩=some (.int .u64 (l1 c))∧W.cell? ⟨b,6,none⟩=some (.int .u64 (l2 c))∧W.cell? ⟨b,7,none⟩=some (.int .u64 (l3 c)):=Row.all8 h
theorem aw.grown {W:World} {b:Nat} {m c:Int} (h:aw W b m c):∀ d os,(grow (redrawn W d) os).cell? ⟨b,0,none⟩=some (.int .u64 (l0 m))∧(grow (redrawn W d) os).cell? ⟨b,1,none⟩=some (.int .u64 (l1 m))∧(grow (redrawn W d) os).cell? ⟨b,2,none⟩=some (.int .u64 (l2 m))∧(grow (redrawn W d) os).cell? ⟨b,3,none⟩=some (.int .u64 (l3 m))∧(grow (redrawn W d) os).cell? ⟨b,4,none⟩=some (.int .u64 (l0 c))∧(grow (redrawn W d) os).cell? ⟨b,5,none⟩=some (.int .u64 (l1 c))∧(grow (redrawn W d) os).cell? ⟨b,6,none⟩=some (.int .u64 (l2 c))∧(grow (redrawn W d) os).cell? ⟨b,7,none⟩=some (.int .u64 (l3 c)) :=
 fun d os=>(h.keep (below_regrown W d os)).cells
theorem aw.lt {W:World} {b:Nat} {m c:Int} (h:aw W b m c):b<W.heap.size:=Row.lt h (by simp)
theorem jA {m c h l:Int} (hf:Fit m c) (hh:Num h) (hl:Num l) (w:World) :
  Calls Tryz.prog 138 #[.agg #[.int .u64 (l0 m),.int .u64 (l1 m),.int .u64 (l2 m),.int .u64 (l3 m),.int .u64 (l0 c),.int .u64 (l1 c),.int .u64 (l2 c),.int .u64 (l3 c)],.agg #[.int .u64 (l0 h),.int .u64 (l1 h),.int .u64 (l2 h),.int .u64 (l3 h)],.agg #[.int .u64 (l0 l),.int .u64 (l1 l),.int .u64 (l2 l),.int .u64 (l3 l)]] w fun e w'=>e = .returned (.agg #[.int .u64 (l0 (ac m (aN h l))),.int .u64 (l1 (ac m (aN h l))),.int .u64 (l2 (ac m (aN h l))),.int .u64 (l3 (ac m (aN h l)))])∧Below w.heap.size w w':=by
 go_enter Tryz.func138,Tryz.ntmps138
 go_wp2_with fail
 refine aj (fun W=>Below w.heap.size w W∧aw W w.heap.size m c∧Var W (w.heap.size+1) h∧Var W (w.heap.size+1+1) l∧af W (w.heap.size+1+1+1)) ⟨by repeat (first|with_reducible exact Below.refl _ _|with_reducible refine Below.alloc ?_ (by first|omega|(simp;done)|(simp;omega)) _),(((aw.new w m c _).alloc _).alloc _).alloc _,((Var.new (by simp)).alloc _).alloc _,(Var.new (by simp)).alloc _,af.new (by simp)⟩ ?_
 rintro W ⟨B,hF,hH,hL,hR⟩
 have o1:w.heap.size≤w.heap.size+1:=by omega
 have o2:w.heap.size≤w.heap.size+1+1:=by omega
 have o3:w.heap.size≤w.heap.size+1+1+1:=by omega
 have n1:w.heap.size+1≠w.heap.size:=by omega
 have n2:w.heap.size+1+1≠w.heap.size:=by omega
 have n3:w.heap.size+1+1≠w.heap.size+1:=by omega
 have n4:w.heap.size+1+1+1≠w.heap.size+1:=by omega
 have n5:w.heap.size+1+1+1≠w.heap.size+1+1:=by omega
 generalize w.heap.size+1+1+1=br at *
 generalize w.heap.size+1+1=bl at *
 generalize w.heap.size+1=bh at *
 go_loopg [] (aN h l).toNat (fun g wr=>∃ H L:Int,g=(aN H L).toNat∧Num H∧Num L∧aN H L%m=aN h l%m∧Below w.heap.size w wr∧aw wr w.heap.size m c∧Var wr bh H∧Var wr bl L∧af wr br)
 case atStart=>exact ⟨h,l,rfl,hh,hl,rfl,B,hF,hH,hL,hR⟩
 case round =>
  clear B hF hH hL hR W
  obtain ⟨H,L,hg,nH,nL,he,B,hF,hH,hL,hR⟩:=hrel
  have E:Hid (gk=(aN H L).toNat∧aN H L%m=aN h l%m):=⟨hg,he⟩
  clear hg he
  have hq:=nR nH
  have bz:=bE
  have gH:=hH.1.cells;have gL:=hL.1.cells;have gF:=hF.cells
  by_cases hz:H=0
  ·simp only [hz,decide_true] at hq
   subst hz
   have e2:ac m (aN h l)=ac m L:=by
    have:=E.out.2;rw [rq] at this;unfold ac;rw [this]
   have O:=dn hf nL
   rw [←e2] at O
   have O':Hid (∀ w,Calls Tryz.prog 128 #[.agg #[.int .u64 (l0 m),.int .u64 (l1 m),.int .u64 (l2 m),.int .u64 (l3 m),.int .u64 (l0 c),.int .u64 (l1 c),.int .u64 (l2 c),.int .u64 (l3 c)],.agg #[.int .u64 (l0 L),.int .u64 (l1 L),.int .u64 (l2 L),.int .u64 (l3 L)]] w fun e w'=>e = .returned (.agg #[.int .u64 (l0 (ac m (aN h l))),.int .u64 (l1 (ac m (aN h l))),.int .u64 (l2 (ac m (aN h l))),.int .u64 (l3 (ac m (aN h l)))])∧Below w.heap.size w w'):=O
   clear O e2
   go_wp2_with fail
   with_reducible refine (O'.out _).mono ?_
   rintro e w1 ⟨rfl,hb⟩
   replace B:=B.trans (hb.mono B.size)
   replace hR:=hR.keep hb
   clear hb gH gL gF hF hH hL
   have gR:=hR.1.all4;have fR:=hR.2.all4
   go_wp2
   simp [bodyPost,results,Tryz.results138,go_sem,gR]
   exact ak B o3 _ _ _ _
  ·have hzd:decide (H=0)=false:=by simp [hz]
   rw [hzd] at hq
   obtain ⟨st1,st2⟩:=ro (l:=L) hf nH hz
   have nn:=jt (kd hf nH nL).1 (mi H L c)
   have nl:=jt nH nL
   have E2:Hid ((aN (bX H L c) (bM H L c)).toNat<gk∧Num (bX H L c)∧Num (bM H L c)∧aN (bX H L c) (bM H L c)%m=aN h l%m) :=
    ⟨by have:=E.out.1;omega,(kd hf nH nL).1,mi H L c,st1.trans E.out.2⟩
   have D:Hid (∀ w,Calls Tryz.prog 172 #[.agg #[.int .u64 (l0 H),.int .u64 (l1 H),.int .u64 (l2 H),.int .u64 (l3 H)],.agg #[.int .u64 (l0 L),.int .u64 (l1 L),.int .u64 (l2 L),.int .u64 (l3 L)],.agg #[.int .u64 (l0 c),.int .u64 (l1 c),.int .u64 (l2 c),.int .u64 (l3 c)]] w fun e w'=>e = .returned (.tuple #[.agg #[.int .u64 (l0 (bX H L c)),.int .u64 (l1 (bX H L c)),.int .u64 (l2 (bX H L c)),.int .u64 (l3 (bX H L c))],.agg #[.int .u64 (l0 (bM H L c)),.int .u64 (l1 (bM H L c)),.int .u64 (l2 (bM H L c)),.int .u64 (l3 (bM H L c))]])∧Below w.heap.size w w'):=rD hf nH nL
   clear st1 st2 nn nl E hz hzd
   generalize bX H L c=H' at *
   generalize bM H L c=L' at *
   go_wp2_with fail
   with_reducible refine (D.out _).mono ?_
   rintro e w1 ⟨rfl,hb⟩
   replace B:=B.trans (hb.mono B.size)
   replace hR:=hR.keep hb;replace hF:=hF.keep hb;replace hH:=hH.keep hb;replace hL:=hL.keep hb
   clear hb gH gL gF hq bz
   have gH:=hH.1.cells;have gL:=hL.1.cells
   have fH:=hH.2.all4;have fL:=hL.2.all4
   have n3':=n3.symm
   go_wp2
   go_roundg (aN H' L').toNat
   case measure=>exact E2.out.1
   case rel=>exact ⟨H',L',rfl,E2.out.2.1,E2.out.2.2.1,E2.out.2.2.2,ak (ak B o1 _ _ _ _) o2 _ _ _ _,(hF.set4 n1 _ _ _ _).set4 n2 _ _ _ _,(hH.sets _).set4 n3 _ _ _ _,(hL.set4 n3' _ _ _ _).sets _,(hR.set4 n4.symm _ _ _ _).set4 n5.symm _ _ _ _⟩
open Go.RowKit Go.Sort
theorem iO {m c x y:Int} (hf:Fit m c) (hx:Num x) (hy:Num y) (w:World) :
    Calls Tryz.prog 133 #[.agg #[.int .u64 (l0 m),.int .u64 (l1 m),.int .u64 (l2 m),.int .u64 (l3 m),.int .u64 (l0 c),.int .u64 (l1 c),.int .u64 (l2 c),.int .u64 (l3 c)],.agg #[.int .u64 (l0 x),.int .u64 (l1 x),.int .u64 (l2 x),.int .u64 (l3 x)],.agg #[.int .u64 (l0 y),.int .u64 (l1 y),.int .u64 (l2 y),.int .u64 (l3 y)]] w fun e w'=>e = .returned (.agg #[.int .u64 (l0 (ac m (x*y))),.int .u64 (l1 (ac m (x*y))),.int .u64 (l2 (ac m (x*y))),.int .u64 (l3 (ac m (x*y)))])∧Below w.heap.size w w':=by
  have M1:Hid (∀ w,Calls Tryz.prog 169 #[.agg #[.int .u64 (l0 x),.int .u64 (l1 x),.int .u64 (l2 x),.int .u64 (l3 x)],.agg #[.int .u64 (l0 y),.int .u64 (l1 y),.int .u64 (l2 y),.int .u64 (l3 y)]] w fun e w'=>e = .returned (.tuple #[.agg #[.int .u64 (l0 (hiN x y)),.int .u64 (l1 (hiN x y)),.int .u64 (l2 (hiN x y)),.int .u64 (l3 (hiN x y))],.agg #[.int .u64 (l0 (loN x y)),.int .u64 (l1 (loN x y)),.int .u64 (l2 (loN x y)),.int .u64 (l3 (loN x y))]])∧Below w.heap.size w w'):=qF hx hy
  have R1:Hid (∀ w,Calls Tryz.prog 138 #[.agg #[.int .u64 (l0 m),.int .u64 (l1 m),.int .u64 (l2 m),.int .u64 (l3 m),.int .u64 (l0 c),.int .u64 (l1 c),.int .u64 (l2 c),.int .u64 (l3 c)],.agg #[.int .u64 (l0 (hiN x y)),.int .u64 (l1 (hiN x y)),.int .u64 (l2 (hiN x y)),.int .u64 (l3 (hiN x y))],.agg #[.int .u64 (l0 (loN x y)),.int .u64 (l1 (loN x y)),.int .u64 (l2 (loN x y)),.int .u64 (l3 (loN x y))]] w fun e w'=>e = .returned (.agg #[.int .u64 (l0 (ac m (x*y))),.int .u64 (l1 (ac m (x*y))),.int .u64 (l2 (ac m (x*y))),.int .u64 (l3 (ac m (x*y)))])∧Below w.heap.size w w'):=fun w=>by
    have:=jA hf (qD hx hy) (qC x y) w;rw [tc] at this;exact this
  generalize ac m (x*y)=R at *
  generalize hiN x y=H at *
  generalize loN x y=L at *
  go_enter Tryz.func133,Tryz.ntmps133
  go_wp2_with fail
  refine aj (fun W=>Below w.heap.size w W∧aw W w.heap.size m c∧ae W (w.heap.size+1) x∧ae W (w.heap.size+1+1) y∧af W (w.heap.size+1+1+1)) ⟨by repeat (first|with_reducible exact Below.refl _ _|with_reducible refine Below.alloc ?_ (by first|omega|(simp;done)|(simp;omega)) _),(((aw.new w m c _).alloc _).alloc _).alloc _,((ae.fresh (by simp)).alloc _).alloc _,(ae.fresh (by simp)).alloc _,af.new (by simp)⟩ ?_
  rintro W ⟨B,hF,hX,hY,hR⟩
  have o3:w.heap.size≤w.heap.size+1+1+1:=by omega
  generalize w.heap.size+1+1+1=br at *
  generalize w.heap.size+1+1=by' at *
  generalize w.heap.size+1=bx at *
  have gF:=hF.grown;have gX:=hX.grown;have gY:=hY.grown
  refine aT 7 (by kernel_rfl) (by kernel_rfl) ?_
  simp only [List.take_succ_cons,List.take_zero,List.drop_succ_cons,List.drop_zero]
  repeat
    first
      | go_big_quiet_skip
      | (go_big_quiet_want;go_big_quiet_op;go_big_quiet_on)
      | (go_big_quiet_want
         go_big_quiet_op
         apply Exists.intro
         refine ⟨fun p=>?_,?_⟩
         · (first|(go_at_call 169;with_reducible exact Calls.regrown_of (M1.out _))|(go_at_call 138;with_reducible exact Calls.regrown_of (R1.out _)))
         go_big_quiet_on)
  refine wpQuiet_nil ?_
  rintro w1 ⟨p,rfl⟩
  have hb:=below_regrown W p.d p.os
  generalize grow (redrawn W p.d) p.os=w1 at *
  replace B:=B.trans (hb.mono B.size)
  replace hR:=hR.keep hb
  clear hb hF hX hY gF gX gY W
  have gR:=hR.1.all4;have fR:=hR.2.all4
  go_wp2
  simp [bodyPost,results,Tryz.results133,go_sem,gR]
  exact ak B o3 _ _ _ _
open Go.RowKit Go.Sort
theorem tM {m c x y:Int} (hf:Fit m c) :
  (cW (ac m x) (ac m y)=0∧ac m (x+y)=ac m (dF (ac m x) (ac m y)))∨(cW (ac m x) (ac m y)=1∧ac m (x+y)=dG (dF (ac m x) (ac m y)) m):=by
 obtain ⟨a0,a1⟩:=cQ hf x
 obtain ⟨b0,b1⟩:=cQ hf y
 obtain ⟨h1,h2,h3⟩:=hf
 have e:ac m (x+y)=(ac m x+ac m y)%m:=by unfold ac;rw [←Int.add_emod]
 rw [e]
 generalize ac m x=a at *
 generalize ac m y=b at *
 by_cases h:a+b<115792089237316195423570985008687907853269984665640564039457584007913129639936
 ·left
  have es:dF a b=a+b:=by unfold dF;omega
  refine ⟨by unfold cW;omega,?_⟩
  rw [es];rfl
 ·right
  refine ⟨by unfold cW;omega,?_⟩
  have e2:(a+b)%m=a+b-m:=by
   rw [show a+b=a+b-m+m*1 by omega,Int.add_mul_emod_self_left]
   rw [Int.emod_eq_of_lt (by omega) (by omega)];omega
  rw [e2];unfold dG dF;omega
theorem tN {m c x y:Int} (hf:Fit m c) :
  (eJ (ac m x) (ac m y)=0∧ac m (x-y)=dG (ac m x) (ac m y))∨(eJ (ac m x) (ac m y)=1∧ac m (x-y)=dF (dG (ac m x) (ac m y)) m):=by
 obtain ⟨a0,a1⟩:=cQ hf x
 obtain ⟨b0,b1⟩:=cQ hf y
 obtain ⟨h1,h2,h3⟩:=hf
 have e:ac m (x-y)=(ac m x-ac m y)%m:=by unfold ac;rw [←Int.sub_emod]
 rw [e]
 generalize ac m x=a at *
 generalize ac m y=b at *
 by_cases h:b≤a
 ·left
  refine ⟨by unfold eJ;rw [if_neg (by omega)],?_⟩
  rw [Int.emod_eq_of_lt (by omega) (by omega)];unfold dG;omega
 ·right
  refine ⟨by unfold eJ;rw [if_pos (by omega)],?_⟩
  have e2:(a-b)%m=a-b+m:=by
   rw [show a-b=a-b+m+m*(-1) by omega,Int.add_mul_emod_self_left]
   rw [Int.emod_eq_of_lt (by omega) (by omega)];omega
  rw [e2];unfold dG dF;omega
theorem rG {m c x y a b s r k z:Int} (K1:Hid (∀ w,Calls Tryz.prog 128 #[.agg #[.int .u64 (l0 m),.int .u64 (l1 m),.int .u64 (l2 m),.int .u64 (l3 m),.int .u64 (l0 c),.int .u64 (l1 c),.int .u64 (l2 c),.int .u64 (l3 c)],.agg #[.int .u64 (l0 x),.int .u64 (l1 x),.int .u64 (l2 x),.int .u64 (l3 x)]] w fun e w'=>e = .returned (.agg #[.int .u64 (l0 a),.int .u64 (l1 a),.int .u64 (l2 a),.int .u64 (l3 a)])∧Below w.heap.size w w')) (K2:Hid (∀ w,Calls Tryz.prog 128 #[.agg #[.int .u64 (l0 m),.int .u64 (l1 m),.int .u64 (l2 m),.int .u64 (l3 m),.int .u64 (l0 c),.int .u64 (l1 c),.int .u64 (l2 c),.int .u64 (l3 c)],.agg #[.int .u64 (l0 y),.int .u64 (l1 y),.int .u64 (l2 y),.int .u64 (l3 y)]] w fun e w'=>e = .returned (.agg #[.int .u64 (l0 b),.int .u64 (l1 b),.int .u64 (l2 b),.int .u64 (l3 b)])∧Below w.heap.size w w')) (K3:Hid (∀ w,Calls Tryz.prog 131 #[.agg #[.int .u64 (l0 a),.int .u64 (l1 a),.int .u64 (l2 a),.int .u64 (l3 a)],.agg #[.int .u64 (l0 b),.int .u64 (l1 b),.int .u64 (l2 b),.int .u64 (l3 b)]] w fun e w'=>e = .returned (.tuple #[.agg #[.int .u64 (l0 s),.int .u64 (l1 s),.int .u64 (l2 s),.int .u64 (l3 s)],.int .u64 k])∧Below w.heap.size w w')) (K4:Hid ((k=0∧Hid (∀ w,Calls Tryz.prog 128 #[.agg #[.int .u64 (l0 m),.int .u64 (l1 m),.int .u64 (l2 m),.int .u64 (l3 m),.int .u64 (l0 c),.int .u64 (l1 c),.int .u64 (l2 c),.int .u64 (l3 c)],.agg #[.int .u64 (l0 s),.int .u64 (l1 s),.int .u64 (l2 s),.int .u64 (l3 s)]] w fun e w'=>e = .returned (.agg #[.int .u64 (l0 r),.int .u64 (l1 r),.int .u64 (l2 r),.int .u64 (l3 r)])∧Below w.heap.size w w'))∨(k=1∧Hid (∀ w,Calls Tryz.prog 96 #[.agg #[.int .u64 (l0 s),.int .u64 (l1 s),.int .u64 (l2 s),.int .u64 (l3 s)],.agg #[.int .u64 (l0 m),.int .u64 (l1 m),.int .u64 (l2 m),.int .u64 (l3 m)]] w fun e w'=>e = .returned (.tuple #[.agg #[.int .u64 (l0 r),.int .u64 (l1 r),.int .u64 (l2 r),.int .u64 (l3 r)],.int .u64 z])∧Below w.heap.size w w')))) (w:World) :
  Calls Tryz.prog 139 #[.agg #[.int .u64 (l0 m),.int .u64 (l1 m),.int .u64 (l2 m),.int .u64 (l3 m),.int .u64 (l0 c),.int .u64 (l1 c),.int .u64 (l2 c),.int .u64 (l3 c)],.agg #[.int .u64 (l0 x),.int .u64 (l1 x),.int .u64 (l2 x),.int .u64 (l3 x)],.agg #[.int .u64 (l0 y),.int .u64 (l1 y),.int .u64 (l2 y),.int .u64 (l3 y)]] w fun e w'=>e = .returned (.agg #[.int .u64 (l0 r),.int .u64 (l1 r),.int .u64 (l2 r),.int .u64 (l3 r)])∧Below w.heap.size w w':=by
 go_enter Tryz.func139,Tryz.ntmps139
 go_wp2_with fail
 refine aj (fun W=>Below w.heap.size w W∧aw W w.heap.size m c∧ae W (w.heap.size+1) x∧ae W (w.heap.size+1+1) y∧af W (w.heap.size+1+1+1)) ⟨by repeat (first|with_reducible exact Below.refl _ _|with_reducible refine Below.alloc ?_ (by first|omega|(simp;done)|(simp;omega)) _),(((aw.new w m c _).alloc _).alloc _).alloc _,((ae.fresh (by simp)).alloc _).alloc _,(ae.fresh (by simp)).alloc _,af.new (by simp)⟩ ?_
 rintro W ⟨B,hF,hX,hY,hR⟩
 have o3:w.heap.size≤w.heap.size+1+1+1:=by omega
 generalize w.heap.size+1+1+1=br at *
 generalize w.heap.size+1+1=bw at *
 generalize w.heap.size+1=bx at *
 generalize hbf:w.heap.size=bf at *
 have gF:=hF.cells;have gX:=hX.cells;have gY:=hY.cells
 have lf:bf<W.heap.size:=hF.lt
 have lx:bx<W.heap.size:=World.block_lt_of_cell? W _ hX.1
 have ly:bw<W.heap.size:=World.block_lt_of_cell? W _ hY.1
 have lr:br<W.heap.size:=hR.1.lt (by simp)
 have BB:Hid (Below bf w W):=B
 have HF:Hid (aw W bf m c):=hF
 have HR:Hid (af W br):=hR
 have geB:bf≤W.heap.size:=by omega
 clear B hF hX hY hR
 refine pz (fun a' W'=>∃ bs,Below bf w W'∧aw W' bf m c∧af W' br∧ae W' bs s∧a'={ tmps:=#[.agg #[.int .u64 (l0 m),.int .u64 (l1 m),.int .u64 (l2 m),.int .u64 (l3 m),.int .u64 (l0 c),.int .u64 (l1 c),.int .u64 (l2 c),.int .u64 (l3 c)],.agg #[.int .u64 (l0 x),.int .u64 (l1 x),.int .u64 (l2 x),.int .u64 (l3 x)],.agg #[.int .u64 (l0 y),.int .u64 (l1 y),.int .u64 (l2 y),.int .u64 (l3 y)],.pointer (some { block:=bf,off:=0 }),.pointer (some { block:=bx,off:=0 }),.pointer (some { block:=bw,off:=0 }),.pointer (some { block:=br,off:=0 }),.pointer (some { block:=bs,off:=0 }),.int .u64 k,Go.undef,Go.undef,.tuple #[.agg #[.int .u64 (l0 s),.int .u64 (l1 s),.int .u64 (l2 s),.int .u64 (l3 s)],.int .u64 k],.agg #[.int .u64 (l0 m),.int .u64 (l1 m),.int .u64 (l2 m),.int .u64 (l3 m),.int .u64 (l0 c),.int .u64 (l1 c),.int .u64 (l2 c),.int .u64 (l3 c)],.agg #[.int .u64 (l0 x),.int .u64 (l1 x),.int .u64 (l2 x),.int .u64 (l3 x)],.agg #[.int .u64 (l0 a),.int .u64 (l1 a),.int .u64 (l2 a),.int .u64 (l3 a)],.agg #[.int .u64 (l0 m),.int .u64 (l1 m),.int .u64 (l2 m),.int .u64 (l3 m),.int .u64 (l0 c),.int .u64 (l1 c),.int .u64 (l2 c),.int .u64 (l3 c)],.agg #[.int .u64 (l0 y),.int .u64 (l1 y),.int .u64 (l2 y),.int .u64 (l3 y)],.agg #[.int .u64 (l0 b),.int .u64 (l1 b),.int .u64 (l2 b),.int .u64 (l3 b)],.tuple #[.agg #[.int .u64 (l0 s),.int .u64 (l1 s),.int .u64 (l2 s),.int .u64 (l3 s)],.int .u64 k],.agg #[.int .u64 (l0 s),.int .u64 (l1 s),.int .u64 (l2 s),.int .u64 (l3 s)],.int .u64 k,Go.undef,Go.undef,Go.undef,Go.undef,Go.undef,Go.undef,Go.undef,Go.undef,Go.undef,Go.undef,Go.undef,Go.undef,Go.undef],defers:=[] }) ?_ ?_
 ·have dz:W.drew.heap.size=W.heap.size:=rfl
  clear K4
  have _:bf<W.heap.size:=by omega
  have _:bf≤W.heap.size:=by omega
  have _:bf<W.heap.size+1:=by omega
  have _:bf<W.heap.size+1+1:=by omega
  have _:bf≠W.heap.size:=by omega
  have _:W.heap.size≠bf:=by omega
  have _:bf≠W.heap.size+1:=by omega
  have _:W.heap.size+1≠bf:=by omega
  have _:bx<W.heap.size:=by omega
  have _:bx≤W.heap.size:=by omega
  have _:bx<W.heap.size+1:=by omega
  have _:bx<W.heap.size+1+1:=by omega
  have _:bx≠W.heap.size:=by omega
  have _:W.heap.size≠bx:=by omega
  have _:bx≠W.heap.size+1:=by omega
  have _:W.heap.size+1≠bx:=by omega
  have _:bw<W.heap.size:=by omega
  have _:bw≤W.heap.size:=by omega
  have _:bw<W.heap.size+1:=by omega
  have _:bw<W.heap.size+1+1:=by omega
  have _:bw≠W.heap.size:=by omega
  have _:W.heap.size≠bw:=by omega
  have _:bw≠W.heap.size+1:=by omega
  have _:W.heap.size+1≠bw:=by omega
  have _:br<W.heap.size:=by omega
  have _:br≤W.heap.size:=by omega
  have _:br<W.heap.size+1:=by omega
  have _:br<W.heap.size+1+1:=by omega
  have _:br≠W.heap.size:=by omega
  have _:W.heap.size≠br:=by omega
  have _:br≠W.heap.size+1:=by omega
  have _:W.heap.size+1≠br:=by omega
  go_region_held3 (fun w'=>w'.cell? ⟨bf,0,none⟩=some (.int .u64 (l0 m))∧w'.cell? ⟨bf,1,none⟩=some (.int .u64 (l1 m))∧w'.cell? ⟨bf,2,none⟩=some (.int .u64 (l2 m))∧w'.cell? ⟨bf,3,none⟩=some (.int .u64 (l3 m))∧w'.cell? ⟨bf,4,none⟩=some (.int .u64 (l0 c))∧w'.cell? ⟨bf,5,none⟩=some (.int .u64 (l1 c))∧w'.cell? ⟨bf,6,none⟩=some (.int .u64 (l2 c))∧w'.cell? ⟨bf,7,none⟩=some (.int .u64 (l3 c))∧w'.cell? ⟨bx,0,none⟩=some (.int .u64 (l0 x))∧w'.cell? ⟨bx,1,none⟩=some (.int .u64 (l1 x))∧w'.cell? ⟨bx,2,none⟩=some (.int .u64 (l2 x))∧w'.cell? ⟨bx,3,none⟩=some (.int .u64 (l3 x))∧w'.cell? ⟨bw,0,none⟩=some (.int .u64 (l0 y))∧w'.cell? ⟨bw,1,none⟩=some (.int .u64 (l1 y))∧w'.cell? ⟨bw,2,none⟩=some (.int .u64 (l2 y))∧w'.cell? ⟨bw,3,none⟩=some (.int .u64 (l3 y))) (((try dsimp only);(repeat' (apply And.intro));(all_goals repeat (first|with_reducible assumption|with_reducible apply cell_keep hb3|with_reducible apply cell_keep hb2|with_reducible apply cell_keep hb1|with_reducible apply cell_alloc|(with_reducible refine cell_set ?_ (by with_reducible assumption))|(simp [go_sem, *];done)))))
   (first
    | (go_at_call 128;with_reducible refine (K1.out _).mono ?_;rintro e w1 ⟨rfl,hb1⟩;have hc1:=al hb1;have hz1:=hb1.size;(try simp at hz1);(try (have:=fun j=>al hb1 (W.heap.size) j (by first|omega|(simp;done)|(simp;omega))));(try (have:=fun j=>al hb1 (W.heap.size+1) j (by first|omega|(simp;done)|(simp;omega))));have _:bf<w1.heap.size:=(by omega);have _:bf≤w1.heap.size:=(by omega);have _:bf<w1.heap.size+1:=(by omega);have _:bf<w1.heap.size+1+1:=(by omega);have _:bf≠w1.heap.size:=(by omega);have _:w1.heap.size≠bf:=(by omega);have _:bf≠w1.heap.size+1:=(by omega);have _:w1.heap.size+1≠bf:=(by omega);have _:bx<w1.heap.size:=(by omega);have _:bx≤w1.heap.size:=(by omega);have _:bx<w1.heap.size+1:=(by omega);have _:bx<w1.heap.size+1+1:=(by omega);have _:bx≠w1.heap.size:=(by omega);have _:w1.heap.size≠bx:=(by omega);have _:bx≠w1.heap.size+1:=(by omega);have _:w1.heap.size+1≠bx:=(by omega);have _:bw<w1.heap.size:=(by omega);have _:bw≤w1.heap.size:=(by omega);have _:bw<w1.heap.size+1:=(by omega);have _:bw<w1.heap.size+1+1:=(by omega);have _:bw≠w1.heap.size:=(by omega);have _:w1.heap.size≠bw:=(by omega);have _:bw≠w1.heap.size+1:=(by omega);have _:w1.heap.size+1≠bw:=(by omega);have _:br<w1.heap.size:=(by omega);have _:br≤w1.heap.size:=(by omega);have _:br<w1.heap.size+1:=(by omega);have _:br<w1.heap.size+1+1:=(by omega);have _:br≠w1.heap.size:=(by omega);have _:w1.heap.size≠br:=(by omega);have _:br≠w1.heap.size+1:=(by omega);have _:w1.heap.size+1≠br:=(by omega);(try (have _:W.heap.size<w1.heap.size:=(by omega)));(try (have _:W.heap.size≤w1.heap.size:=(by omega)));(try (have _:W.heap.size≠w1.heap.size:=(by omega)));(try (have _:w1.heap.size≠W.heap.size:=(by omega)));(try (have _:W.heap.size<w1.heap.size+1:=(by omega)));(try (have _:W.heap.size+1<w1.heap.size:=(by omega)));(try (have _:W.heap.size+1≤w1.heap.size:=(by omega)));(try (have _:W.heap.size+1≠w1.heap.size:=(by omega)));(try (have _:w1.heap.size≠W.heap.size+1:=(by omega)));(try (have _:W.heap.size+1<w1.heap.size+1:=(by omega))))
    | (go_at_call 128;with_reducible refine (K2.out _).mono ?_;rintro e w2 ⟨rfl,hb2⟩;have hc2:=al hb2;have hz2:=hb2.size;(try simp at hz2);(try (have:=fun j=>al hb2 (W.heap.size) j (by first|omega|(simp;done)|(simp;omega))));(try (have:=fun j=>al hb2 (W.heap.size+1) j (by first|omega|(simp;done)|(simp;omega))));(try (have:=fun j=>al hb2 (w1.heap.size) j (by first|omega|(simp;done)|(simp;omega))));(try (have:=fun j=>al hb2 (w1.heap.size+1) j (by first|omega|(simp;done)|(simp;omega))));have _:bf<w2.heap.size:=(by omega);have _:bf≤w2.heap.size:=(by omega);have _:bf<w2.heap.size+1:=(by omega);have _:bf<w2.heap.size+1+1:=(by omega);have _:bf≠w2.heap.size:=(by omega);have _:w2.heap.size≠bf:=(by omega);have _:bf≠w2.heap.size+1:=(by omega);have _:w2.heap.size+1≠bf:=(by omega);have _:bx<w2.heap.size:=(by omega);have _:bx≤w2.heap.size:=(by omega);have _:bx<w2.heap.size+1:=(by omega);have _:bx<w2.heap.size+1+1:=(by omega);have _:bx≠w2.heap.size:=(by omega);have _:w2.heap.size≠bx:=(by omega);have _:bx≠w2.heap.size+1:=(by omega);have _:w2.heap.size+1≠bx:=(by omega);have _:bw<w2.heap.size:=(by omega);have _:bw≤w2.heap.size:=(by omega);have _:bw<w2.heap.size+1:=(by omega);have _:bw<w2.heap.size+1+1:=(by omega);have _:bw≠w2.heap.size:=(by omega);have _:w2.heap.size≠bw:=(by omega);have _:bw≠w2.heap.size+1:=(by omega);have _:w2.heap.size+1≠bw:=(by omega);have _:br<w2.heap.size:=(by omega);have _:br≤w2.heap.size:=(by omega);have _:br<w2.heap.size+1:=(by omega);have _:br<w2.heap.size+1+1:=(by omega);have _:br≠w2.heap.size:=(by omega);have _:w2.heap.size≠br:=(by omega);have _:br≠w2.heap.size+1:=(by omega);have _:w2.heap.size+1≠br:=(by omega);(try (have _:W.heap.size<w2.heap.size:=(by omega)));(try (have _:W.heap.size≤w2.heap.size:=(by omega)));(try (have _:W.heap.size≠w2.heap.size:=(by omega)));(try (have _:w2.heap.size≠W.heap.size:=(by omega)));(try (have _:W.heap.size<w2.heap.size+1:=(by omega)));(try (have _:W.heap.size+1<w2.heap.size:=(by omega)));(try (have _:W.heap.size+1≤w2.heap.size:=(by omega)));(try (have _:W.heap.size+1≠w2.heap.size:=(by omega)));(try (have _:w2.heap.size≠W.heap.size+1:=(by omega)));(try (have _:W.heap.size+1<w2.heap.size+1:=(by omega)));(try (have _:w1.heap.size<w2.heap.size:=(by omega)));(try (have _:w1.heap.size≤w2.heap.size:=(by omega)));(try (have _:w1.heap.size≠w2.heap.size:=(by omega)));(try (have _:w2.heap.size≠w1.heap.size:=(by omega)));(try (have _:w1.heap.size<w2.heap.size+1:=(by omega)));(try (have _:w1.heap.size+1<w2.heap.size:=(by omega)));(try (have _:w1.heap.size+1≤w2.heap.size:=(by omega)));(try (have _:w1.heap.size+1≠w2.heap.size:=(by omega)));(try (have _:w2.heap.size≠w1.heap.size+1:=(by omega)));(try (have _:w1.heap.size+1<w2.heap.size+1:=(by omega))))
    | (go_at_call 131;with_reducible refine (K3.out _).mono ?_;rintro e w3 ⟨rfl,hb3⟩;have hc3:=al hb3;have hz3:=hb3.size;(try simp at hz3);(try (have:=fun j=>al hb3 (W.heap.size) j (by first|omega|(simp;done)|(simp;omega))));(try (have:=fun j=>al hb3 (W.heap.size+1) j (by first|omega|(simp;done)|(simp;omega))));(try (have:=fun j=>al hb3 (w1.heap.size) j (by first|omega|(simp;done)|(simp;omega))));(try (have:=fun j=>al hb3 (w1.heap.size+1) j (by first|omega|(simp;done)|(simp;omega))));(try (have:=fun j=>al hb3 (w2.heap.size) j (by first|omega|(simp;done)|(simp;omega))));(try (have:=fun j=>al hb3 (w2.heap.size+1) j (by first|omega|(simp;done)|(simp;omega))));have _:bf<w3.heap.size:=(by omega);have _:bf≤w3.heap.size:=(by omega);have _:bf<w3.heap.size+1:=(by omega);have _:bf<w3.heap.size+1+1:=(by omega);have _:bf≠w3.heap.size:=(by omega);have _:w3.heap.size≠bf:=(by omega);have _:bf≠w3.heap.size+1:=(by omega);have _:w3.heap.size+1≠bf:=(by omega);have _:bx<w3.heap.size:=(by omega);have _:bx≤w3.heap.size:=(by omega);have _:bx<w3.heap.size+1:=(by omega);have _:bx<w3.heap.size+1+1:=(by omega);have _:bx≠w3.heap.size:=(by omega);have _:w3.heap.size≠bx:=(by omega);have _:bx≠w3.heap.size+1:=(by omega);have _:w3.heap.size+1≠bx:=(by omega);have _:bw<w3.heap.size:=(by omega);have _:bw≤w3.heap.size:=(by omega);have _:bw<w3.heap.size+1:=(by omega);have _:bw<w3.heap.size+1+1:=(by omega);have _:bw≠w3.heap.size:=(by omega);have _:w3.heap.size≠bw:=(by omega);have _:bw≠w3.heap.size+1:=(by omega);have _:w3.heap.size+1≠bw:=(by omega);have _:br<w3.heap.size:=(by omega);have _:br≤w3.heap.size:=(by omega);have _:br<w3.heap.size+1:=(by omega);have _:br<w3.heap.size+1+1:=(by omega);have _:br≠w3.heap.size:=(by omega);have _:w3.heap.size≠br:=(by omega);have _:br≠w3.heap.size+1:=(by omega);have _:w3.heap.size+1≠br:=(by omega);(try (have _:W.heap.size<w3.heap.size:=(by omega)));(try (have _:W.heap.size≤w3.heap.size:=(by omega)));(try (have _:W.heap.size≠w3.heap.size:=(by omega)));(try (have _:w3.heap.size≠W.heap.size:=(by omega)));(try (have _:W.heap.size<w3.heap.size+1:=(by omega)));(try (have _:W.heap.size+1<w3.heap.size:=(by omega)));(try (have _:W.heap.size+1≤w3.heap.size:=(by omega)));(try (have _:W.heap.size+1≠w3.heap.size:=(by omega)));(try (have _:w3.heap.size≠W.heap.size+1:=(by omega)));(try (have _:W.heap.size+1<w3.heap.size+1:=(by omega)));(try (have _:w1.heap.size<w3.heap.size:=(by omega)));(try (have _:w1.heap.size≤w3.heap.size:=(by omega)));(try (have _:w1.heap.size≠w3.heap.size:=(by omega)));(try (have _:w3.heap.size≠w1.heap.size:=(by omega)));(try (have _:w1.heap.size<w3.heap.size+1:=(by omega)));(try (have _:w1.heap.size+1<w3.heap.size:=(by omega)));(try (have _:w1.heap.size+1≤w3.heap.size:=(by omega)));(try (have _:w1.heap.size+1≠w3.heap.size:=(by omega)));(try (have _:w3.heap.size≠w1.heap.size+1:=(by omega)));(try (have _:w1.heap.size+1<w3.heap.size+1:=(by omega)));(try (have _:w2.heap.size<w3.heap.size:=(by omega)));(try (have _:w2.heap.size≤w3.heap.size:=(by omega)));(try (have _:w2.heap.size≠w3.heap.size:=(by omega)));(try (have _:w3.heap.size≠w2.heap.size:=(by omega)));(try (have _:w2.heap.size<w3.heap.size+1:=(by omega)));(try (have _:w2.heap.size+1<w3.heap.size:=(by omega)));(try (have _:w2.heap.size+1≤w3.heap.size:=(by omega)));(try (have _:w2.heap.size+1≠w3.heap.size:=(by omega)));(try (have _:w3.heap.size≠w2.heap.size+1:=(by omega)));(try (have _:w2.heap.size+1<w3.heap.size+1:=(by omega)))))
  all_goals (refine rC.intro ⟨_,?_,?_,?_,?_,rfl⟩)
  all_goals repeat (first|with_reducible exact BB.out|with_reducible exact HF.out|with_reducible exact HR.out|with_reducible refine ae.fresh (by first|rfl|(simp;done)|fail)|with_reducible refine ae.sets4 ?_|with_reducible refine ae.alloc ?_ _|with_reducible refine ae.drew ?_|with_reducible refine aw.alloc ?_ _|with_reducible refine aw.drew ?_|with_reducible refine aw.set4 ?_ (by with_reducible assumption) _ _ _ _|with_reducible refine af.alloc ?_ _|with_reducible refine af.drew ?_|with_reducible refine af.set4 ?_ (by with_reducible assumption) _ _ _ _|with_reducible refine fF hbf ?_ _|with_reducible refine Below.drew ?_|with_reducible refine Below.setCell ?_ (by with_reducible assumption) _|with_reducible refine Has.fresh (by first|rfl|(simp;done)|fail) (by first|(simp;done)|fail)|with_reducible refine Has.alloc ?_ _|with_reducible refine Has.drew ?_|with_reducible refine Has.keep ?_ hb3|with_reducible refine ae.keep ?_ hb3|with_reducible refine aw.keep ?_ hb3|with_reducible refine af.keep ?_ hb3|with_reducible refine ck hbf ?_ hb3|with_reducible refine Has.keep ?_ hb2|with_reducible refine ae.keep ?_ hb2|with_reducible refine aw.keep ?_ hb2|with_reducible refine af.keep ?_ hb2|with_reducible refine ck hbf ?_ hb2|with_reducible refine Has.keep ?_ hb1|with_reducible refine ae.keep ?_ hb1|with_reducible refine aw.keep ?_ hb1|with_reducible refine af.keep ?_ hb1|with_reducible refine ck hbf ?_ hb1)
 rintro _ W1 ⟨bs,B,hF,hR,hS,rfl⟩
 subst hbf
 clear BB HF HR gF gX gY lf lx ly lr geB K1 K2 K3 W
 have gF:=hF.cells;have gS:=hS.cells
 rcases K4.out with ⟨rfl,K5⟩|⟨rfl,K5⟩
 ·go_wp2_with fail
  with_reducible refine (K5.out _).mono ?_
  rintro e w1 ⟨rfl,hb⟩
  replace B:=B.trans (hb.mono B.size)
  replace hR:=hR.keep hb
  clear hb gF gS hF hS
  have gR:=hR.1.all4;have fR:=hR.2.all4
  go_wp2
  simp [bodyPost,results,Tryz.results139,go_sem,gR]
  exact ak B o3 _ _ _ _
 ·go_wp2_with fail
  with_reducible refine (K5.out _).mono ?_
  rintro e w1 ⟨rfl,hb⟩
  replace B:=B.trans (hb.mono B.size)
  replace hR:=hR.keep hb
  clear hb gF gS hF hS
  have gR:=fun o=>(hR.alloc o).1.all4
  have fR:=fun o=>(hR.alloc o).2.all4
  have BB:Hid (∀ o,Below w.heap.size w (w1.alloc o)):=fun o=>B.alloc B.size o
  clear B hR
  go_wp2
  simp [bodyPost,results,Tryz.results139,go_sem, *]
  repeat (first|with_reducible exact BB.out _|with_reducible refine Below.drew ?_|with_reducible refine Below.setCell ?_ (by with_reducible assumption) _)
theorem tO {m c x y:Int} (hf:Fit m c) (hx:Num x) (hy:Num y) (w:World) :
  Calls Tryz.prog 139 #[.agg #[.int .u64 (l0 m),.int .u64 (l1 m),.int .u64 (l2 m),.int .u64 (l3 m),.int .u64 (l0 c),.int .u64 (l1 c),.int .u64 (l2 c),.int .u64 (l3 c)],.agg #[.int .u64 (l0 x),.int .u64 (l1 x),.int .u64 (l2 x),.int .u64 (l3 x)],.agg #[.int .u64 (l0 y),.int .u64 (l1 y),.int .u64 (l2 y),.int .u64 (l3 y)]] w fun e w'=>e = .returned (.agg #[.int .u64 (l0 (ac m (x+y))),.int .u64 (l1 (ac m (x+y))),.int .u64 (l2 (ac m (x+y))),.int .u64 (l3 (ac m (x+y)))])∧Below w.heap.size w w':=by
 have na:=ag hf x
 have nb:=ag hf y
 have T:∀ w,Calls Tryz.prog 131 #[.agg #[.int .u64 (l0 (ac m x)),.int .u64 (l1 (ac m x)),.int .u64 (l2 (ac m x)),.int .u64 (l3 (ac m x))],.agg #[.int .u64 (l0 (ac m y)),.int .u64 (l1 (ac m y)),.int .u64 (l2 (ac m y)),.int .u64 (l3 (ac m y))]] w fun e w'=>e = .returned (.tuple #[.agg #[.int .u64 (l0 (dF (ac m x) (ac m y))),.int .u64 (l1 (dF (ac m x) (ac m y))),.int .u64 (l2 (dF (ac m x) (ac m y))),.int .u64 (l3 (dF (ac m x) (ac m y)))],.int .u64 (cW (ac m x) (ac m y))])∧Below w.heap.size w w':=fun w=>iC na nb w
 refine rG (z:=eJ (dF (ac m x) (ac m y)) m) (dn hf hx) (dn hf hy) T ?_ w
 rcases tM (x:=x) (y:=y) hf with ⟨k1,k2⟩|⟨k1,k2⟩
 ·exact .inl ⟨k1,by rw [k2];exact dn hf (nF _ _)⟩
 ·exact .inr ⟨k1,by rw [k2];exact fun w=>gf (nF _ _) hf.num w⟩
theorem rH {m c x y a b s r k z:Int} (K1:Hid (∀ w,Calls Tryz.prog 128 #[.agg #[.int .u64 (l0 m),.int .u64 (l1 m),.int .u64 (l2 m),.int .u64 (l3 m),.int .u64 (l0 c),.int .u64 (l1 c),.int .u64 (l2 c),.int .u64 (l3 c)],.agg #[.int .u64 (l0 x),.int .u64 (l1 x),.int .u64 (l2 x),.int .u64 (l3 x)]] w fun e w'=>e = .returned (.agg #[.int .u64 (l0 a),.int .u64 (l1 a),.int .u64 (l2 a),.int .u64 (l3 a)])∧Below w.heap.size w w')) (K2:Hid (∀ w,Calls Tryz.prog 128 #[.agg #[.int .u64 (l0 m),.int .u64 (l1 m),.int .u64 (l2 m),.int .u64 (l3 m),.int .u64 (l0 c),.int .u64 (l1 c),.int .u64 (l2 c),.int .u64 (l3 c)],.agg #[.int .u64 (l0 y),.int .u64 (l1 y),.int .u64 (l2 y),.int .u64 (l3 y)]] w fun e w'=>e = .returned (.agg #[.int .u64 (l0 b),.int .u64 (l1 b),.int .u64 (l2 b),.int .u64 (l3 b)])∧Below w.heap.size w w')) (K3:Hid (∀ w,Calls Tryz.prog 96 #[.agg #[.int .u64 (l0 a),.int .u64 (l1 a),.int .u64 (l2 a),.int .u64 (l3 a)],.agg #[.int .u64 (l0 b),.int .u64 (l1 b),.int .u64 (l2 b),.int .u64 (l3 b)]] w fun e w'=>e = .returned (.tuple #[.agg #[.int .u64 (l0 s),.int .u64 (l1 s),.int .u64 (l2 s),.int .u64 (l3 s)],.int .u64 k])∧Below w.heap.size w w')) (K4:Hid ((k=0∧s=r)∨(k=1∧Hid (∀ w,Calls Tryz.prog 131 #[.agg #[.int .u64 (l0 s),.int .u64 (l1 s),.int .u64 (l2 s),.int .u64 (l3 s)],.agg #[.int .u64 (l0 m),.int .u64 (l1 m),.int .u64 (l2 m),.int .u64 (l3 m)]] w fun e w'=>e = .returned (.tuple #[.agg #[.int .u64 (l0 r),.int .u64 (l1 r),.int .u64 (l2 r),.int .u64 (l3 r)],.int .u64 z])∧Below w.heap.size w w')))) (w:World) :
  Calls Tryz.prog 134 #[.agg #[.int .u64 (l0 m),.int .u64 (l1 m),.int .u64 (l2 m),.int .u64 (l3 m),.int .u64 (l0 c),.int .u64 (l1 c),.int .u64 (l2 c),.int .u64 (l3 c)],.agg #[.int .u64 (l0 x),.int .u64 (l1 x),.int .u64 (l2 x),.int .u64 (l3 x)],.agg #[.int .u64 (l0 y),.int .u64 (l1 y),.int .u64 (l2 y),.int .u64 (l3 y)]] w fun e w'=>e = .returned (.agg #[.int .u64 (l0 r),.int .u64 (l1 r),.int .u64 (l2 r),.int .u64 (l3 r)])∧Below w.heap.size w w':=by
 go_enter Tryz.func134,Tryz.ntmps134
 go_wp2_with fail
 refine aj (fun W=>Below w.heap.size w W∧aw W w.heap.size m c∧ae W (w.heap.size+1) x∧ae W (w.heap.size+1+1) y∧af W (w.heap.size+1+1+1)) ⟨by repeat (first|with_reducible exact Below.refl _ _|with_reducible refine Below.alloc ?_ (by first|omega|(simp;done)|(simp;omega)) _),(((aw.new w m c _).alloc _).alloc _).alloc _,((ae.fresh (by simp)).alloc _).alloc _,(ae.fresh (by simp)).alloc _,af.new (by simp)⟩ ?_
 rintro W ⟨B,hF,hX,hY,hR⟩
 have o3:w.heap.size≤w.heap.size+1+1+1:=by omega
 generalize w.heap.size+1+1+1=br at *
 generalize w.heap.size+1+1=bw at *
 generalize w.heap.size+1=bx at *
 generalize hbf:w.heap.size=bf at *
 have gF:=hF.cells;have gX:=hX.cells;have gY:=hY.cells
 have lf:bf<W.heap.size:=hF.lt
 have lx:bx<W.heap.size:=World.block_lt_of_cell? W _ hX.1
 have ly:bw<W.heap.size:=World.block_lt_of_cell? W _ hY.1
 have lr:br<W.heap.size:=hR.1.lt (by simp)
 have BB:Hid (Below bf w W):=B
 have HF:Hid (aw W bf m c):=hF
 have HR:Hid (af W br):=hR
 have geB:bf≤W.heap.size:=by omega
 clear B hF hX hY hR
 refine pz (fun a' W'=>∃ bs,Below bf w W'∧aw W' bf m c∧af W' br∧ae W' bs s∧a'={ tmps:=#[.agg #[.int .u64 (l0 m),.int .u64 (l1 m),.int .u64 (l2 m),.int .u64 (l3 m),.int .u64 (l0 c),.int .u64 (l1 c),.int .u64 (l2 c),.int .u64 (l3 c)],.agg #[.int .u64 (l0 x),.int .u64 (l1 x),.int .u64 (l2 x),.int .u64 (l3 x)],.agg #[.int .u64 (l0 y),.int .u64 (l1 y),.int .u64 (l2 y),.int .u64 (l3 y)],.pointer (some { block:=bf,off:=0 }),.pointer (some { block:=bx,off:=0 }),.pointer (some { block:=bw,off:=0 }),.pointer (some { block:=br,off:=0 }),.pointer (some { block:=bs,off:=0 }),.int .u64 k,Go.undef,Go.undef,.tuple #[.agg #[.int .u64 (l0 s),.int .u64 (l1 s),.int .u64 (l2 s),.int .u64 (l3 s)],.int .u64 k],.agg #[.int .u64 (l0 m),.int .u64 (l1 m),.int .u64 (l2 m),.int .u64 (l3 m),.int .u64 (l0 c),.int .u64 (l1 c),.int .u64 (l2 c),.int .u64 (l3 c)],.agg #[.int .u64 (l0 x),.int .u64 (l1 x),.int .u64 (l2 x),.int .u64 (l3 x)],.agg #[.int .u64 (l0 a),.int .u64 (l1 a),.int .u64 (l2 a),.int .u64 (l3 a)],.agg #[.int .u64 (l0 m),.int .u64 (l1 m),.int .u64 (l2 m),.int .u64 (l3 m),.int .u64 (l0 c),.int .u64 (l1 c),.int .u64 (l2 c),.int .u64 (l3 c)],.agg #[.int .u64 (l0 y),.int .u64 (l1 y),.int .u64 (l2 y),.int .u64 (l3 y)],.agg #[.int .u64 (l0 b),.int .u64 (l1 b),.int .u64 (l2 b),.int .u64 (l3 b)],.tuple #[.agg #[.int .u64 (l0 s),.int .u64 (l1 s),.int .u64 (l2 s),.int .u64 (l3 s)],.int .u64 k],.agg #[.int .u64 (l0 s),.int .u64 (l1 s),.int .u64 (l2 s),.int .u64 (l3 s)],.int .u64 k,Go.undef,Go.undef,Go.undef,Go.undef,Go.undef,Go.undef,Go.undef,Go.undef,Go.undef,Go.undef,Go.undef],defers:=[] }) ?_ ?_
 ·have dz:W.drew.heap.size=W.heap.size:=rfl
  clear K4
  have _:bf<W.heap.size:=by omega
  have _:bf≤W.heap.size:=by omega
  have _:bf<W.heap.size+1:=by omega
  have _:bf<W.heap.size+1+1:=by omega
  have _:bf≠W.heap.size:=by omega
  have _:W.heap.size≠bf:=by omega
  have _:bf≠W.heap.size+1:=by omega
  have _:W.heap.size+1≠bf:=by omega
  have _:bx<W.heap.size:=by omega
  have _:bx≤W.heap.size:=by omega
  have _:bx<W.heap.size+1:=by omega
  have _:bx<W.heap.size+1+1:=by omega
  have _:bx≠W.heap.size:=by omega
  have _:W.heap.size≠bx:=by omega
  have _:bx≠W.heap.size+1:=by omega
  have _:W.heap.size+1≠bx:=by omega
  have _:bw<W.heap.size:=by omega
  have _:bw≤W.heap.size:=by omega
  have _:bw<W.heap.size+1:=by omega
  have _:bw<W.heap.size+1+1:=by omega
  have _:bw≠W.heap.size:=by omega
  have _:W.heap.size≠bw:=by omega
  have _:bw≠W.heap.size+1:=by omega
  have _:W.heap.size+1≠bw:=by omega
  have _:br<W.heap.size:=by omega
  have _:br≤W.heap.size:=by omega
  have _:br<W.heap.size+1:=by omega
  have _:br<W.heap.size+1+1:=by omega
  have _:br≠W.heap.size:=by omega
  have _:W.heap.size≠br:=by omega
  have _:br≠W.heap.size+1:=by omega
  have _:W.heap.size+1≠br:=by omega
  go_region_held3 (fun w'=>w'.cell? ⟨bf,0,none⟩=some (.int .u64 (l0 m))∧w'.cell? ⟨bf,1,none⟩=some (.int .u64 (l1 m))∧w'.cell? ⟨bf,2,none⟩=some (.int .u64 (l2 m))∧w'.cell? ⟨bf,3,none⟩=some (.int .u64 (l3 m))∧w'.cell? ⟨bf,4,none⟩=some (.int .u64 (l0 c))∧w'.cell? ⟨bf,5,none⟩=some (.int .u64 (l1 c))∧w'.cell? ⟨bf,6,none⟩=some (.int .u64 (l2 c))∧w'.cell? ⟨bf,7,none⟩=some (.int .u64 (l3 c))∧w'.cell? ⟨bx,0,none⟩=some (.int .u64 (l0 x))∧w'.cell? ⟨bx,1,none⟩=some (.int .u64 (l1 x))∧w'.cell? ⟨bx,2,none⟩=some (.int .u64 (l2 x))∧w'.cell? ⟨bx,3,none⟩=some (.int .u64 (l3 x))∧w'.cell? ⟨bw,0,none⟩=some (.int .u64 (l0 y))∧w'.cell? ⟨bw,1,none⟩=some (.int .u64 (l1 y))∧w'.cell? ⟨bw,2,none⟩=some (.int .u64 (l2 y))∧w'.cell? ⟨bw,3,none⟩=some (.int .u64 (l3 y))) (((try dsimp only);(repeat' (apply And.intro));(all_goals repeat (first|with_reducible assumption|with_reducible apply cell_keep hb3|with_reducible apply cell_keep hb2|with_reducible apply cell_keep hb1|with_reducible apply cell_alloc|(with_reducible refine cell_set ?_ (by with_reducible assumption))|(simp [go_sem, *];done)))))
   (first
    | (go_at_call 128;with_reducible refine (K1.out _).mono ?_;rintro e w1 ⟨rfl,hb1⟩;have hc1:=al hb1;have hz1:=hb1.size;(try simp at hz1);(try (have:=fun j=>al hb1 (W.heap.size) j (by first|omega|(simp;done)|(simp;omega))));(try (have:=fun j=>al hb1 (W.heap.size+1) j (by first|omega|(simp;done)|(simp;omega))));have _:bf<w1.heap.size:=(by omega);have _:bf≤w1.heap.size:=(by omega);have _:bf<w1.heap.size+1:=(by omega);have _:bf<w1.heap.size+1+1:=(by omega);have _:bf≠w1.heap.size:=(by omega);have _:w1.heap.size≠bf:=(by omega);have _:bf≠w1.heap.size+1:=(by omega);have _:w1.heap.size+1≠bf:=(by omega);have _:bx<w1.heap.size:=(by omega);have _:bx≤w1.heap.size:=(by omega);have _:bx<w1.heap.size+1:=(by omega);have _:bx<w1.heap.size+1+1:=(by omega);have _:bx≠w1.heap.size:=(by omega);have _:w1.heap.size≠bx:=(by omega);have _:bx≠w1.heap.size+1:=(by omega);have _:w1.heap.size+1≠bx:=(by omega);have _:bw<w1.heap.size:=(by omega);have _:bw≤w1.heap.size:=(by omega);have _:bw<w1.heap.size+1:=(by omega);have _:bw<w1.heap.size+1+1:=(by omega);have _:bw≠w1.heap.size:=(by omega);have _:w1.heap.size≠bw:=(by omega);have _:bw≠w1.heap.size+1:=(by omega);have _:w1.heap.size+1≠bw:=(by omega);have _:br<w1.heap.size:=(by omega);have _:br≤w1.heap.size:=(by omega);have _:br<w1.heap.size+1:=(by omega);have _:br<w1.heap.size+1+1:=(by omega);have _:br≠w1.heap.size:=(by omega);have _:w1.heap.size≠br:=(by omega);have _:br≠w1.heap.size+1:=(by omega);have _:w1.heap.size+1≠br:=(by omega);(try (have _:W.heap.size<w1.heap.size:=(by omega)));(try (have _:W.heap.size≤w1.heap.size:=(by omega)));(try (have _:W.heap.size≠w1.heap.size:=(by omega)));(try (have _:w1.heap.size≠W.heap.size:=(by omega)));(try (have _:W.heap.size<w1.heap.size+1:=(by omega)));(try (have _:W.heap.size+1<w1.heap.size:=(by omega)));(try (have _:W.heap.size+1≤w1.heap.size:=(by omega)));(try (have _:W.heap.size+1≠w1.heap.size:=(by omega)));(try (have _:w1.heap.size≠W.heap.size+1:=(by omega)));(try (have _:W.heap.size+1<w1.heap.size+1:=(by omega))))
    | (go_at_call 128;with_reducible refine (K2.out _).mono ?_;rintro e w2 ⟨rfl,hb2⟩;have hc2:=al hb2;have hz2:=hb2.size;(try simp at hz2);(try (have:=fun j=>al hb2 (W.heap.size) j (by first|omega|(simp;done)|(simp;omega))));(try (have:=fun j=>al hb2 (W.heap.size+1) j (by first|omega|(simp;done)|(simp;omega))));(try (have:=fun j=>al hb2 (w1.heap.size) j (by first|omega|(simp;done)|(simp;omega))));(try (have:=fun j=>al hb2 (w1.heap.size+1) j (by first|omega|(simp;done)|(simp;omega))));have _:bf<w2.heap.size:=(by omega);have _:bf≤w2.heap.size:=(by omega);have _:bf<w2.heap.size+1:=(by omega);have _:bf<w2.heap.size+1+1:=(by omega);have _:bf≠w2.heap.size:=(by omega);have _:w2.heap.size≠bf:=(by omega);have _:bf≠w2.heap.size+1:=(by omega);have _:w2.heap.size+1≠bf:=(by omega);have _:bx<w2.heap.size:=(by omega);have _:bx≤w2.heap.size:=(by omega);have _:bx<w2.heap.size+1:=(by omega);have _:bx<w2.heap.size+1+1:=(by omega);have _:bx≠w2.heap.size:=(by omega);have _:w2.heap.size≠bx:=(by omega);have _:bx≠w2.heap.size+1:=(by omega);have _:w2.heap.size+1≠bx:=(by omega);have _:bw<w2.heap.size:=(by omega);have _:bw≤w2.heap.size:=(by omega);have _:bw<w2.heap.size+1:=(by omega);have _:bw<w2.heap.size+1+1:=(by omega);have _:bw≠w2.heap.size:=(by omega);have _:w2.heap.size≠bw:=(by omega);have _:bw≠w2.heap.size+1:=(by omega);have _:w2.heap.size+1≠bw:=(by omega);have _:br<w2.heap.size:=(by omega);have _:br≤w2.heap.size:=(by omega);have _:br<w2.heap.size+1:=(by omega);have _:br<w2.heap.size+1+1:=(by omega);have _:br≠w2.heap.size:=(by omega);have _:w2.heap.size≠br:=(by omega);have _:br≠w2.heap.size+1:=(by omega);have _:w2.heap.size+1≠br:=(by omega);(try (have _:W.heap.size<w2.heap.size:=(by omega)));(try (have _:W.heap.size≤w2.heap.size:=(by omega)));(try (have _:W.heap.size≠w2.heap.size:=(by omega)));(try (have _:w2.heap.size≠W.heap.size:=(by omega)));(try (have _:W.heap.size<w2.heap.size+1:=(by omega)));(try (have _:W.heap.size+1<w2.heap.size:=(by omega)));(try (have _:W.heap.size+1≤w2.heap.size:=(by omega)));(try (have _:W.heap.size+1≠w2.heap.size:=(by omega)));(try (have _:w2.heap.size≠W.heap.size+1:=(by omega)));(try (have _:W.heap.size+1<w2.heap.size+1:=(by omega)));(try (have _:w1.heap.size<w2.heap.size:=(by omega)));(try (have _:w1.heap.size≤w2.heap.size:=(by omega)));(try (have _:w1.heap.size≠w2.heap.size:=(by omega)));(try (have _:w2.heap.size≠w1.heap.size:=(by omega)));(try (have _:w1.heap.size<w2.heap.size+1:=(by omega)));(try (have _:w1.heap.size+1<w2.heap.size:=(by omega)));(try (have _:w1.heap.size+1≤w2.heap.size:=(by omega)));(try (have _:w1.heap.size+1≠w2.heap.size:=(by omega)));(try (have _:w2.heap.size≠w1.heap.size+1:=(by omega)));(try (have _:w1.heap.size+1<w2.heap.size+1:=(by omega))))
    | (go_at_call 96;with_reducible refine (K3.out _).mono ?_;rintro e w3 ⟨rfl,hb3⟩;have hc3:=al hb3;have hz3:=hb3.size;(try simp at hz3);(try (have:=fun j=>al hb3 (W.heap.size) j (by first|omega|(simp;done)|(simp;omega))));(try (have:=fun j=>al hb3 (W.heap.size+1) j (by first|omega|(simp;done)|(simp;omega))));(try (have:=fun j=>al hb3 (w1.heap.size) j (by first|omega|(simp;done)|(simp;omega))));(try (have:=fun j=>al hb3 (w1.heap.size+1) j (by first|omega|(simp;done)|(simp;omega))));(try (have:=fun j=>al hb3 (w2.heap.size) j (by first|omega|(simp;done)|(simp;omega))));(try (have:=fun j=>al hb3 (w2.heap.size+1) j (by first|omega|(simp;done)|(simp;omega))));have _:bf<w3.heap.size:=(by omega);have _:bf≤w3.heap.size:=(by omega);have _:bf<w3.heap.size+1:=(by omega);have _:bf<w3.heap.size+1+1:=(by omega);have _:bf≠w3.heap.size:=(by omega);have _:w3.heap.size≠bf:=(by omega);have _:bf≠w3.heap.size+1:=(by omega);have _:w3.heap.size+1≠bf:=(by omega);have _:bx<w3.heap.size:=(by omega);have _:bx≤w3.heap.size:=(by omega);have _:bx<w3.heap.size+1:=(by omega);have _:bx<w3.heap.size+1+1:=(by omega);have _:bx≠w3.heap.size:=(by omega);have _:w3.heap.size≠bx:=(by omega);have _:bx≠w3.heap.size+1:=(by omega);have _:w3.heap.size+1≠bx:=(by omega);have _:bw<w3.heap.size:=(by omega);have _:bw≤w3.heap.size:=(by omega);have _:bw<w3.heap.size+1:=(by omega);have _:bw<w3.heap.size+1+1:=(by omega);have _:bw≠w3.heap.size:=(by omega);have _:w3.heap.size≠bw:=(by omega);have _:bw≠w3.heap.size+1:=(by omega);have _:w3.heap.size+1≠bw:=(by omega);have _:br<w3.heap.size:=(by omega);have _:br≤w3.heap.size:=(by omega);have _:br<w3.heap.size+1:=(by omega);have _:br<w3.heap.size+1+1:=(by omega);have _:br≠w3.heap.size:=(by omega);have _:w3.heap.size≠br:=(by omega);have _:br≠w3.heap.size+1:=(by omega);have _:w3.heap.size+1≠br:=(by omega);(try (have _:W.heap.size<w3.heap.size:=(by omega)));(try (have _:W.heap.size≤w3.heap.size:=(by omega)));(try (have _:W.heap.size≠w3.heap.size:=(by omega)));(try (have _:w3.heap.size≠W.heap.size:=(by omega)));(try (have _:W.heap.size<w3.heap.size+1:=(by omega)));(try (have _:W.heap.size+1<w3.heap.size:=(by omega)));(try (have _:W.heap.size+1≤w3.heap.size:=(by omega)));(try (have _:W.heap.size+1≠w3.heap.size:=(by omega)));(try (have _:w3.heap.size≠W.heap.size+1:=(by omega)));(try (have _:W.heap.size+1<w3.heap.size+1:=(by omega)));(try (have _:w1.heap.size<w3.heap.size:=(by omega)));(try (have _:w1.heap.size≤w3.heap.size:=(by omega)));(try (have _:w1.heap.size≠w3.heap.size:=(by omega)));(try (have _:w3.heap.size≠w1.heap.size:=(by omega)));(try (have _:w1.heap.size<w3.heap.size+1:=(by omega)));(try (have _:w1.heap.size+1<w3.heap.size:=(by omega)));(try (have _:w1.heap.size+1≤w3.heap.size:=(by omega)));(try (have _:w1.heap.size+1≠w3.heap.size:=(by omega)));(try (have _:w3.heap.size≠w1.heap.size+1:=(by omega)));(try (have _:w1.heap.size+1<w3.heap.size+1:=(by omega)));(try (have _:w2.heap.size<w3.heap.size:=(by omega)));(try (have _:w2.heap.size≤w3.heap.size:=(by omega)));(try (have _:w2.heap.size≠w3.heap.size:=(by omega)));(try (have _:w3.heap.size≠w2.heap.size:=(by omega)));(try (have _:w2.heap.size<w3.heap.size+1:=(by omega)));(try (have _:w2.heap.size+1<w3.heap.size:=(by omega)));(try (have _:w2.heap.size+1≤w3.heap.size:=(by omega)));(try (have _:w2.heap.size+1≠w3.heap.size:=(by omega)));(try (have _:w3.heap.size≠w2.heap.size+1:=(by omega)));(try (have _:w2.heap.size+1<w3.heap.size+1:=(by omega)))))
  all_goals (refine rC.intro ⟨_,?_,?_,?_,?_,rfl⟩)
  all_goals repeat (first|with_reducible exact BB.out|with_reducible exact HF.out|with_reducible exact HR.out|with_reducible refine ae.fresh (by first|rfl|(simp;done)|fail)|with_reducible refine ae.sets4 ?_|with_reducible refine ae.alloc ?_ _|with_reducible refine ae.drew ?_|with_reducible refine aw.alloc ?_ _|with_reducible refine aw.drew ?_|with_reducible refine aw.set4 ?_ (by with_reducible assumption) _ _ _ _|with_reducible refine af.alloc ?_ _|with_reducible refine af.drew ?_|with_reducible refine af.set4 ?_ (by with_reducible assumption) _ _ _ _|with_reducible refine fF hbf ?_ _|with_reducible refine Below.drew ?_|with_reducible refine Below.setCell ?_ (by with_reducible assumption) _|with_reducible refine Has.fresh (by first|rfl|(simp;done)|fail) (by first|(simp;done)|fail)|with_reducible refine Has.alloc ?_ _|with_reducible refine Has.drew ?_|with_reducible refine Has.keep ?_ hb3|with_reducible refine ae.keep ?_ hb3|with_reducible refine aw.keep ?_ hb3|with_reducible refine af.keep ?_ hb3|with_reducible refine ck hbf ?_ hb3|with_reducible refine Has.keep ?_ hb2|with_reducible refine ae.keep ?_ hb2|with_reducible refine aw.keep ?_ hb2|with_reducible refine af.keep ?_ hb2|with_reducible refine ck hbf ?_ hb2|with_reducible refine Has.keep ?_ hb1|with_reducible refine ae.keep ?_ hb1|with_reducible refine aw.keep ?_ hb1|with_reducible refine af.keep ?_ hb1|with_reducible refine ck hbf ?_ hb1)
 rintro _ W1 ⟨bs,B,hF,hR,hS,rfl⟩
 subst hbf
 clear BB HF HR gF gX gY lf lx ly lr geB K1 K2 K3 W
 have gF:=hF.cells;have gS:=hS.cells
 rcases K4.out with ⟨rfl,K5⟩|⟨rfl,K5⟩
 ·subst K5
  have gR:=hR.1.all4;have fR:=hR.2.all4
  clear gF hF
  go_wp2
  simp [bodyPost,results,Tryz.results134,go_sem,gR]
  exact ak B o3 _ _ _ _
 ·go_wp2_with fail
  with_reducible refine (K5.out _).mono ?_
  rintro e w1 ⟨rfl,hb⟩
  replace B:=B.trans (hb.mono B.size)
  replace hR:=hR.keep hb
  clear hb gF gS hF hS
  have gR:=fun o=>(hR.alloc o).1.all4
  have fR:=fun o=>(hR.alloc o).2.all4
  have BB:Hid (∀ o,Below w.heap.size w (w1.alloc o)):=fun o=>B.alloc B.size o
  clear B hR
  go_wp2
  simp [bodyPost,results,Tryz.results134,go_sem, *]
  repeat (first|with_reducible exact BB.out _|with_reducible refine Below.drew ?_|with_reducible refine Below.setCell ?_ (by with_reducible assumption) _)
theorem kr {m c x y:Int} (hf:Fit m c) (hx:Num x) (hy:Num y) (w:World) :
  Calls Tryz.prog 134 #[.agg #[.int .u64 (l0 m),.int .u64 (l1 m),.int .u64 (l2 m),.int .u64 (l3 m),.int .u64 (l0 c),.int .u64 (l1 c),.int .u64 (l2 c),.int .u64 (l3 c)],.agg #[.int .u64 (l0 x),.int .u64 (l1 x),.int .u64 (l2 x),.int .u64 (l3 x)],.agg #[.int .u64 (l0 y),.int .u64 (l1 y),.int .u64 (l2 y),.int .u64 (l3 y)]] w fun e w'=>e = .returned (.agg #[.int .u64 (l0 (ac m (x-y))),.int .u64 (l1 (ac m (x-y))),.int .u64 (l2 (ac m (x-y))),.int .u64 (l3 (ac m (x-y)))])∧Below w.heap.size w w':=by
 have na:=ag hf x
 have nb:=ag hf y
 have T:∀ w,Calls Tryz.prog 96 #[.agg #[.int .u64 (l0 (ac m x)),.int .u64 (l1 (ac m x)),.int .u64 (l2 (ac m x)),.int .u64 (l3 (ac m x))],.agg #[.int .u64 (l0 (ac m y)),.int .u64 (l1 (ac m y)),.int .u64 (l2 (ac m y)),.int .u64 (l3 (ac m y))]] w fun e w'=>e = .returned (.tuple #[.agg #[.int .u64 (l0 (dG (ac m x) (ac m y))),.int .u64 (l1 (dG (ac m x) (ac m y))),.int .u64 (l2 (dG (ac m x) (ac m y))),.int .u64 (l3 (dG (ac m x) (ac m y)))],.int .u64 (eJ (ac m x) (ac m y))])∧Below w.heap.size w w':=fun w=>gf na nb w
 refine rH (z:=cW (dG (ac m x) (ac m y)) m) (dn hf hx) (dn hf hy) T ?_ w
 rcases tN (x:=x) (y:=y) hf with ⟨k1,k2⟩|⟨k1,k2⟩
 ·exact .inl ⟨k1,k2.symm⟩
 ·exact .inr ⟨k1,by rw [k2];exact fun w=>iC (s8 _ _) hf.num w⟩
end Go.Proofs.YtnnnaajgjniiaaaGreatDoor
