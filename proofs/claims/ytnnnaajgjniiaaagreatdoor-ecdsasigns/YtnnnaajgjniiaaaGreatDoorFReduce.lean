import Derived.Test.YtnnnaajgjniiaaaGreatDoorAb
import Derived.Test.YtnnnaajgjniiaaaGreatDoorFFold
import Derived.Test.YtnnnaajgjniiaaaGreatDoorMul2
import Derived.Test.YtnnnaajgjniiaaaGreatDoorQTail
import Derived.Deep.LoopGhost
set_option maxHeartbeats 1000000
namespace Go.Proofs.YtnnnaajgjniiaaaGreatDoor
open Go.RowKit Go.Sort
theorem gD {m:Int} (hm:Num m) (w:World):(Op.equalIn 10000 24 (U4 m) (.agg #[.int .u64 0,.int .u64 0,.int .u64 0,.int .u64 0])).run Tryz.prog w = .ok (decide (m=0)) w:=by
 have h:=iR (m:=0) hm ⟨by decide,by decide⟩ w
 obtain ⟨z0,z1,z2,z3⟩:=aq
 ((try delta U4 P9 Rt at h);rw [z0,z1,z2,z3] at h)
 exact h
def aG (W:World) (b:Nat) (m c:Int):Prop:=Row W b [l0 m,l1 m,l2 m,l3 m,l0 c,l1 c,l2 c,l3 c]
theorem aG.keep {W w1:World} {b:Nat} {m c:Int} (h:aG W b m c) (hb:Below W.heap.size W w1):aG w1 b m c:=Row.keep h hb
theorem aG.alloc {W:World} {b:Nat} {m c:Int} (h:aG W b m c) (o:Obj):aG (W.alloc o) b m c:=Row.alloc h o
theorem aG.drew {W:World} {b:Nat} {m c:Int} (h:aG W b m c):aG W.drew b m c:=h
theorem aG.new (W:World) (m c:Int) (t:TypeId):aG (W.alloc (.cells #[.int .u64 (l0 m),.int .u64 (l1 m),.int .u64 (l2 m),.int .u64 (l3 m),.int .u64 (l0 c),.int .u64 (l1 c),.int .u64 (l2 c),.int .u64 (l3 c)] t)) W.heap.size m c:=Row.fresh8 rfl
theorem aG.set {W:World} {b b' i:Nat} {m c:Int} (h:aG W b m c) (ne:b'≠b) (v:Value):aG (W.setCell ⟨b',i,none⟩ v) b m c:=Row.setOther h ne v
theorem aG.set4 {W:World} {b b':Nat} {m c:Int} (h:aG W b m c) (ne:b'≠b) (v0 v1 v2 v3:Value):aG ((((W.setCell ⟨b',0,none⟩ v0).setCell ⟨b',1,none⟩ v1).setCell ⟨b',2,none⟩ v2).setCell ⟨b',3,none⟩ v3) b m c :=
 (((h.set ne v0).set ne v1).set ne v2).set ne v3
theorem aG.cells {W:World} {b:Nat} {m c:Int} (h:aG W b m c):W.cell? ⟨b,0,none⟩=some (.int .u64 (l0 m))∧W.cell? ⟨b,1,none⟩=some (.int .u64 (l1 m))∧W.cell? ⟨b,2,none⟩=some (.int .u64 (l2 m))∧W.cell? ⟨b,3,none⟩=some (.int .u64 (l3 m))∧W.cell? ⟨b,4,none⟩=some (.int .u64 (l0 c))∧W.cell? ⟨b,5,none⟩=some (.int .u64 (l1 c))∧W.cell? ⟨b,6,none⟩=some (.int .u64 (l2 c))∧W.cell? ⟨b,7,none⟩=some (.int .u64 (l3 c)):=Row.all8 h
theorem aG.grown {W:World} {b:Nat} {m c:Int} (h:aG W b m c):∀ d os,(grow (redrawn W d) os).cell? ⟨b,0,none⟩=some (.int .u64 (l0 m))∧(grow (redrawn W d) os).cell? ⟨b,1,none⟩=some (.int .u64 (l1 m))∧(grow (redrawn W d) os).cell? ⟨b,2,none⟩=some (.int .u64 (l2 m))∧(grow (redrawn W d) os).cell? ⟨b,3,none⟩=some (.int .u64 (l3 m))∧(grow (redrawn W d) os).cell? ⟨b,4,none⟩=some (.int .u64 (l0 c))∧(grow (redrawn W d) os).cell? ⟨b,5,none⟩=some (.int .u64 (l1 c))∧(grow (redrawn W d) os).cell? ⟨b,6,none⟩=some (.int .u64 (l2 c))∧(grow (redrawn W d) os).cell? ⟨b,7,none⟩=some (.int .u64 (l3 c)) :=
 fun d os=>(h.keep (below_regrown W d os)).cells
theorem aG.lt {W:World} {b:Nat} {m c:Int} (h:aG W b m c):b<W.heap.size:=Row.lt h (by simp)
theorem jZ {m c h l:Int} (hf:Fit m c) (hh:Num h) (hl:Num l) (w:World) :
  Rt 138 #[.agg #[.int .u64 (l0 m),.int .u64 (l1 m),.int .u64 (l2 m),.int .u64 (l3 m),.int .u64 (l0 c),.int .u64 (l1 c),.int .u64 (l2 c),.int .u64 (l3 c)],U4 h,U4 l] w (U4 (ag m (aI h l))):=by
 go_enter Tryz.func138,Tryz.ntmps138
 go_wp2_with fail
 refine af (fun W=>Below w.heap.size w W∧aG W w.heap.size m c∧Var W (w.heap.size+1) h∧Var W (w.heap.size+1+1) l∧ac W (w.heap.size+1+1+1)) ⟨by repeat (first|with_reducible exact Below.refl _ _|with_reducible refine Below.alloc ?_ (by first|omega|(simp;done)|(simp;omega)) _),(((aG.new w m c _).alloc _).alloc _).alloc _,((Var.new (by simp)).alloc _).alloc _,(Var.new (by simp)).alloc _,ac.new (by simp)⟩ ?_
 rintro W ⟨B,hF,hH,hL,hR⟩
 have o1:w.heap.size≤w.heap.size+1:=by omega
 have o2:w.heap.size≤w.heap.size+1+1:=by omega
 have o3:w.heap.size≤w.heap.size+1+1+1:=by omega
 have n1:w.heap.size+1≠w.heap.size:=by omega
 have n2:w.heap.size+1+1≠w.heap.size:=by omega
 have n3:w.heap.size+1+1≠w.heap.size+1:=by omega
 have n4:w.heap.size+1+1+1≠w.heap.size+1:=by omega
 have n5:w.heap.size+1+1+1≠w.heap.size+1+1:=by omega
 generalize w.heap.size+1+1+1=br at *
 generalize w.heap.size+1+1=bl at *
 generalize w.heap.size+1=bh at *
 go_loopg [] (aI h l).toNat (fun g wr=>∃ H L:Int,g=(aI H L).toNat∧Num H∧Num L∧aI H L%m=aI h l%m∧Below w.heap.size w wr∧aG wr w.heap.size m c∧Var wr bh H∧Var wr bl L∧ac wr br)
 case atStart=>exact ⟨h,l,rfl,hh,hl,rfl,B,hF,hH,hL,hR⟩
 case round =>
  clear B hF hH hL hR W
  obtain ⟨H,L,hg,nH,nL,he,B,hF,hH,hL,hR⟩:=hrel
  have E:Hid (gk=(aI H L).toNat∧aI H L%m=aI h l%m):=⟨hg,he⟩
  clear hg he
  have hq:=gD nH
  have bz:=bC
  have gH:=hH.1.cells;have gL:=hL.1.cells;have gF:=hF.cells
  by_cases hz:H=0
  ·simp only [hz,decide_true] at hq
   subst hz
   have e2:ag m (aI h l)=ag m L:=by
    have:=E.out.2;rw [jG] at this;unfold ag;rw [this]
   have O:=d8 hf nL
   rw [←e2] at O
   have O':Hid (∀ w,Rt 128 #[.agg #[.int .u64 (l0 m),.int .u64 (l1 m),.int .u64 (l2 m),.int .u64 (l3 m),.int .u64 (l0 c),.int .u64 (l1 c),.int .u64 (l2 c),.int .u64 (l3 c)],U4 L] w (U4 (ag m (aI h l)))):=O
   clear O e2
   go_wp2_with fail
   with_reducible refine (O'.out _).mono ?_
   rintro e w1 ⟨rfl,hb⟩
   replace B:=B.trans (hb.mono B.size)
   replace hR:=hR.keep hb
   clear hb gH gL gF hF hH hL
   have gR:=hR.1.all4;have fR:=hR.2.all4
   go_wp2
   simp [bodyPost,results,Tryz.results138,go_sem,gR]
   exact ah B o3 _ _ _ _
  ·have hzd:decide (H=0)=false:=by simp [hz]
   rw [hzd] at hq
   obtain ⟨st1,st2⟩:=mP (l:=L) hf nH hz
   have nn:=eR (fd hf nH nL).1 (ip H L c)
   have nl:=eR nH nL
   have E2:Hid ((aI (cu H L c) (bX H L c)).toNat<gk∧Num (cu H L c)∧Num (bX H L c)∧aI (cu H L c) (bX H L c)%m=aI h l%m) :=
    ⟨by have:=E.out.1;omega,(fd hf nH nL).1,ip H L c,st1.trans E.out.2⟩
   have D:Hid (∀ w,Rt 172 #[U4 H,U4 L,U4 c] w (.tuple #[U4 (cu H L c),U4 (bX H L c)])):=sY hf nH nL
   clear st1 st2 nn nl E hz hzd
   generalize cu H L c=H' at *
   generalize bX H L c=L' at *
   go_wp2_with fail
   with_reducible refine (D.out _).mono ?_
   rintro e w1 ⟨rfl,hb⟩
   replace B:=B.trans (hb.mono B.size)
   replace hR:=hR.keep hb;replace hF:=hF.keep hb;replace hH:=hH.keep hb;replace hL:=hL.keep hb
   clear hb gH gL gF hq bz
   have gH:=hH.1.cells;have gL:=hL.1.cells
   have fH:=hH.2.all4;have fL:=hL.2.all4
   have n3':=n3.symm
   go_wp2
   go_roundg (aI H' L').toNat
   case measure=>exact E2.out.1
   case rel=>exact ⟨H',L',rfl,E2.out.2.1,E2.out.2.2.1,E2.out.2.2.2,ah (ah B o1 _ _ _ _) o2 _ _ _ _,(hF.set4 n1 _ _ _ _).set4 n2 _ _ _ _,(hH.sets _).set4 n3 _ _ _ _,(hL.set4 n3' _ _ _ _).sets _,(hR.set4 n4.symm _ _ _ _).set4 n5.symm _ _ _ _⟩
open Go.RowKit Go.Sort
theorem lE {m c x y:Int} (hf:Fit m c) (hx:Num x) (hy:Num y) (w:World) :
    Rt 133 #[.agg #[.int .u64 (l0 m),.int .u64 (l1 m),.int .u64 (l2 m),.int .u64 (l3 m),.int .u64 (l0 c),.int .u64 (l1 c),.int .u64 (l2 c),.int .u64 (l3 c)],U4 x,U4 y] w (U4 (ag m (x*y))):=by
  have M1:Hid (∀ w,Rt 169 #[U4 x,U4 y] w (.tuple #[U4 (hiN x y),U4 (loN x y)])):=rZ hx hy
  have R1:Hid (∀ w,Rt 138 #[.agg #[.int .u64 (l0 m),.int .u64 (l1 m),.int .u64 (l2 m),.int .u64 (l3 m),.int .u64 (l0 c),.int .u64 (l1 c),.int .u64 (l2 c),.int .u64 (l3 c)],U4 (hiN x y),U4 (loN x y)] w (U4 (ag m (x*y)))):=fun w=>by
    have:=jZ hf (kB hx hy) (ky x y) w;rw [oZ] at this;exact this
  generalize ag m (x*y)=R at *
  generalize hiN x y=H at *
  generalize loN x y=L at *
  go_enter Tryz.func133,Tryz.ntmps133
  go_wp2_with fail
  refine af (fun W=>Below w.heap.size w W∧aG W w.heap.size m c∧ab W (w.heap.size+1) x∧ab W (w.heap.size+1+1) y∧ac W (w.heap.size+1+1+1)) ⟨by repeat (first|with_reducible exact Below.refl _ _|with_reducible refine Below.alloc ?_ (by first|omega|(simp;done)|(simp;omega)) _),(((aG.new w m c _).alloc _).alloc _).alloc _,((ab.fresh (by simp)).alloc _).alloc _,(ab.fresh (by simp)).alloc _,ac.new (by simp)⟩ ?_
  rintro W ⟨B,hF,hX,hY,hR⟩
  have o3:w.heap.size≤w.heap.size+1+1+1:=by omega
  generalize w.heap.size+1+1+1=br at *
  generalize w.heap.size+1+1=by' at *
  generalize w.heap.size+1=bx at *
  have gF:=hF.grown;have gX:=hX.grown;have gY:=hY.grown
  refine aL 7 (by kernel_rfl) (by kernel_rfl) ?_
  simp only [List.take_succ_cons,List.take_zero,List.drop_succ_cons,List.drop_zero]
  repeat
    first
      | go_big_quiet_skip
      | (go_big_quiet_want;go_big_quiet_op;go_big_quiet_on)
      | (go_big_quiet_want
         go_big_quiet_op
         apply Exists.intro
         refine ⟨fun p=>?_,?_⟩
         · (first|(go_at_call 169;with_reducible exact Calls.regrown_of (M1.out _))|(go_at_call 138;with_reducible exact Calls.regrown_of (R1.out _)))
         go_big_quiet_on)
  refine wpQuiet_nil ?_
  rintro w1 ⟨p,rfl⟩
  have hb:=below_regrown W p.d p.os
  generalize grow (redrawn W p.d) p.os=w1 at *
  replace B:=B.trans (hb.mono B.size)
  replace hR:=hR.keep hb
  clear hb hF hX hY gF gX gY W
  have gR:=hR.1.all4;have fR:=hR.2.all4
  go_wp2
  simp [bodyPost,results,Tryz.results133,go_sem,gR]
  exact ah B o3 _ _ _ _
end Go.Proofs.YtnnnaajgjniiaaaGreatDoor
