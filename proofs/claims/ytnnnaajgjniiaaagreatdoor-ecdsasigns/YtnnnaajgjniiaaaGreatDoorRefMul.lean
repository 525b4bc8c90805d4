import Derived.Test.YtnnnaajgjniiaaaGreatDoorAb
import Derived.Test.YtnnnaajgjniiaaaGreatDoorFFold
import Derived.Test.YtnnnaajgjniiaaaGreatDoorHold
import Derived.Test.YtnnnaajgjniiaaaGreatDoorLen
import Derived.Deep.LoopGhost
import Derived.Deep.RegionHeld3
import Derived.Test.YtnnnaajgjniiaaaGreatDoorFReduce
import Derived.Test.YtnnnaajgjniiaaaGreatDoorFExp
import Derived.Test.YtnnnaajgjniiaaaGreatDoorFAdd
set_option maxRecDepth 100000
set_option maxHeartbeats 8000000
namespace Go.Proofs.YtnnnaajgjniiaaaGreatDoor
open Go.RowKit
theorem pf {n m:Int} (hn:Num n) (hm:Num m) (w:World) :
  Rt 173 #[U4 n,U4 m] w (.tuple #[U4 (hiN n m),U4 (loN n m)]):=by
 obtain ⟨a0,a1,a2,a3,a4,a5,a6,a7,gA,eA,DA'⟩:=cH hn
 obtain ⟨b0,b1,b2,b3,b4,b5,b6,b7,gB,eB,DB'⟩:=cH hm
 have DA:Hid _:=DA'
 have DB:Hid _:=DB'
 clear DA' DB'
 go_enter Tryz.func173,Tryz.ntmps173
 go_wp2_with fail
 refine aa (fun W=>Below w.heap.size w W∧ab W (w.heap.size+1) m∧ac W (w.heap.size+1+1)∧ac W (w.heap.size+1+1+1)) ⟨?_,?_,?_,?_⟩ ?_
 ·repeat (first|with_reducible exact Below.refl _ _|with_reducible refine Below.alloc ?_ (by first|omega|(simp;done)|(simp;omega)) _)
 ·exact ((ab.fresh (by simp)).alloc _).alloc _
 ·exact (ac.new (by simp)).alloc _
 ·exact ac.new (by simp)
 rintro W ⟨B,hY,hR,hS⟩
 have o1:w.heap.size≤w.heap.size+1+1:=by omega
 have o0:w.heap.size≤w.heap.size+1+1+1:=by omega
 have c0:w.heap.size+1+1≠w.heap.size+1+1+1:=by omega
 generalize w.heap.size+1+1+1=bs at *
 generalize w.heap.size+1+1=br at *
 generalize w.heap.size+1=bw at *
 refine (DA.out _).mono ?_
 rintro e w1 ⟨rfl,hb⟩
 replace B:=B.trans (hb.mono B.size)
 replace hY:=hY.keep hb;replace hR:=hR.keep hb;replace hS:=hS.keep hb
 clear hb W
 have gY:=hY.allocs
 go_wp2_with fail
 refine aa (fun W=>Below w.heap.size w W∧ac W br∧ac W bs∧Dgs W w1.heap.size [a0,a1,a2,a3,a4,a5,a6,a7]) ⟨B.alloc B.size _,hR.alloc _,hS.alloc _,Dgs.new w1 [a0,a1,a2,a3,a4,a5,a6,a7] 98⟩ ?_
 clear B hY hR hS gY
 rintro W ⟨B,hR,hS,hA⟩
 generalize w1.heap.size=ba at *
 refine (DB.out _).mono ?_
 rintro e w2 ⟨rfl,hb⟩
 replace B:=B.trans (hb.mono B.size)
 replace hR:=hR.keep hb;replace hS:=hS.keep hb;replace hA:=hA.keep (by simp) hb
 clear hb W
 have c1:br≠w2.heap.size+1:=by have:=hR.1.lt (by simp);omega
 have c2:bs≠w2.heap.size+1:=by have:=hS.1.lt (by simp);omega
 have c3:ba≠w2.heap.size+1:=by have:=hA.1.lt (by simp);omega
 have c4:w2.heap.size≠w2.heap.size+1:=by omega
 have o2:w.heap.size≤w2.heap.size+1:=by have:=B.size;omega
 go_wp2_with fail
 refine af (fun W=>Below w.heap.size w W∧ac W br∧ac W bs∧Dgs W ba [a0,a1,a2,a3,a4,a5,a6,a7]∧Dgs W w2.heap.size [b0,b1,b2,b3,b4,b5,b6,b7]∧Dgs W (w2.heap.size+1) [0,0,0,0,0,0,0,0,0,0,0,0,0,0,0,0]) ⟨(B.alloc B.size _).alloc (by have:=B.size;simp;omega) _,(hR.alloc _).alloc _,(hS.alloc _).alloc _,(hA.alloc (by simp) _).alloc (by simp) _,(Dgs.new w2 [b0,b1,b2,b3,b4,b5,b6,b7] 98).alloc (by simp) _,?_⟩ ?_
 ·have:=Dgs.new (w2.alloc (.cells #[.int .u64 b0,.int .u64 b1,.int .u64 b2,.int .u64 b3,.int .u64 b4,.int .u64 b5,.int .u64 b6,.int .u64 b7] 98)) [0,0,0,0,0,0,0,0,0,0,0,0,0,0,0,0] 196
  simp at this
  exact this
 clear B hR hS hA
 rintro W ⟨B,hR,hS,hA,hB,hP⟩
 generalize w2.heap.size+1=bp at *
 generalize w2.heap.size=bb at *
 have GA:Hid (cJ [a0,a1,a2,a3,a4,a5,a6,a7]∧vd [a0,a1,a2,a3,a4,a5,a6,a7]=n):=⟨gA,eA⟩
 have GB:Hid (cJ [b0,b1,b2,b3,b4,b5,b6,b7]∧vd [b0,b1,b2,b3,b4,b5,b6,b7]=m):=⟨gB,eB⟩
 generalize hAs:[a0,a1,a2,a3,a4,a5,a6,a7]=As at *
 generalize hBs:[b0,b1,b2,b3,b4,b5,b6,b7]=Bs at *
 have lA:As.length=8:=by rw [←hAs];rfl
 have lB:Bs.length=8:=by rw [←hBs];rfl
 clear hAs hBs gA eA gB eB DA DB hn hm
 go_loopg [9] 8 (fun k iv wr=>∃ (i:Nat) (P:List Int),k=8-i∧i≤8∧iv = .int .i64 i∧P.length=16∧cJ P∧(∀ t,i+8≤t→P.getD t 0=0)∧vd P=vd (As.take i)*m∧Below w.heap.size w wr∧ac wr br∧ac wr bs∧Dgs wr ba As∧Dgs wr bb Bs∧Dgs wr bp P)
 case atStart =>
  refine ⟨0,_,rfl,by decide,rfl,rfl,?_,?_,by simp [vd],B,hR,hS,hA,hB,hP⟩
  ·intro x hx
   simp at hx
   subst hx
   exact ⟨by decide,by decide⟩
  ·intro t ht
   exact lu 16 t
 case round =>
  clear B hR hS hA hB hP
  obtain ⟨i,P,hk,hi,rfl,hL,gL,tl,inv,B,hR,hS,hA,hB,hP⟩:=hrel
  have IV:Hid (vd P=vd (As.take i)*m):=inv
  have GP:Hid (cJ P∧∀ t,i+8≤t→P.getD t 0=0):=⟨gL,tl⟩
  have HK:Hid (gk=8-i):=hk
  clear inv gL hk tl
  by_cases h8:i=8
  ·subst h8
   go_wp2_with fail
   have d1:br≠wr.heap.size:=by have:=hR.1.lt (by simp);omega
   have d2:bs≠wr.heap.size:=by have:=hS.1.lt (by simp);omega
   have d3:bp≠wr.heap.size:=by have:=hP.1.lt (by omega);omega
   have d4:br≠wr.heap.size+1:=by have:=hR.1.lt (by simp);omega
   have d5:bs≠wr.heap.size+1:=by have:=hS.1.lt (by simp);omega
   have d6:bp≠wr.heap.size+1:=by have:=hP.1.lt (by omega);omega
   have d7:wr.heap.size≠wr.heap.size+1:=by omega
   have o3:w.heap.size≤wr.heap.size:=B.size
   have o4:w.heap.size≤wr.heap.size+1:=by omega
   refine af (fun W=>Below w.heap.size w W∧ac W br∧ac W bs∧Dgs W bp P∧Dgs W wr.heap.size [0,0,0,0,0,0,0,0]∧Dgs W (wr.heap.size+1) [0,0,0,0,0,0,0,0]) ⟨(B.alloc B.size _).alloc (by have:=B.size;simp;omega) _,(hR.alloc _).alloc _,(hS.alloc _).alloc _,(hP.alloc (by omega) _).alloc (by omega) _,(Dgs.new wr [0,0,0,0,0,0,0,0] 98).alloc (by simp) _,?_⟩ ?_
   ·have:=Dgs.new (wr.alloc (.cells #[.int .u64 0,.int .u64 0,.int .u64 0,.int .u64 0,.int .u64 0,.int .u64 0,.int .u64 0,.int .u64 0] 98)) [0,0,0,0,0,0,0,0] 98
    simp at this
    exact this
   clear B hR hS hA hB hP
   rintro W ⟨B,hR,hS,hP,hl,hh⟩
   generalize wr.heap.size+1=bh at *
   generalize wr.heap.size=bl at *
   go_loopg [15] 8 (fun k iv wr=>∃ (i:Nat) (Lo Hi:List Int),k=8-i∧i≤8∧iv = .int .i64 i∧Lo.length=8∧Hi.length=8∧(∀ t,t<i→Lo.getD t 0=P.getD t 0)∧(∀ t,t<i→Hi.getD t 0=P.getD (t+8) 0)∧Below w.heap.size w wr∧ac wr br∧ac wr bs∧Dgs wr bp P∧Dgs wr bl Lo∧Dgs wr bh Hi)
   case atStart=>exact ⟨0,_,_,rfl,by decide,rfl,rfl,rfl,fun t h=>absurd h (Nat.not_lt_zero t),fun t h=>absurd h (Nat.not_lt_zero t),B,hR,hS,hP,hl,hh⟩
   case round =>
    clear B hR hS hP hl hh
    obtain ⟨i,Lo,Hi,hk,hi,rfl,lL,lH,eL,eH,B,hR,hS,hP,hl,hh⟩:=hrel
    have HK2:Hid (gk=8-i):=hk
    have EE:Hid ((∀ t,t<i→Lo.getD t 0=P.getD t 0)∧(∀ t,t<i→Hi.getD t 0=P.getD (t+8) 0)):=⟨eL,eH⟩
    clear hk eL eH
    by_cases h8:i=8
    ·subst h8
     have eLo:Lo=P.take 8:=o9 (by simp;omega) fun t ht=>by rw [EE.out.1 t (by omega),sW (by omega)]
     have eHi:Hi=P.drop 8:=o9 (by simp;omega) fun t ht=>by rw [EE.out.2 t (by omega),sX]
     have gLo:cJ Lo:=by rw [eLo];exact GP.out.1.take 8
     have gHi:cJ Hi:=by rw [eHi];exact GP.out.1.drop 8
     have sp:=o8 P 8 (by omega)
     have tk:As.take 8=As:=by rw [←lA];exact List.take_length
     rw [←eLo,←eHi,IV.out,tk,GA.out.2] at sp
     have bl8:=jh gLo
     rw [lL] at bl8
     obtain ⟨ev,eu⟩:=zO bl8.1 bl8.2 sp.symm
     obtain ⟨x0,x1,x2,x3,x4,x5,x6,x7,rfl⟩:=vj lL
     obtain ⟨y0,y1,y2,y3,y4,y5,y6,y7,rfl⟩:=vj lH
     have NL:Hid (∀ w,Rt 75 #[.agg #[.int .u64 x0,.int .u64 x1,.int .u64 x2,.int .u64 x3,.int .u64 x4,.int .u64 x5,.int .u64 x6,.int .u64 x7]] w (U4 (loN n m))):=fun w=>fy (l:=[x0,x1,x2,x3,x4,x5,x6,x7]) rfl gLo ev w
     have NH:Hid (∀ w,Rt 75 #[.agg #[.int .u64 y0,.int .u64 y1,.int .u64 y2,.int .u64 y3,.int .u64 y4,.int .u64 y5,.int .u64 y6,.int .u64 y7]] w (U4 (hiN n m))):=fun w=>fy (l:=[y0,y1,y2,y3,y4,y5,y6,y7]) rfl gHi eu w
     clear eLo eHi gLo gHi sp tk bl8 ev eu EE GP IV GA GB hP
     have gl:=hl.1.all8;have gh:=hh.1.all8
     go_wp2_with fail
     clear gl gh
     skip
     refine af (fun W=>Below w.heap.size w W∧ac W br∧ac W bs∧Dgs W bl [x0,x1,x2,x3,x4,x5,x6,x7]∧Dgs W bh [y0,y1,y2,y3,y4,y5,y6,y7]) ⟨B,hR,hS,hl,hh⟩ ?_
     clear B hR hS hl hh
     rintro W ⟨B,hR,hS,hl,hh⟩
     have gl:=hl.1.all8;have gh:=hh.1.all8;have gR:=hR.1.all4;have fR:=hR.2.all4;have gS:=hS.1.all4;have fS:=hS.2.all4
     have ll:=hl.1.lt (by simp);have lh:=hh.1.lt (by simp);have lr:=hR.1.lt (by simp);have ls:=hS.1.lt (by simp)
     have d1s:=d1.symm;have d2s:=d2.symm;have d4s:=d4.symm;have d5s:=d5.symm;have c0s:=c0.symm
     have BB:Hid (Below w.heap.size w W):=B
     have geB:=B.size
     clear B hR hS hl hh
     have _:bl<W.heap.size:=by omega
     have _:bl≤W.heap.size:=by omega
     have _:bl<W.heap.size+1:=by omega
     have _:bl<W.heap.size+1+1:=by omega
     have _:bl≠W.heap.size:=by omega
     have _:W.heap.size≠bl:=by omega
     have _:bl≠W.heap.size+1:=by omega
     have _:W.heap.size+1≠bl:=by omega
     have _:bh<W.heap.size:=by omega
     have _:bh≤W.heap.size:=by omega
     have _:bh<W.heap.size+1:=by omega
     have _:bh<W.heap.size+1+1:=by omega
     have _:bh≠W.heap.size:=by omega
     have _:W.heap.size≠bh:=by omega
     have _:bh≠W.heap.size+1:=by omega
     have _:W.heap.size+1≠bh:=by omega
     have _:br<W.heap.size:=by omega
     have _:br≤W.heap.size:=by omega
     have _:br<W.heap.size+1:=by omega
     have _:br<W.heap.size+1+1:=by omega
     have _:br≠W.heap.size:=by omega
     have _:W.heap.size≠br:=by omega
     have _:br≠W.heap.size+1:=by omega
     have _:W.heap.size+1≠br:=by omega
     have _:bs<W.heap.size:=by omega
     have _:bs≤W.heap.size:=by omega
     have _:bs<W.heap.size+1:=by omega
     have _:bs<W.heap.size+1+1:=by omega
     have _:bs≠W.heap.size:=by omega
     have _:W.heap.size≠bs:=by omega
     have _:bs≠W.heap.size+1:=by omega
     have _:W.heap.size+1≠bs:=by omega
     have dz:W.drew.heap.size=W.heap.size:=rfl
     go_region_held3 (fun w'=>w'.cell? ⟨bl,0,none⟩=some (.int .u64 x0)∧w'.cell? ⟨bl,1,none⟩=some (.int .u64 x1)∧w'.cell? ⟨bl,2,none⟩=some (.int .u64 x2)∧w'.cell? ⟨bl,3,none⟩=some (.int .u64 x3)∧w'.cell? ⟨bl,4,none⟩=some (.int .u64 x4)∧w'.cell? ⟨bl,5,none⟩=some (.int .u64 x5)∧w'.cell? ⟨bl,6,none⟩=some (.int .u64 x6)∧w'.cell? ⟨bl,7,none⟩=some (.int .u64 x7)∧w'.cell? ⟨bh,0,none⟩=some (.int .u64 y0)∧w'.cell? ⟨bh,1,none⟩=some (.int .u64 y1)∧w'.cell? ⟨bh,2,none⟩=some (.int .u64 y2)∧w'.cell? ⟨bh,3,none⟩=some (.int .u64 y3)∧w'.cell? ⟨bh,4,none⟩=some (.int .u64 y4)∧w'.cell? ⟨bh,5,none⟩=some (.int .u64 y5)∧w'.cell? ⟨bh,6,none⟩=some (.int .u64 y6)∧w'.cell? ⟨bh,7,none⟩=some (.int .u64 y7)) (((try dsimp only);(repeat' (apply And.intro));(all_goals repeat (first|with_reducible assumption|with_reducible apply cell_keep hb2|with_reducible apply cell_keep hb1|with_reducible apply cell_alloc|(with_reducible refine cell_set ?_ (by with_reducible assumption))|(simp [go_sem, *];done)))))
      (first
       | (go_at_call 75;with_reducible refine (NH.out _).mono ?_;rintro e w1 ⟨rfl,hb1⟩;have hc1:=aj hb1;have hz1:=hb1.size;(try simp at hz1);(try (have:=fun j=>aj hb1 (W.heap.size) j (by first|omega|(simp;done)|(simp;omega))));(try (have:=fun j=>aj hb1 (W.heap.size+1) j (by first|omega|(simp;done)|(simp;omega))));have _:bl<w1.heap.size:=(by omega);have _:bl≤w1.heap.size:=(by omega);have _:bl<w1.heap.size+1:=(by omega);have _:bl<w1.heap.size+1+1:=(by omega);have _:bl≠w1.heap.size:=(by omega);have _:w1.heap.size≠bl:=(by omega);have _:bl≠w1.heap.size+1:=(by omega);have _:w1.heap.size+1≠bl:=(by omega);have _:bh<w1.heap.size:=(by omega);have _:bh≤w1.heap.size:=(by omega);have _:bh<w1.heap.size+1:=(by omega);have _:bh<w1.heap.size+1+1:=(by omega);have _:bh≠w1.heap.size:=(by omega);have _:w1.heap.size≠bh:=(by omega);have _:bh≠w1.heap.size+1:=(by omega);have _:w1.heap.size+1≠bh:=(by omega);have _:br<w1.heap.size:=(by omega);have _:br≤w1.heap.size:=(by omega);have _:br<w1.heap.size+1:=(by omega);have _:br<w1.heap.size+1+1:=(by omega);have _:br≠w1.heap.size:=(by omega);have _:w1.heap.size≠br:=(by omega);have _:br≠w1.heap.size+1:=(by omega);have _:w1.heap.size+1≠br:=(by omega);have _:bs<w1.heap.size:=(by omega);have _:bs≤w1.heap.size:=(by omega);have _:bs<w1.heap.size+1:=(by omega);have _:bs<w1.heap.size+1+1:=(by omega);have _:bs≠w1.heap.size:=(by omega);have _:w1.heap.size≠bs:=(by omega);have _:bs≠w1.heap.size+1:=(by omega);have _:w1.heap.size+1≠bs:=(by omega);(try (have _:W.heap.size<w1.heap.size:=(by omega)));(try (have _:W.heap.size≤w1.heap.size:=(by omega)));(try (have _:W.heap.size≠w1.heap.size:=(by omega)));(try (have _:w1.heap.size≠W.heap.size:=(by omega)));(try (have _:W.heap.size<w1.heap.size+1:=(by omega)));(try (have _:W.heap.size+1<w1.heap.size:=(by omega)));(try (have _:W.heap.size+1≤w1.heap.size:=(by omega)));(try (have _:W.heap.size+1≠w1.heap.size:=(by omega)));(try (have _:w1.heap.size≠W.heap.size+1:=(by omega)));(try (have _:W.heap.size+1<w1.heap.size+1:=(by omega))))
       | (go_at_call 75;with_reducible refine (NL.out _).mono ?_;rintro e w2 ⟨rfl,hb2⟩;have hc2:=aj hb2;have hz2:=hb2.size;(try simp at hz2);(try (have:=fun j=>aj hb2 (W.heap.size) j (by first|omega|(simp;done)|(simp;omega))));(try (have:=fun j=>aj hb2 (W.heap.size+1) j (by first|omega|(simp;done)|(simp;omega))));(try (have:=fun j=>aj hb2 (w1.heap.size) j (by first|omega|(simp;done)|(simp;omega))));(try (have:=fun j=>aj hb2 (w1.heap.size+1) j (by first|omega|(simp;done)|(simp;omega))));have _:bl<w2.heap.size:=(by omega);have _:bl≤w2.heap.size:=(by omega);have _:bl<w2.heap.size+1:=(by omega);have _:bl<w2.heap.size+1+1:=(by omega);have _:bl≠w2.heap.size:=(by omega);have _:w2.heap.size≠bl:=(by omega);have _:bl≠w2.heap.size+1:=(by omega);have _:w2.heap.size+1≠bl:=(by omega);have _:bh<w2.heap.size:=(by omega);have _:bh≤w2.heap.size:=(by omega);have _:bh<w2.heap.size+1:=(by omega);have _:bh<w2.heap.size+1+1:=(by omega);have _:bh≠w2.heap.size:=(by omega);have _:w2.heap.size≠bh:=(by omega);have _:bh≠w2.heap.size+1:=(by omega);have _:w2.heap.size+1≠bh:=(by omega);have _:br<w2.heap.size:=(by omega);have _:br≤w2.heap.size:=(by omega);have _:br<w2.heap.size+1:=(by omega);have _:br<w2.heap.size+1+1:=(by omega);have _:br≠w2.heap.size:=(by omega);have _:w2.heap.size≠br:=(by omega);have _:br≠w2.heap.size+1:=(by omega);have _:w2.heap.size+1≠br:=(by omega);have _:bs<w2.heap.size:=(by omega);have _:bs≤w2.heap.size:=(by omega);have _:bs<w2.heap.size+1:=(by omega);have _:bs<w2.heap.size+1+1:=(by omega);have _:bs≠w2.heap.size:=(by omega);have _:w2.heap.size≠bs:=(by omega);have _:bs≠w2.heap.size+1:=(by omega);have _:w2.heap.size+1≠bs:=(by omega);(try (have _:W.heap.size<w2.heap.size:=(by omega)));(try (have _:W.heap.size≤w2.heap.size:=(by omega)));(try (have _:W.heap.size≠w2.heap.size:=(by omega)));(try (have _:w2.heap.size≠W.heap.size:=(by omega)));(try (have _:W.heap.size<w2.heap.size+1:=(by omega)));(try (have _:W.heap.size+1<w2.heap.size:=(by omega)));(try (have _:W.heap.size+1≤w2.heap.size:=(by omega)));(try (have _:W.heap.size+1≠w2.heap.size:=(by omega)));(try (have _:w2.heap.size≠W.heap.size+1:=(by omega)));(try (have _:W.heap.size+1<w2.heap.size+1:=(by omega)));(try (have _:w1.heap.size<w2.heap.size:=(by omega)));(try (have _:w1.heap.size≤w2.heap.size:=(by omega)));(try (have _:w1.heap.size≠w2.heap.size:=(by omega)));(try (have _:w2.heap.size≠w1.heap.size:=(by omega)));(try (have _:w1.heap.size<w2.heap.size+1:=(by omega)));(try (have _:w1.heap.size+1<w2.heap.size:=(by omega)));(try (have _:w1.heap.size+1≤w2.heap.size:=(by omega)));(try (have _:w1.heap.size+1≠w2.heap.size:=(by omega)));(try (have _:w2.heap.size≠w1.heap.size+1:=(by omega)));(try (have _:w1.heap.size+1<w2.heap.size+1:=(by omega)))))
     all_goals go_wp2
     all_goals simp [bodyPost,results,Tryz.results173,go_sem, *]
     all_goals repeat (first|with_reducible exact BB.out|with_reducible refine Below.drew ?_|with_reducible refine Below.setCell ?_ (by with_reducible assumption) _|with_reducible refine Below.trans ?_ (Below.mono hb2 (by omega))|with_reducible refine Below.trans ?_ (Below.mono hb1 (by omega)))
    ·have hi':(i:Int)<8:=by omega
     have eo:((i:Int)+8).toNat=i+8:=by omega
     have gp:=hP.1 i (by omega)
     have gq:=hP.1 (i+8) (by omega)
     have gl:=hl.1 i (by omega)
     have gh:=hh.1 i (by omega)
     have fl:=hl.2 i (by omega)
     have fh:=hh.2 i (by omega)
     go_wp2
     (try (go_region;go_wp2))
     go_roundg (8-(i+1))
     case measure=>have:=HK2.out;omega
     case rel =>
      refine ⟨i+1,Lo.set i (P.getD i 0),Hi.set i (P.getD (i+8) 0),rfl,by omega,by go_num,by rw [List.length_set];exact lL,by rw [List.length_set];exact lH,fun t ht=>?_,fun t ht=>?_,(B.setCell o3 _).setCell o4 _,(hR.set d1.symm _).set d4.symm _,(hS.set d2.symm _).set d5.symm _,(hP.other d3.symm _).other d6.symm _,(hl.set i (by omega) _).other d7.symm _,(hh.other d7 _).set i (by omega) _⟩
      ·by_cases e:t=i
       ·subst e;rw [jY (by omega)]
       ·rw [getD_set_ne e];exact EE.out.1 t (by omega)
      ·by_cases e:t=i
       ·subst e;rw [jY (by omega)]
       ·rw [getD_set_ne e];exact EE.out.2 t (by omega)
  ·have hi':(i:Int)<8:=by omega
   have gx:=hA.1 i (by omega)
   have hx:=GA.out.1.getD i
   have tkA:=ji As i (by omega)
   generalize hxe:As.getD i 0=x at *
   have HX:Hid (Dig x∧vd (As.take (i+1))=vd (As.take i)+4294967296 ^ i*x∧As.getD i 0=x):=⟨hx,tkA,hxe⟩
   clear hx tkA hxe
   go_wp2_with fail
   go_loopg [10,11] 8 (fun k cv jv wr=>∃ (j:Nat) (P:List Int) (c:Int),k=8-j∧j≤8∧cv = .int .u64 c∧jv = .int .i64 j∧Dig c∧P.length=16∧cJ P∧(∀ t,i+8≤t→P.getD t 0=0)∧vd P+4294967296 ^ i*4294967296 ^ j*c=vd (As.take i)*m+4294967296 ^ i*(x*vd (Bs.take j))∧Below w.heap.size w wr∧ac wr br∧ac wr bs∧Dgs wr ba As∧Dgs wr bb Bs∧Dgs wr bp P)
   case atStart=>exact ⟨0,P,0,rfl,by decide,rfl,rfl,⟨by decide,by decide⟩,hL,GP.out.1,GP.out.2,by have:=IV.out;simp [vd];exact this,B,hR,hS,hA,hB,hP⟩
   case round =>
    clear B hR hS hA hB hP gx IV GP hL P
    obtain ⟨j,P,c,hk,hj,rfl,rfl,hc,hL,gL,tl,inv,B,hR,hS,hA,hB,hP⟩:=hrel
    have HK2:Hid (gk=8-j):=hk
    have IV:Hid (vd P+4294967296 ^ i*4294967296 ^ j*c=vd (As.take i)*m+4294967296 ^ i*(x*vd (Bs.take j))):=inv
    have GP:Hid (cJ P∧∀ t,i+8≤t→P.getD t 0=0):=⟨gL,tl⟩
    clear inv gL hk tl
    by_cases h8:j=8
    ·subst h8
     have eo:((i:Int)+8).toNat=i+8:=by omega
     have gp:=hP.1 (i+8) (by omega)
     have fp:=hP.2 (i+8) (by omega)
     have tk:Bs.take 8=Bs:=by rw [←lB];exact List.take_length
     have iv:=IV.out
     rw [tk,GB.out.2] at iv
     have E:Hid (vd (P.set (i+8) c)=vd (As.take (i+1))*m):=by
      rw [ln P (i+8) c (by omega),GP.out.2 (i+8) (by omega),Int.sub_zero,HX.out.2.1,Int.pow_add]
      exact xT iv
     have HC:Hid (Dig c):=hc
     clear iv tk IV hc
     go_wp2
     (try (go_region;go_wp2))
     go_roundg (8-(i+1))
     case measure=>have:=HK.out;omega
     case rel=>exact ⟨i+1,P.set (i+8) c,rfl,by omega,by go_num,by rw [List.length_set];exact hL,GP.out.1.set _ HC.out,fun t ht=>by rw [getD_set_ne (by omega)];exact GP.out.2 t (by omega),E.out,B.setCell o2 _,hR.set c1.symm _,hS.set c2.symm _,hA.other c3.symm _,hB.other c4.symm _,hP.set (i+8) (by omega) _⟩
    ·have hj':(j:Int)<8:=by omega
     have eo:((i:Int)+(j:Int)).toNat=i+j:=by omega
     have gx:=hA.1 i (by omega)
     rw [HX.out.2.2] at gx
     have gy:=hB.1 j (by omega)
     have gp:=hP.1 (i+j) (by omega)
     have fp:=hP.2 (i+j) (by omega)
     have hy:=GB.out.1.getD j
     have hp:=GP.out.1.getD (i+j)
     have tkB:=ji Bs j (by omega)
     have S:Hid (∀ v c',v+4294967296*c'=P.getD (i+j) 0+x*Bs.getD j 0+c→vd (P.set (i+j) v)+4294967296 ^ i*4294967296 ^ (j+1)*c'=vd (As.take i)*m+4294967296 ^ i*(x*vd (Bs.take (j+1)))):=fun v c' h=>by
      rw [ln P (i+j) v (by omega),tkB,Int.pow_add,Int.pow_succ,←Int.mul_assoc]
      exact vr h IV.out
     obtain ⟨z0,z1,z2,z3⟩:=vt HX.out.1 hy hp hc
     clear tkB IV hy
     generalize P.getD (i+j) 0=p at *
     generalize Bs.getD j 0=y at *
     obtain ⟨c0',c1'⟩:=hc
     obtain ⟨p0,p1⟩:=hp
     generalize hz:x*y=z at *
     go_wp2
     (try (go_region;go_wp2))
     go_roundg (8-(j+1))
     case measure=>have:=HK2.out;omega
     case rel=>exact ⟨j+1,P.set (i+j) ((p+z+c)%4294967296),(p+z+c)/4294967296,rfl,by omega,rfl,by go_num,⟨by omega,by omega⟩,by rw [List.length_set];exact hL,GP.out.1.set _ ⟨by omega,by omega⟩,fun t ht=>by rw [getD_set_ne (by omega)];exact GP.out.2 t (by omega),S.out _ _ (by omega),B.drew.setCell o2 _,hR.drew.set c1.symm _,hS.drew.set c2.symm _,hA.drew.other c3.symm _,hB.drew.other c4.symm _,hP.drew.set (i+j) (by omega) _⟩
open Go.RowKit Go.Sort
def rM (k:Int):Int:=if k=0 then pN else nN
def rC (k:Int):Int:=if k=0 then pC else nC
theorem qG (k:Int):Fit (rM k) (rC k):=by
 unfold rM rC
 by_cases h:k=0
 ·rw [if_pos h,if_pos h];exact am
 ·rw [if_neg h,if_neg h];exact dY
theorem dQ (k:Int) (w:World) :
  Calls Tryz.prog 109 #[.int .i64 k] w fun e w'=>e = .returned (.agg #[.int .u64 (l0 (rM k)),.int .u64 (l1 (rM k)),.int .u64 (l2 (rM k)),.int .u64 (l3 (rM k))])∧Below w.heap.size w w':=by
 by_cases h0:k=0
 ·obtain ⟨a0,a1,a2,a3⟩:=rT
  rw [show rM k=pN by simp [rM,h0],a0,a1,a2,a3]
  subst h0
  clear a0 a1 a2 a3
  go_enter Tryz.func109,Tryz.ntmps109
  go_wp2
  simp [bodyPost,results,Tryz.results109,go_sem]
  repeat (first|with_reducible exact Below.refl _ _|with_reducible refine Below.drew ?_|with_reducible refine Below.alloc ?_ (by first|omega|(simp;done)|(simp;omega)) _|with_reducible refine Below.setCell ?_ (by first|omega|(simp;done)) _)
 ·obtain ⟨a0,a1,a2,a3⟩:=rU
  rw [show rM k=nN by simp [rM,h0],a0,a1,a2,a3]
  have t0:(k==0)=false:=by simp [h0]
  clear a0 a1 a2 a3
  go_enter Tryz.func109,Tryz.ntmps109
  go_wp2
  simp [bodyPost,results,Tryz.results109,go_sem]
  repeat (first|with_reducible exact Below.refl _ _|with_reducible refine Below.drew ?_|with_reducible refine Below.alloc ?_ (by first|omega|(simp;done)|(simp;omega)) _|with_reducible refine Below.setCell ?_ (by first|omega|(simp;done)) _)
theorem AO (k:Int):ca 0 (rM k)=rC k:=by
 obtain ⟨a,b,c⟩:=qG k
 unfold ca;omega
structure RF (w W:World) (bh bl br bz bm bc:Nat) (H L m c:Int):Prop where
 B:RowKit.Below w.heap.size w W
 hH:Var W bh H
 hL:Var W bl L
 hR:ac W br
 hZ:ac W bz
 hM:ab W bm m
 hC:ab W bc c
theorem RF.keep {w W w1:World} {bh bl br bz bm bc:Nat} {H L m c:Int} (s:RF w W bh bl br bz bm bc H L m c) (hb:RowKit.Below W.heap.size W w1):RF w w1 bh bl br bz bm bc H L m c :=
 ⟨s.B.trans (hb.mono s.B.size),s.hH.keep hb,s.hL.keep hb,s.hR.keep hb,s.hZ.keep hb,s.hM.keep hb,s.hC.keep hb⟩
theorem RF.alloc {w W:World} {bh bl br bz bm bc:Nat} {H L m c:Int} (s:RF w W bh bl br bz bm bc H L m c) (o:Obj):RF w (W.alloc o) bh bl br bz bm bc H L m c:=s.keep ((Below.refl _ _).alloc (Nat.le_refl _) o)
structure RA (w:World) (bh bl br bz bm bc:Nat):Prop where
 h:w.heap.size≤bh
 l:w.heap.size≤bl
 r:w.heap.size≤br
 hl:bh≠bl
 hr:bh≠br
 hz:bh≠bz
 hm:bh≠bm
 hc:bh≠bc
 lr:bl≠br
 lz:bl≠bz
 lm:bl≠bm
 lc:bl≠bc
theorem RF.setH {w W:World} {bh bl br bz bm bc:Nat} {H L m c:Int} (s:RF w W bh bl br bz bm bc H L m c) (a:RA w bh bl br bz bm bc) (k:Int):RF w ((((W.setCell ⟨bh,0,none⟩ (.int .u64 (l0 k))).setCell ⟨bh,1,none⟩ (.int .u64 (l1 k))).setCell ⟨bh,2,none⟩ (.int .u64 (l2 k))).setCell ⟨bh,3,none⟩ (.int .u64 (l3 k))) bh bl br bz bm bc k L m c :=
 ⟨ah s.B a.h _ _ _ _,s.hH.sets k,s.hL.set4 a.hl _ _ _ _,s.hR.set4 a.hr _ _ _ _,s.hZ.set4 a.hz _ _ _ _,s.hM.set4 a.hm _ _ _ _,s.hC.set4 a.hc _ _ _ _⟩
theorem RF.setL {w W:World} {bh bl br bz bm bc:Nat} {H L m c:Int} (s:RF w W bh bl br bz bm bc H L m c) (a:RA w bh bl br bz bm bc) (k:Int):RF w ((((W.setCell ⟨bl,0,none⟩ (.int .u64 (l0 k))).setCell ⟨bl,1,none⟩ (.int .u64 (l1 k))).setCell ⟨bl,2,none⟩ (.int .u64 (l2 k))).setCell ⟨bl,3,none⟩ (.int .u64 (l3 k))) bh bl br bz bm bc H k m c :=
 ⟨ah s.B a.l _ _ _ _,s.hH.set4 a.hl.symm _ _ _ _,s.hL.sets k,s.hR.set4 a.lr _ _ _ _,s.hZ.set4 a.lz _ _ _ _,s.hM.set4 a.lm _ _ _ _,s.hC.set4 a.lc _ _ _ _⟩
theorem iy {k h l:Int} (hh:Num h) (hl:Num l) (w:World) :
  Calls Tryz.prog 142 #[.int .i64 k,.agg #[.int .u64 (l0 h),.int .u64 (l1 h),.int .u64 (l2 h),.int .u64 (l3 h)],.agg #[.int .u64 (l0 l),.int .u64 (l1 l),.int .u64 (l2 l),.int .u64 (l3 l)]] w fun e w'=>e = .returned (.agg #[.int .u64 (l0 (ag (rM k) (aI h l))),.int .u64 (l1 (ag (rM k) (aI h l))),.int .u64 (l2 (ag (rM k) (aI h l))),.int .u64 (l3 (ag (rM k) (aI h l)))])∧Below w.heap.size w w':=by
 have hf:=qG k
 have S0:Hid (∀ w,Calls Tryz.prog 39 #[.agg #[.int .u64 0,.int .u64 0,.int .u64 0,.int .u64 0],.agg #[.int .u64 (l0 (rM k)),.int .u64 (l1 (rM k)),.int .u64 (l2 (rM k)),.int .u64 (l3 (rM k))]] w fun e w'=>e = .returned (.tuple #[.agg #[.int .u64 (l0 (rC k)),.int .u64 (l1 (rC k)),.int .u64 (l2 (rC k)),.int .u64 (l3 (rC k))],.int .u64 (cL 0 (rM k))])∧Below w.heap.size w w'):=fun w=>by
  have:=gE (n:=0) ⟨by decide,by decide⟩ hf.num w
  obtain ⟨z0,z1,z2,z3⟩:=aq
  ((try delta U4 P9 Rt at this);rw [AO,z0,z1,z2,z3] at this)
  exact this
 have M0:Hid (∀ w,Calls Tryz.prog 109 #[.int .i64 k] w fun e w'=>e = .returned (.agg #[.int .u64 (l0 (rM k)),.int .u64 (l1 (rM k)),.int .u64 (l2 (rM k)),.int .u64 (l3 (rM k))])∧Below w.heap.size w w'):=dQ k
 generalize cL 0 (rM k)=z at *
 generalize rM k=m at *
 generalize rC k=c at *
 go_enter Tryz.func142,Tryz.ntmps142
 go_wp2_with fail
 refine aa (fun W=>Below w.heap.size w W∧Var W w.heap.size h∧Var W (w.heap.size+1) l∧ac W (w.heap.size+1+1)∧ac W (w.heap.size+1+1+1)) ⟨by repeat (first|with_reducible exact Below.refl _ _|with_reducible refine Below.alloc ?_ (by first|omega|(simp;done)|(simp;omega)) _),(((Var.new (by simp)).alloc _).alloc _).alloc _,((Var.new (by simp)).alloc _).alloc _,(ac.new (by simp)).alloc _,ac.new (by simp)⟩ ?_
 rintro W ⟨B,hH,hL,hR,hZ⟩
 with_reducible refine (M0.out _).mono ?_
 rintro e w1 ⟨rfl,hb⟩
 replace B:=B.trans (hb.mono B.size)
 replace hH:=hH.keep hb;replace hL:=hL.keep hb;replace hR:=hR.keep hb;replace hZ:=hZ.keep hb
 clear hb W
 have gZ:=fun o=>(hZ.alloc o).1.all4
 go_wp2_with fail
 have mlt:w.heap.size+1+1+1<w1.heap.size:=hZ.1.lt (by simp)
 refine aa (fun W=>Below w.heap.size w W∧Var W w.heap.size h∧Var W (w.heap.size+1) l∧ac W (w.heap.size+1+1)∧ac W (w.heap.size+1+1+1)∧ab W w1.heap.size m) ⟨B.alloc B.size _,hH.alloc _,hL.alloc _,hR.alloc _,hZ.alloc _,ab.new _ _ _⟩ ?_
 clear B hH hL hR hZ gZ
 rintro W ⟨B,hH,hL,hR,hZ,hM⟩
 with_reducible refine (S0.out _).mono ?_
 rintro e w2 ⟨rfl,hb⟩
 replace B:=B.trans (hb.mono B.size)
 replace hH:=hH.keep hb;replace hL:=hL.keep hb;replace hR:=hR.keep hb;replace hZ:=hZ.keep hb;replace hM:=hM.keep hb
 clear hb W
 go_wp2_with fail
 have clt:w1.heap.size<w2.heap.size:=World.block_lt_of_cell? _ _ hM.1
 refine af (fun W=>RF w W w.heap.size (w.heap.size+1) (w.heap.size+1+1) (w.heap.size+1+1+1) w1.heap.size w2.heap.size h l m c) ⟨B.alloc B.size _,hH.alloc _,hL.alloc _,hR.alloc _,hZ.alloc _,hM.alloc _,ab.new _ _ _⟩ ?_
 clear B hH hL hR hZ hM S0 M0
 rintro W Y
 have A:RA w w.heap.size (w.heap.size+1) (w.heap.size+1+1) (w.heap.size+1+1+1) w1.heap.size w2.heap.size:=⟨by omega,by omega,by omega,by omega,by omega,by omega,by omega,by omega,by omega,by omega,by omega,by omega⟩
 clear mlt clt
 generalize w2.heap.size=bc at *
 generalize w1.heap.size=bm at *
 generalize w.heap.size+1+1+1=bz at *
 generalize w.heap.size+1+1=br at *
 generalize w.heap.size+1=bl at *
 generalize hbh:w.heap.size=bh at *
 go_loopg [] (aI h l).toNat (fun g wr=>∃ H L:Int,g=(aI H L).toNat∧Num H∧Num L∧aI H L%m=aI h l%m∧RF w wr bh bl br bz bm bc H L m c)
 case atStart=>exact ⟨h,l,rfl,hh,hl,rfl,Y⟩
 case round =>
  clear Y W
  obtain ⟨H,L,hg,nH,nL,he,Y⟩:=hrel
  have E:Hid (gk=(aI H L).toNat∧aI H L%m=aI h l%m):=⟨hg,he⟩
  clear hg he
  have hq:=gD nH
  have gH:=Y.hH.1.cells;have gZ:=Y.hZ.1.all4;have gC:=Y.hC.cells
  by_cases hz:H=0
  ·simp only [hz,decide_true] at hq
   subst hz
   have e2:L%m=aI h l%m:=by have:=E.out.2;rw [jG] at this;exact this
   clear E hq gC
   have hq:=gD (m:=0) ⟨by decide,by decide⟩
   simp only [decide_true] at hq
   go_wp2_with fail
   clear gH gZ hq
   go_loopg [] L.toNat (fun g wr=>∃ K:Int,g=K.toNat∧Num K∧K%m=aI h l%m∧RF w wr bh bl br bz bm bc 0 K m c)
   case atStart=>exact ⟨L,rfl,nL,e2,Y⟩
   case round =>
    clear Y e2 nL
    obtain ⟨K,hg,nK,he,Y⟩:=hrel
    have E:Hid (gk=K.toNat∧K%m=aI h l%m):=⟨hg,he⟩
    clear hg he
    have gL:=Y.hL.1.cells;have gM:=Y.hM.cells
    have C:Hid (∀ w,Calls Tryz.prog 33 #[.agg #[.int .u64 (l0 K),.int .u64 (l1 K),.int .u64 (l2 K),.int .u64 (l3 K)],.agg #[.int .u64 (l0 m),.int .u64 (l1 m),.int .u64 (l2 m),.int .u64 (l3 m)]] w fun e w'=>e = .returned (.int .i64 (dI K m))∧Below w.heap.size w w'):=jk nK hf.num
    go_wp2_with fail
    with_reducible refine (C.out _).mono ?_
    rintro e w3 ⟨rfl,hb⟩
    replace Y:=Y.keep hb
    clear hb gL gM
    by_cases hlt:K<m
    ·have ec:dI K m = -1:=by unfold dI;rw [if_neg (by omega),if_pos hlt]
     have er:ag m (aI h l)=K:=by unfold ag;rw [←E.out.2];exact Int.emod_eq_of_lt nK.1 hlt
     have ER:Hid (ag m (aI h l)=K):=er
     clear er
     have gL:=Y.hL.1.cells;have gR:=Y.hR.1.all4;have fR:=Y.hR.2.all4
     rw [ec]
     clear ec C
     go_wp2
     simp [bodyPost,results,Tryz.results142,go_sem,gR,ER.out]
     subst hbh
     exact ah Y.B A.r _ _ _ _
    ·have ec:dI K m=0∨dI K m=1:=by
      unfold dI
      by_cases h2:K=m
      ·exact .inl (if_pos h2)
      ·exact .inr (by rw [if_neg h2,if_neg hlt])
     have mp:=hf.pos'
     have ed:ca K m=K-m:=by have:=nK.2;unfold ca;omega
     have E2:Hid ((K-m).toNat<gk∧Num (K-m)∧(K-m)%m=aI h l%m) :=
      ⟨by have:=E.out.1;omega,⟨by omega,by have:=nK.2;omega⟩,by rw [←E.out.2,Int.sub_emod,Int.emod_self,Int.sub_zero,Int.emod_emod_of_dvd _ (Int.dvd_refl m)]⟩
     have D:Hid (∀ w,Calls Tryz.prog 39 #[.agg #[.int .u64 (l0 K),.int .u64 (l1 K),.int .u64 (l2 K),.int .u64 (l3 K)],.agg #[.int .u64 (l0 m),.int .u64 (l1 m),.int .u64 (l2 m),.int .u64 (l3 m)]] w fun e w'=>e = .returned (.tuple #[.agg #[.int .u64 (l0 (K-m)),.int .u64 (l1 (K-m)),.int .u64 (l2 (K-m)),.int .u64 (l3 (K-m))],.int .u64 (cL K m)])∧Below w.heap.size w w'):=fun w=>by have:=gE nK hf.num w;rw [ed] at this;exact this
     clear ed hlt mp E C
     generalize K-m=K' at *
     generalize cL K m=zz at *
     have gL:=Y.hL.1.cells;have gM:=Y.hM.cells
     have fin:Hid (∀ (cc:Int),cc=0∨cc=1→(decide (cc<0))=false):=fun cc hcc=>by rcases hcc with rfl|rfl<;>rfl
     rcases ec with ec|ec
     all_goals rw [ec]
     all_goals clear ec fin
     all_goals go_wp2_with fail
     all_goals with_reducible refine (D.out _).mono ?_
     all_goals rintro e w4 ⟨rfl,hb⟩
     all_goals replace Y:=Y.keep hb
     all_goals clear hb gL gM
     all_goals have lL:bl<w4.heap.size:=Y.hL.1.row.lt (by simp)
     all_goals have nl1:bl≠w4.heap.size:=by omega
     all_goals have nl2:w4.heap.size≠bl:=by omega
     all_goals have gL:=Y.hL.1.cells
     all_goals have fL:=Y.hL.2.all4
     all_goals go_wp2
     all_goals go_roundg K'.toNat
     all_goals first|(exact E2.out.1)|(exact ⟨K',rfl,E2.out.2.1,E2.out.2.2,(Y.setL A K').alloc _⟩)|(exact ⟨K',rfl,E2.out.2.1,E2.out.2.2,(Y.alloc _).setL A K'⟩)
  ·have hzd:decide (H=0)=false:=by simp [hz]
   rw [hzd] at hq
   obtain ⟨st1,st2⟩:=mP (l:=L) hf nH hz
   have nn:=eR (fd hf nH nL).1 (ip H L c)
   have nl:=eR nH nL
   have E2:Hid ((aI (cu H L c) (bX H L c)).toNat<gk∧Num (cu H L c)∧Num (bX H L c)∧aI (cu H L c) (bX H L c)%m=aI h l%m) :=
    ⟨by have:=E.out.1;omega,(fd hf nH nL).1,ip H L c,st1.trans E.out.2⟩
   obtain ⟨q1,q2,q3,q4⟩:=fd hf nH nL
   have hc:=hf.numc
   have M1:Hid (∀ w,Calls Tryz.prog 173 #[.agg #[.int .u64 (l0 H),.int .u64 (l1 H),.int .u64 (l2 H),.int .u64 (l3 H)],.agg #[.int .u64 (l0 c),.int .u64 (l1 c),.int .u64 (l2 c),.int .u64 (l3 c)]] w fun e w'=>e = .returned (.tuple #[.agg #[.int .u64 (l0 (hiN H c)),.int .u64 (l1 (hiN H c)),.int .u64 (l2 (hiN H c)),.int .u64 (l3 (hiN H c))],.agg #[.int .u64 (l0 (loN H c)),.int .u64 (l1 (loN H c)),.int .u64 (l2 (loN H c)),.int .u64 (l3 (loN H c))]])∧Below w.heap.size w w'):=pf nH hc
   have A1:Hid (∀ w,Calls Tryz.prog 174 #[.agg #[.int .u64 (l0 (loN H c)),.int .u64 (l1 (loN H c)),.int .u64 (l2 (loN H c)),.int .u64 (l3 (loN H c))],.agg #[.int .u64 (l0 L),.int .u64 (l1 L),.int .u64 (l2 L),.int .u64 (l3 L)]] w fun e w'=>e = .returned (.tuple #[.agg #[.int .u64 (l0 (bX H L c)),.int .u64 (l1 (bX H L c)),.int .u64 (l2 (bX H L c)),.int .u64 (l3 (bX H L c))],.int .u64 (bO (loN H c) L)])∧Below w.heap.size w w'):=fun w=>by
    have:=lP (ky H c) nL w;rw [q2] at this;exact this
   have nc:Num (bO (loN H c) L):=by obtain ⟨a,b⟩:=q4;exact ⟨a,by omega⟩
   have A2:Hid (∀ w,Calls Tryz.prog 174 #[.agg #[.int .u64 (l0 (hiN H c)),.int .u64 (l1 (hiN H c)),.int .u64 (l2 (hiN H c)),.int .u64 (l3 (hiN H c))],.agg #[.int .u64 (l0 (bO (loN H c) L)),.int .u64 (l1 (bO (loN H c) L)),.int .u64 (l2 (bO (loN H c) L)),.int .u64 (l3 (bO (loN H c) L))]] w fun e w'=>e = .returned (.tuple #[.agg #[.int .u64 (l0 (cu H L c)),.int .u64 (l1 (cu H L c)),.int .u64 (l2 (cu H L c)),.int .u64 (l3 (cu H L c))],.int .u64 (bO (hiN H c) (bO (loN H c) L))])∧Below w.heap.size w w'):=fun w=>by
    have:=lP (kB nH hc) nc w;rw [q3] at this;exact this
   have F2:Hid (∀ w,Calls Tryz.prog 155 #[.int .u64 (bO (loN H c) L)] w fun e w'=>e = .returned (.agg #[.int .u64 (l0 (bO (loN H c) L)),.int .u64 (l1 (bO (loN H c) L)),.int .u64 (l2 (bO (loN H c) L)),.int .u64 (l3 (bO (loN H c) L))])∧Below w.heap.size w w'):=dV q4
   clear q1 q2 q3 q4 nc st1 st2 nn nl E hz hzd nH nL hf hc hh hl
   generalize hiN H c=P at *
   generalize loN H c=Q at *
   generalize bO Q L=C at *
   generalize bO P C=D at *
   generalize cu H L c=H' at *
   generalize bX H L c=L' at *
   go_wp2_with fail
   with_reducible refine (M1.out _).mono ?_
   rintro e w3 ⟨rfl,hb⟩
   replace Y:=Y.keep hb
   clear hb gH gZ gC hq
   have gL:=fun o o'=>((Y.hL.alloc o).alloc o').1.cells
   go_wp2_with fail
   refine aa (fun W=>RF w W bh bl br bz bm bc H L m c∧ab W w3.heap.size P) ⟨(Y.alloc _).alloc _,(ab.new _ _ _).alloc _⟩ ?_
   have plt:bc<w3.heap.size:=World.block_lt_of_cell? _ _ Y.hC.1
   clear Y gL
   rintro W ⟨Y,hP⟩
   generalize w3.heap.size+1=bq at *
   generalize w3.heap.size=bp at *
   with_reducible refine (A1.out _).mono ?_
   rintro e w4 ⟨rfl,hb⟩
   replace Y:=Y.keep hb
   replace hP:=hP.keep hb
   clear hb W
   go_wp2_with fail
   have sh:bh≠w4.heap.size:=by have:=Y.hH.1.row.lt (by simp);omega
   have sl:bl≠w4.heap.size:=by have:=Y.hL.1.row.lt (by simp);omega
   refine af (fun W=>RF w W bh bl br bz bm bc H L m c∧ab W bp P∧ab W w4.heap.size L') ⟨Y.alloc _,hP.alloc _,ab.new _ _ _⟩ ?_
   clear Y hP
   rintro W ⟨Y,hP,hS⟩
   generalize w4.heap.size=bs at *
   have gP:=hP.cells
   have lh:bh<W.heap.size:=Y.hH.1.row.lt (by simp)
   have ll:bl<W.heap.size:=Y.hL.1.row.lt (by simp)
   have lp:bp<W.heap.size:=World.block_lt_of_cell? _ _ hP.1
   have ls:bs<W.heap.size:=World.block_lt_of_cell? _ _ hS.1
   have YY:Hid (RF w W bh bl br bz bm bc H L m c):=Y
   have SS:Hid (ab W bs L'):=hS
   clear Y hP hS plt
   refine lg (fun a' W'=>∃ bt,bh≠bt∧bl≠bt∧RF w W' bh bl br bz bm bc H L m c∧ab W' bs L'∧ab W' bt H'∧a'={ tmps:=#[.int .i64 k,.agg #[.int .u64 (l0 h),.int .u64 (l1 h),.int .u64 (l2 h),.int .u64 (l3 h)],.agg #[.int .u64 (l0 l),.int .u64 (l1 l),.int .u64 (l2 l),.int .u64 (l3 l)],Go.undef,.pointer (some { block:=bh,off:=0 }),.pointer (some { block:=bl,off:=0 }),.pointer (some { block:=br,off:=0 }),.pointer (some { block:=bz,off:=0 }),.pointer (some { block:=bm,off:=0 }),.pointer (some { block:=bc,off:=0 }),.int .u64 z,.pointer (some { block:=bp,off:=0 }),.pointer (some { block:=bq,off:=0 }),.pointer (some { block:=bs,off:=0 }),.int .u64 C,.pointer (some { block:=bt,off:=0 }),.int .u64 D,Go.undef,Go.undef,.agg #[.int .u64 0,.int .u64 0,.int .u64 0,.int .u64 0],.int .i64 k,.agg #[.int .u64 (l0 m),.int .u64 (l1 m),.int .u64 (l2 m),.int .u64 (l3 m)],.tuple #[.agg #[.int .u64 (l0 c),.int .u64 (l1 c),.int .u64 (l2 c),.int .u64 (l3 c)],.int .u64 z],.agg #[.int .u64 0,.int .u64 0,.int .u64 0,.int .u64 0],.agg #[.int .u64 (l0 m),.int .u64 (l1 m),.int .u64 (l2 m),.int .u64 (l3 m)],.tuple #[.agg #[.int .u64 (l0 c),.int .u64 (l1 c),.int .u64 (l2 c),.int .u64 (l3 c)],.int .u64 z],.agg #[.int .u64 (l0 c),.int .u64 (l1 c),.int .u64 (l2 c),.int .u64 (l3 c)],.int .u64 z,.agg #[.int .u64 (l0 H),.int .u64 (l1 H),.int .u64 (l2 H),.int .u64 (l3 H)],.agg #[.int .u64 0,.int .u64 0,.int .u64 0,.int .u64 0],.bool true,.tuple #[.agg #[.int .u64 (l0 P),.int .u64 (l1 P),.int .u64 (l2 P),.int .u64 (l3 P)],.agg #[.int .u64 (l0 Q),.int .u64 (l1 Q),.int .u64 (l2 Q),.int .u64 (l3 Q)]],.agg #[.int .u64 (l0 H),.int .u64 (l1 H),.int .u64 (l2 H),.int .u64 (l3 H)],.agg #[.int .u64 (l0 c),.int .u64 (l1 c),.int .u64 (l2 c),.int .u64 (l3 c)],.tuple #[.agg #[.int .u64 (l0 P),.int .u64 (l1 P),.int .u64 (l2 P),.int .u64 (l3 P)],.agg #[.int .u64 (l0 Q),.int .u64 (l1 Q),.int .u64 (l2 Q),.int .u64 (l3 Q)]],.agg #[.int .u64 (l0 P),.int .u64 (l1 P),.int .u64 (l2 P),.int .u64 (l3 P)],.agg #[.int .u64 (l0 Q),.int .u64 (l1 Q),.int .u64 (l2 Q),.int .u64 (l3 Q)],.tuple #[.agg #[.int .u64 (l0 L'),.int .u64 (l1 L'),.int .u64 (l2 L'),.int .u64 (l3 L')],.int .u64 C],.agg #[.int .u64 (l0 Q),.int .u64 (l1 Q),.int .u64 (l2 Q),.int .u64 (l3 Q)],.agg #[.int .u64 (l0 L),.int .u64 (l1 L),.int .u64 (l2 L),.int .u64 (l3 L)],.tuple #[.agg #[.int .u64 (l0 L'),.int .u64 (l1 L'),.int .u64 (l2 L'),.int .u64 (l3 L')],.int .u64 C],.agg #[.int .u64 (l0 L'),.int .u64 (l1 L'),.int .u64 (l2 L'),.int .u64 (l3 L')],.int .u64 C,.tuple #[.agg #[.int .u64 (l0 H'),.int .u64 (l1 H'),.int .u64 (l2 H'),.int .u64 (l3 H')],.int .u64 D],.agg #[.int .u64 (l0 P),.int .u64 (l1 P),.int .u64 (l2 P),.int .u64 (l3 P)],.int .u64 C,.agg #[.int .u64 (l0 C),.int .u64 (l1 C),.int .u64 (l2 C),.int .u64 (l3 C)],.tuple #[.agg #[.int .u64 (l0 H'),.int .u64 (l1 H'),.int .u64 (l2 H'),.int .u64 (l3 H')],.int .u64 D],.agg #[.int .u64 (l0 H'),.int .u64 (l1 H'),.int .u64 (l2 H'),.int .u64 (l3 H')],.int .u64 D,u50,u51,Go.undef,Go.undef,Go.undef,Go.undef,Go.undef,Go.undef,Go.undef,Go.undef,Go.undef,Go.undef,Go.undef,Go.undef],defers:=[] }) ?_ ?_
   ·have dz:W.drew.heap.size=W.heap.size:=rfl
    have _:bh<W.heap.size:=by omega
    have _:bh≤W.heap.size:=by omega
    have _:bh<W.heap.size+1:=by omega
    have _:bh<W.heap.size+1+1:=by omega
    have _:bh≠W.heap.size:=by omega
    have _:W.heap.size≠bh:=by omega
    have _:bh≠W.heap.size+1:=by omega
    have _:W.heap.size+1≠bh:=by omega
    have _:bp<W.heap.size:=by omega
    have _:bp≤W.heap.size:=by omega
    have _:bp<W.heap.size+1:=by omega
    have _:bp<W.heap.size+1+1:=by omega
    have _:bp≠W.heap.size:=by omega
    have _:W.heap.size≠bp:=by omega
    have _:bp≠W.heap.size+1:=by omega
    have _:W.heap.size+1≠bp:=by omega
    have _:bs<W.heap.size:=by omega
    have _:bs≤W.heap.size:=by omega
    have _:bs<W.heap.size+1:=by omega
    have _:bs<W.heap.size+1+1:=by omega
    have _:bs≠W.heap.size:=by omega
    have _:W.heap.size≠bs:=by omega
    have _:bs≠W.heap.size+1:=by omega
    have _:W.heap.size+1≠bs:=by omega
    go_region_held3 (fun w'=>w'.cell? ⟨bp,0,none⟩=some (.int .u64 (l0 P))∧w'.cell? ⟨bp,1,none⟩=some (.int .u64 (l1 P))∧w'.cell? ⟨bp,2,none⟩=some (.int .u64 (l2 P))∧w'.cell? ⟨bp,3,none⟩=some (.int .u64 (l3 P))) (((try dsimp only);(repeat' (apply And.intro));(all_goals repeat (first|with_reducible assumption|with_reducible apply cell_keep hb2|with_reducible apply cell_keep hb1|with_reducible apply cell_alloc|(with_reducible refine cell_set ?_ (by with_reducible assumption))|(simp [go_sem, *];done)))))
     (first
      | (go_at_call 155;with_reducible refine (F2.out _).mono ?_;rintro e w1 ⟨rfl,hb1⟩;have hc1:=aj hb1;have hz1:=hb1.size;(try simp at hz1);(try (have:=fun j=>aj hb1 (W.heap.size) j (by first|omega|(simp;done)|(simp;omega))));(try (have:=fun j=>aj hb1 (W.heap.size+1) j (by first|omega|(simp;done)|(simp;omega))));have _:bh<w1.heap.size:=(by omega);have _:bh≤w1.heap.size:=(by omega);have _:bh<w1.heap.size+1:=(by omega);have _:bh<w1.heap.size+1+1:=(by omega);have _:bh≠w1.heap.size:=(by omega);have _:w1.heap.size≠bh:=(by omega);have _:bh≠w1.heap.size+1:=(by omega);have _:w1.heap.size+1≠bh:=(by omega);have _:bp<w1.heap.size:=(by omega);have _:bp≤w1.heap.size:=(by omega);have _:bp<w1.heap.size+1:=(by omega);have _:bp<w1.heap.size+1+1:=(by omega);have _:bp≠w1.heap.size:=(by omega);have _:w1.heap.size≠bp:=(by omega);have _:bp≠w1.heap.size+1:=(by omega);have _:w1.heap.size+1≠bp:=(by omega);have _:bs<w1.heap.size:=(by omega);have _:bs≤w1.heap.size:=(by omega);have _:bs<w1.heap.size+1:=(by omega);have _:bs<w1.heap.size+1+1:=(by omega);have _:bs≠w1.heap.size:=(by omega);have _:w1.heap.size≠bs:=(by omega);have _:bs≠w1.heap.size+1:=(by omega);have _:w1.heap.size+1≠bs:=(by omega);(try (have _:W.heap.size<w1.heap.size:=(by omega)));(try (have _:W.heap.size≤w1.heap.size:=(by omega)));(try (have _:W.heap.size≠w1.heap.size:=(by omega)));(try (have _:w1.heap.size≠W.heap.size:=(by omega)));(try (have _:W.heap.size<w1.heap.size+1:=(by omega)));(try (have _:W.heap.size+1<w1.heap.size:=(by omega)));(try (have _:W.heap.size+1≤w1.heap.size:=(by omega)));(try (have _:W.heap.size+1≠w1.heap.size:=(by omega)));(try (have _:w1.heap.size≠W.heap.size+1:=(by omega)));(try (have _:W.heap.size+1<w1.heap.size+1:=(by omega))))
      | (go_at_call 174;with_reducible refine (A2.out _).mono ?_;rintro e w2 ⟨rfl,hb2⟩;have hc2:=aj hb2;have hz2:=hb2.size;(try simp at hz2);(try (have:=fun j=>aj hb2 (W.heap.size) j (by first|omega|(simp;done)|(simp;omega))));(try (have:=fun j=>aj hb2 (W.heap.size+1) j (by first|omega|(simp;done)|(simp;omega))));(try (have:=fun j=>aj hb2 (w1.heap.size) j (by first|omega|(simp;done)|(simp;omega))));(try (have:=fun j=>aj hb2 (w1.heap.size+1) j (by first|omega|(simp;done)|(simp;omega))));have _:bh<w2.heap.size:=(by omega);have _:bh≤w2.heap.size:=(by omega);have _:bh<w2.heap.size+1:=(by omega);have _:bh<w2.heap.size+1+1:=(by omega);have _:bh≠w2.heap.size:=(by omega);have _:w2.heap.size≠bh:=(by omega);have _:bh≠w2.heap.size+1:=(by omega);have _:w2.heap.size+1≠bh:=(by omega);have _:bp<w2.heap.size:=(by omega);have _:bp≤w2.heap.size:=(by omega);have _:bp<w2.heap.size+1:=(by omega);have _:bp<w2.heap.size+1+1:=(by omega);have _:bp≠w2.heap.size:=(by omega);have _:w2.heap.size≠bp:=(by omega);have _:bp≠w2.heap.size+1:=(by omega);have _:w2.heap.size+1≠bp:=(by omega);have _:bs<w2.heap.size:=(by omega);have _:bs≤w2.heap.size:=(by omega);have _:bs<w2.heap.size+1:=(by omega);have _:bs<w2.heap.size+1+1:=(by omega);have _:bs≠w2.heap.size:=(by omega);have _:w2.heap.size≠bs:=(by omega);have _:bs≠w2.heap.size+1:=(by omega);have _:w2.heap.size+1≠bs:=(by omega);(try (have _:W.heap.size<w2.heap.size:=(by omega)));(try (have _:W.heap.size≤w2.heap.size:=(by omega)));(try (have _:W.heap.size≠w2.heap.size:=(by omega)));(try (have _:w2.heap.size≠W.heap.size:=(by omega)));(try (have _:W.heap.size<w2.heap.size+1:=(by omega)));(try (have _:W.heap.size+1<w2.heap.size:=(by omega)));(try (have _:W.heap.size+1≤w2.heap.size:=(by omega)));(try (have _:W.heap.size+1≠w2.heap.size:=(by omega)));(try (have _:w2.heap.size≠W.heap.size+1:=(by omega)));(try (have _:W.heap.size+1<w2.heap.size+1:=(by omega)));(try (have _:w1.heap.size<w2.heap.size:=(by omega)));(try (have _:w1.heap.size≤w2.heap.size:=(by omega)));(try (have _:w1.heap.size≠w2.heap.size:=(by omega)));(try (have _:w2.heap.size≠w1.heap.size:=(by omega)));(try (have _:w1.heap.size<w2.heap.size+1:=(by omega)));(try (have _:w1.heap.size+1<w2.heap.size:=(by omega)));(try (have _:w1.heap.size+1≤w2.heap.size:=(by omega)));(try (have _:w1.heap.size+1≠w2.heap.size:=(by omega)));(try (have _:w2.heap.size≠w1.heap.size+1:=(by omega)));(try (have _:w1.heap.size+1<w2.heap.size+1:=(by omega)))))
    all_goals (refine o7.intro ⟨_,by omega,by omega,RF.keep YY.out ?_,ab.keep SS.out ?_,?_,rfl⟩)
    all_goals repeat (first|with_reducible exact Below.refl _ _|with_reducible refine Below.alloc ?_ (by first|omega|(simp;done)|(simp;omega)) _|with_reducible refine Below.setCell ?_ (by first|with_reducible assumption|exact Nat.le_refl _) _|with_reducible refine Below.drew ?_|with_reducible refine ab.fresh (by first|rfl|(simp;done)|fail)|with_reducible refine ab.sets4 ?_|with_reducible refine ab.alloc ?_ _|with_reducible refine ab.drew ?_|with_reducible refine Has.fresh (by first|rfl|(simp;done)|fail) (by first|(simp;done)|fail)|with_reducible refine Has.alloc ?_ _|with_reducible refine Has.drew ?_|with_reducible refine Below.trans ?_ (Below.mono hb2 (by first|omega|(simp;done)|(simp;omega)))|with_reducible refine Has.keep ?_ hb2|with_reducible refine ab.keep ?_ hb2|with_reducible refine Below.trans ?_ (Below.mono hb1 (by first|omega|(simp;done)|(simp;omega)))|with_reducible refine Has.keep ?_ hb1|with_reducible refine ab.keep ?_ hb1)
   rintro _ W1 ⟨bt,th,tl,Y,hS,hT,rfl⟩
   clear YY SS gP lh lp ls ll W
   have gS:=hS.cells;have gT:=hT.cells;have gH:=Y.hH.1.cells;have fH:=Y.hH.2.all4;have gL:=Y.hL.1.cells;have fL:=Y.hL.2.all4
   have hl':=A.hl;have hl2:=A.hl.symm;have sh':=sh.symm;have sl':=sl.symm;have th':=th.symm;have tl':=tl.symm
   go_wp2
   go_roundg (aI H' L').toNat
   case measure=>exact E2.out.1
   case rel=>exact ⟨H',L',rfl,E2.out.2.1,E2.out.2.2.1,E2.out.2.2.2,(Y.setH A H').setL A L'⟩
open Go.RowKit Go.Sort
structure Kind (k m c:Int):Prop where
 em:kM k=m
 ec:kC k=c
 ee:kE k=0
 fit:Fit m c
theorem ox:Kind 0 pN pC:=⟨rfl,rfl,rfl,am⟩
theorem jK:Kind 1 nN nC:=⟨rfl,rfl,rfl,dY⟩
theorem fA {k m c:Int} (h:Kind k m c) (w:World) (hm:Mds w) :
  Rt 127 #[.int .i64 k] w (.tuple #[.agg #[.int .u64 (l0 m),.int .u64 (l1 m),.int .u64 (l2 m),.int .u64 (l3 m),.int .u64 (l0 c),.int .u64 (l1 c),.int .u64 (l2 c),.int .u64 (l3 c)],.int .i64 0]):=by
 have:=zQ k w hm
 rw [h.em,h.ec,h.ee] at this
 exact this
theorem pg {k m c x y:Int} (hk:Kind k m c) (hx:Num x) (hy:Num y) (w:World) (hm:Mds w) :
  Rt 104 #[.int .i64 k,U4 x,U4 y] w (.tuple #[U4 (ag m (aI x y)),.int .i64 0]):=by
 have C:Hid (∀ w,Rt 138 #[.agg #[.int .u64 (l0 m),.int .u64 (l1 m),.int .u64 (l2 m),.int .u64 (l3 m),.int .u64 (l0 c),.int .u64 (l1 c),.int .u64 (l2 c),.int .u64 (l3 c)],U4 x,U4 y] w (U4 (ag m (aI x y)))):=jZ hk.fit hx hy
 generalize (ag m (aI x y))=r at *
 go_enter Tryz.func104,Tryz.ntmps104
 go_wp2_with fail
 refine aa (fun W=>Below w.heap.size w W∧Mds W∧ab W w.heap.size x∧ab W (w.heap.size+1) y∧ac W (w.heap.size+1+1)) ⟨by repeat (first|with_reducible exact Below.refl _ _|with_reducible refine Below.alloc ?_ (by first|omega|(simp;done)|(simp;omega)) _),((hm.alloc _).alloc _).alloc _,((ab.fresh (by simp)).alloc _).alloc _,(ab.fresh (by simp)).alloc _,ac.new (by simp)⟩ ?_
 rintro W ⟨B,hD,hX,hY,hR⟩
 have o3:w.heap.size≤w.heap.size+1+1:=by omega
 generalize w.heap.size+1+1=br at *
 generalize w.heap.size+1=bw at *
 with_reducible refine (fA hk _ hD).mono ?_
 rintro e w1 ⟨rfl,hb⟩
 replace B:=B.trans (hb.mono B.size)
 replace hX:=hX.keep hb;replace hY:=hY.keep hb;replace hR:=hR.keep hb
 clear hb hD W
 have gX:=hX.allocs;have gY:=hY.allocs
 go_wp2_with fail
 refine aa (fun W=>Below w.heap.size w W∧ac W br) ⟨B.alloc B.size _,hR.alloc _⟩ ?_
 clear B hX hY hR gX gY
 rintro W ⟨B,hR⟩
 with_reducible refine (C.out _).mono ?_
 rintro e w2 ⟨rfl,hb⟩
 replace B:=B.trans (hb.mono B.size)
 replace hR:=hR.keep hb
 clear hb W
 have gR:=hR.1.all4;have fR:=hR.2.all4
 go_wp2
 simp [bodyPost,results,Tryz.results104,go_sem,gR]
 exact ah B o3 _ _ _ _
theorem ph {k m c x y:Int} (hk:Kind k m c) (hx:Num x) (hy:Num y) (w:World) (hm:Mds w) :
  Rt 105 #[.int .i64 k,U4 x,U4 y] w (.tuple #[U4 (ag m (x+y)),.int .i64 0]):=by
 have C:Hid (∀ w,Rt 139 #[.agg #[.int .u64 (l0 m),.int .u64 (l1 m),.int .u64 (l2 m),.int .u64 (l3 m),.int .u64 (l0 c),.int .u64 (l1 c),.int .u64 (l2 c),.int .u64 (l3 c)],U4 x,U4 y] w (U4 (ag m (x+y)))):=vB hk.fit hx hy
 generalize (ag m (x+y))=r at *
 go_enter Tryz.func105,Tryz.ntmps105
 go_wp2_with fail
 refine aa (fun W=>Below w.heap.size w W∧Mds W∧ab W w.heap.size x∧ab W (w.heap.size+1) y∧ac W (w.heap.size+1+1)) ⟨by repeat (first|with_reducible exact Below.refl _ _|with_reducible refine Below.alloc ?_ (by first|omega|(simp;done)|(simp;omega)) _),((hm.alloc _).alloc _).alloc _,((ab.fresh (by simp)).alloc _).alloc _,(ab.fresh (by simp)).alloc _,ac.new (by simp)⟩ ?_
 rintro W ⟨B,hD,hX,hY,hR⟩
 have o3:w.heap.size≤w.heap.size+1+1:=by omega
 generalize w.heap.size+1+1=br at *
 generalize w.heap.size+1=bw at *
 with_reducible refine (fA hk _ hD).mono ?_
 rintro e w1 ⟨rfl,hb⟩
 replace B:=B.trans (hb.mono B.size)
 replace hX:=hX.keep hb;replace hY:=hY.keep hb;replace hR:=hR.keep hb
 clear hb hD W
 have gX:=hX.allocs;have gY:=hY.allocs
 go_wp2_with fail
 refine aa (fun W=>Below w.heap.size w W∧ac W br) ⟨B.alloc B.size _,hR.alloc _⟩ ?_
 clear B hX hY hR gX gY
 rintro W ⟨B,hR⟩
 with_reducible refine (C.out _).mono ?_
 rintro e w2 ⟨rfl,hb⟩
 replace B:=B.trans (hb.mono B.size)
 replace hR:=hR.keep hb
 clear hb W
 have gR:=hR.1.all4;have fR:=hR.2.all4
 go_wp2
 simp [bodyPost,results,Tryz.results105,go_sem,gR]
 exact ah B o3 _ _ _ _
theorem vC {k m c x y:Int} (hk:Kind k m c) (hx:Num x) (hy:Num y) (w:World) (hm:Mds w) :
  Rt 162 #[.int .i64 k,U4 x,U4 y] w (.tuple #[U4 (ag m (x-y)),.int .i64 0]):=by
 have C:Hid (∀ w,Rt 134 #[.agg #[.int .u64 (l0 m),.int .u64 (l1 m),.int .u64 (l2 m),.int .u64 (l3 m),.int .u64 (l0 c),.int .u64 (l1 c),.int .u64 (l2 c),.int .u64 (l3 c)],U4 x,U4 y] w (U4 (ag m (x-y)))):=pe hk.fit hx hy
 generalize (ag m (x-y))=r at *
 go_enter Tryz.func162,Tryz.ntmps162
 go_wp2_with fail
 refine aa (fun W=>Below w.heap.size w W∧Mds W∧ab W w.heap.size x∧ab W (w.heap.size+1) y∧ac W (w.heap.size+1+1)) ⟨by repeat (first|with_reducible exact Below.refl _ _|with_reducible refine Below.alloc ?_ (by first|omega|(simp;done)|(simp;omega)) _),((hm.alloc _).alloc _).alloc _,((ab.fresh (by simp)).alloc _).alloc _,(ab.fresh (by simp)).alloc _,ac.new (by simp)⟩ ?_
 rintro W ⟨B,hD,hX,hY,hR⟩
 have o3:w.heap.size≤w.heap.size+1+1:=by omega
 generalize w.heap.size+1+1=br at *
 generalize w.heap.size+1=bw at *
 with_reducible refine (fA hk _ hD).mono ?_
 rintro e w1 ⟨rfl,hb⟩
 replace B:=B.trans (hb.mono B.size)
 replace hX:=hX.keep hb;replace hY:=hY.keep hb;replace hR:=hR.keep hb
 clear hb hD W
 have gX:=hX.allocs;have gY:=hY.allocs
 go_wp2_with fail
 refine aa (fun W=>Below w.heap.size w W∧ac W br) ⟨B.alloc B.size _,hR.alloc _⟩ ?_
 clear B hX hY hR gX gY
 rintro W ⟨B,hR⟩
 with_reducible refine (C.out _).mono ?_
 rintro e w2 ⟨rfl,hb⟩
 replace B:=B.trans (hb.mono B.size)
 replace hR:=hR.keep hb
 clear hb W
 have gR:=hR.1.all4;have fR:=hR.2.all4
 go_wp2
 simp [bodyPost,results,Tryz.results162,go_sem,gR]
 exact ah B o3 _ _ _ _
theorem pj {k m c x y:Int} (hk:Kind k m c) (hx:Num x) (hy:Num y) (w:World) (hm:Mds w) :
  Rt 94 #[.int .i64 k,U4 x,U4 y] w (.tuple #[U4 (ag m (x*y)),.int .i64 0]):=by
 have C:Hid (∀ w,Rt 133 #[.agg #[.int .u64 (l0 m),.int .u64 (l1 m),.int .u64 (l2 m),.int .u64 (l3 m),.int .u64 (l0 c),.int .u64 (l1 c),.int .u64 (l2 c),.int .u64 (l3 c)],U4 x,U4 y] w (U4 (ag m (x*y)))):=lE hk.fit hx hy
 generalize (ag m (x*y))=r at *
 go_enter Tryz.func94,Tryz.ntmps94
 go_wp2_with fail
 refine aa (fun W=>Below w.heap.size w W∧Mds W∧ab W w.heap.size x∧ab W (w.heap.size+1) y∧ac W (w.heap.size+1+1)) ⟨by repeat (first|with_reducible exact Below.refl _ _|with_reducible refine Below.alloc ?_ (by first|omega|(simp;done)|(simp;omega)) _),((hm.alloc _).alloc _).alloc _,((ab.fresh (by simp)).alloc _).alloc _,(ab.fresh (by simp)).alloc _,ac.new (by simp)⟩ ?_
 rintro W ⟨B,hD,hX,hY,hR⟩
 have o3:w.heap.size≤w.heap.size+1+1:=by omega
 generalize w.heap.size+1+1=br at *
 generalize w.heap.size+1=bw at *
 with_reducible refine (fA hk _ hD).mono ?_
 rintro e w1 ⟨rfl,hb⟩
 replace B:=B.trans (hb.mono B.size)
 replace hX:=hX.keep hb;replace hY:=hY.keep hb;replace hR:=hR.keep hb
 clear hb hD W
 have gX:=hX.allocs;have gY:=hY.allocs
 go_wp2_with fail
 refine aa (fun W=>Below w.heap.size w W∧ac W br) ⟨B.alloc B.size _,hR.alloc _⟩ ?_
 clear B hX hY hR gX gY
 rintro W ⟨B,hR⟩
 with_reducible refine (C.out _).mono ?_
 rintro e w2 ⟨rfl,hb⟩
 replace B:=B.trans (hb.mono B.size)
 replace hR:=hR.keep hb
 clear hb W
 have gR:=hR.1.all4;have fR:=hR.2.all4
 go_wp2
 simp [bodyPost,results,Tryz.results94,go_sem,gR]
 exact ah B o3 _ _ _ _
open Go.RowKit Go.Sort
theorem dW {k:Int} (hk:k=0∨k=1) (w:World):Rt 108 #[.int .i64 k] w (.bool true):=by
 rcases hk with rfl|rfl
 ·skip
  go_enter Tryz.func108,Tryz.ntmps108
  go_wp2
  simp [bodyPost,results,Tryz.results108,go_sem]
  repeat (first|with_reducible exact Below.refl _ _|with_reducible refine Below.drew ?_|with_reducible refine Below.alloc ?_ (by first|omega|(simp;done)|(simp;omega)) _|with_reducible refine Below.setCell ?_ (by first|omega|(simp;done)) _)
 ·skip
  go_enter Tryz.func108,Tryz.ntmps108
  go_wp2
  simp [bodyPost,results,Tryz.results108,go_sem]
  repeat (first|with_reducible exact Below.refl _ _|with_reducible refine Below.drew ?_|with_reducible refine Below.alloc ?_ (by first|omega|(simp;done)|(simp;omega)) _|with_reducible refine Below.setCell ?_ (by first|omega|(simp;done)) _)
theorem lQ {k x y:Int} (hx:Num x) (hy:Num y) (w:World) :
  Rt 152 #[.int .i64 k,U4 x,U4 y] w (U4 (ag (rM k) (x*y))):=by
 have M1:Hid (∀ w,Rt 173 #[U4 x,U4 y] w (.tuple #[U4 (hiN x y),U4 (loN x y)])):=pf hx hy
 have R1:Hid (∀ w,Rt 142 #[.int .i64 k,U4 (hiN x y),U4 (loN x y)] w (U4 (ag (rM k) (x*y)))):=fun w=>by
  have:=iy (k:=k) (kB hx hy) (ky x y) w;rw [oZ] at this;exact this
 generalize ag (rM k) (x*y)=R at *
 generalize hiN x y=H at *
 generalize loN x y=L at *
 go_enter Tryz.func152,Tryz.ntmps152
 go_wp2_with fail
 refine aa (fun W=>Below w.heap.size w W∧ac W (w.heap.size+1+1)) ⟨by repeat (first|with_reducible exact Below.refl _ _|with_reducible refine Below.alloc ?_ (by first|omega|(simp;done)|(simp;omega)) _),ac.new (by simp)⟩ ?_
 rintro W ⟨B,hR⟩
 have o3:w.heap.size≤w.heap.size+1+1:=by omega
 generalize w.heap.size+1+1=br at *
 with_reducible refine (M1.out _).mono ?_
 rintro e w1 ⟨rfl,hb⟩
 replace B:=B.trans (hb.mono B.size)
 replace hR:=hR.keep hb
 clear hb W
 go_wp2_with fail
 refine aa (fun W=>Below w.heap.size w W∧ac W br) ⟨(B.alloc B.size _).alloc (by have:=B.size;simp;omega) _,(hR.alloc _).alloc _⟩ ?_
 clear B hR
 rintro W ⟨B,hR⟩
 with_reducible refine (R1.out _).mono ?_
 rintro e w2 ⟨rfl,hb⟩
 replace B:=B.trans (hb.mono B.size)
 replace hR:=hR.keep hb
 clear hb W
 have gR:=hR.1.all4;have fR:=hR.2.all4
 go_wp2
 simp [bodyPost,results,Tryz.results152,go_sem,gR]
 exact ah B o3 _ _ _ _
theorem oy {k x y:Int} (hk:k=0∨k=1) (hx:Num x) (hy:Num y) (w:World) :
  Rt 111 #[.int .i64 k,U4 x,U4 y] w (.tuple #[U4 (ag (rM k) (aI x y)),.int .i64 0]):=by
 have G:Hid (∀ w,Rt 108 #[.int .i64 k] w (.bool true)):=dW hk
 have C:Hid (∀ w,Rt 142 #[.int .i64 k,U4 x,U4 y] w (U4 (ag (rM k) (aI x y)))):=iy hx hy
 generalize (ag (rM k) (aI x y))=r at *
 clear hk
 go_enter Tryz.func111,Tryz.ntmps111
 go_wp2_with fail
 refine aa (fun W=>Below w.heap.size w W∧ab W (w.heap.size) x∧ab W (w.heap.size+1) y∧ac W (w.heap.size+1+1)) ⟨by repeat (first|with_reducible exact Below.refl _ _|with_reducible refine Below.alloc ?_ (by first|omega|(simp;done)|(simp;omega)) _),((ab.fresh (by simp)).alloc _).alloc _,(ab.fresh (by simp)).alloc _,ac.new (by simp)⟩ ?_
 rintro W ⟨B,hX,hY,hR⟩
 have o3:w.heap.size≤w.heap.size+1+1:=by omega
 generalize w.heap.size+1+1=br at *
 generalize w.heap.size+1=bw at *
 with_reducible refine (G.out _).mono ?_
 rintro e w1 ⟨rfl,hb⟩
 replace B:=B.trans (hb.mono B.size)
 replace hX:=hX.keep hb;replace hY:=hY.keep hb;replace hR:=hR.keep hb
 clear hb W
 have gX:=hX.cells
 have gY:=hY.cells
 go_wp2_with fail
 with_reducible refine (C.out _).mono ?_
 rintro e w2 ⟨rfl,hb⟩
 replace B:=B.trans (hb.mono B.size)
 replace hR:=hR.keep hb
 clear hb hX hY gX gY w1
 have gR:=hR.1.all4;have fR:=hR.2.all4
 go_wp2
 simp [bodyPost,results,Tryz.results111,go_sem,gR]
 exact ah B o3 _ _ _ _
theorem mU {k x y:Int} (hk:k=0∨k=1) (hx:Num x) (hy:Num y) (w:World) :
  Rt 116 #[.int .i64 k,U4 x,U4 y] w (.tuple #[U4 (ag (rM k) (x*y)),.int .i64 0]):=by
 have G:Hid (∀ w,Rt 108 #[.int .i64 k] w (.bool true)):=dW hk
 have C:Hid (∀ w,Rt 152 #[.int .i64 k,U4 x,U4 y] w (U4 (ag (rM k) (x*y)))):=lQ hx hy
 generalize (ag (rM k) (x*y))=r at *
 clear hk
 go_enter Tryz.func116,Tryz.ntmps116
 go_wp2_with fail
 refine aa (fun W=>Below w.heap.size w W∧ab W (w.heap.size) x∧ab W (w.heap.size+1) y∧ac W (w.heap.size+1+1)) ⟨by repeat (first|with_reducible exact Below.refl _ _|with_reducible refine Below.alloc ?_ (by first|omega|(simp;done)|(simp;omega)) _),((ab.fresh (by simp)).alloc _).alloc _,(ab.fresh (by simp)).alloc _,ac.new (by simp)⟩ ?_
 rintro W ⟨B,hX,hY,hR⟩
 have o3:w.heap.size≤w.heap.size+1+1:=by omega
 generalize w.heap.size+1+1=br at *
 generalize w.heap.size+1=bw at *
 with_reducible refine (G.out _).mono ?_
 rintro e w1 ⟨rfl,hb⟩
 replace B:=B.trans (hb.mono B.size)
 replace hX:=hX.keep hb;replace hY:=hY.keep hb;replace hR:=hR.keep hb
 clear hb W
 have gX:=hX.cells
 have gY:=hY.cells
 go_wp2_with fail
 with_reducible refine (C.out _).mono ?_
 rintro e w2 ⟨rfl,hb⟩
 replace B:=B.trans (hb.mono B.size)
 replace hR:=hR.keep hb
 clear hb hX hY gX gY w1
 have gR:=hR.1.all4;have fR:=hR.2.all4
 go_wp2
 simp [bodyPost,results,Tryz.results116,go_sem,gR]
 exact ah B o3 _ _ _ _
open Go.RowKit Go.Sort
def fi (m x:Int):Int:=aY m x (m-2)
theorem sb {m c:Int} (hf:Fit m c):ca m 2=m-2∧Num (m-2):=by
 obtain ⟨h1,h2,h3⟩:=hf
 exact ⟨by unfold ca;omega,by omega,by omega⟩
theorem oz {m c x:Int} (hf:Fit m c) (hx:Num x) (w:World) :
  Rt 129 #[.agg #[.int .u64 (l0 m),.int .u64 (l1 m),.int .u64 (l2 m),.int .u64 (l3 m),.int .u64 (l0 c),.int .u64 (l1 c),.int .u64 (l2 c),.int .u64 (l3 c)],U4 x] w (U4 (fi m x)):=by
 obtain ⟨q1,q2⟩:=sb hf
 have F1:Hid (∀ w,Rt 126 #[.int .u64 2] w (.agg #[.int .u64 (l0 2),.int .u64 (l1 2),.int .u64 (l2 2),.int .u64 (l3 2)])):=je ⟨by decide,by decide⟩
 have S1:Hid (∀ w,Rt 96 #[U4 m,.agg #[.int .u64 (l0 2),.int .u64 (l1 2),.int .u64 (l2 2),.int .u64 (l3 2)]] w (.tuple #[U4 (m-2),.int .u64 (cL m 2)])):=fun w=>by
  have:=iq (m:=2) hf.num ⟨by decide,by decide⟩ w;rw [q1] at this;exact this
 have E1:Hid (∀ w,Rt 132 #[.agg #[.int .u64 (l0 m),.int .u64 (l1 m),.int .u64 (l2 m),.int .u64 (l3 m),.int .u64 (l0 c),.int .u64 (l1 c),.int .u64 (l2 c),.int .u64 (l3 c)],U4 x,U4 (m-2)] w (U4 (fi m x))):=vy hf hx q2
 clear q1 q2 hf hx
 generalize fi m x=R at *
 generalize m-2=D at *
 generalize cL m 2=z at *
 generalize ht:(2:Int)=T at F1 S1
 go_enter Tryz.func129,Tryz.ntmps129
 go_wp2_with fail
 refine af (fun W=>Below w.heap.size w W∧aG W w.heap.size m c∧ab W (w.heap.size+1) x∧ac W (w.heap.size+1+1)) ⟨by repeat (first|with_reducible exact Below.refl _ _|with_reducible refine Below.alloc ?_ (by first|omega|(simp;done)|(simp;omega)) _),((aG.new w m c _).alloc _).alloc _,(ab.fresh (by simp)).alloc _,ac.new (by simp)⟩ ?_
 rintro W ⟨B,hF,hX,hR⟩
 have o3:w.heap.size≤w.heap.size+1+1:=by omega
 generalize w.heap.size+1+1=br at *
 generalize w.heap.size+1=bx at *
 generalize hbf:w.heap.size=bf at *
 subst ht
 have gF:=hF.cells
 have lf:bf<W.heap.size:=hF.lt
 have lx:bx<W.heap.size:=World.block_lt_of_cell? W _ hX.1
 have lr:br<W.heap.size:=hR.1.lt (by simp)
 have BB:Hid (Below bf w W):=B
 have HF:Hid (aG W bf m c):=hF
 have HX:Hid (ab W bx x):=hX
 have HR:Hid (ac W br):=hR
 have geB:bf≤W.heap.size:=by omega
 clear B hF hX hR
 refine lg (fun a' W'=>∃ bs,Below bf w W'∧aG W' bf m c∧ab W' bx x∧ac W' br∧ab W' bs D∧a'={ tmps:=#[.agg #[.int .u64 (l0 m),.int .u64 (l1 m),.int .u64 (l2 m),.int .u64 (l3 m),.int .u64 (l0 c),.int .u64 (l1 c),.int .u64 (l2 c),.int .u64 (l3 c)],U4 x,.pointer (some { block:=bf,off:=0 }),.pointer (some { block:=bx,off:=0 }),.pointer (some { block:=br,off:=0 }),.pointer (some { block:=bs,off:=0 }),.int .u64 z,.tuple #[U4 D,.int .u64 z],.pointer (some { block:=bf,off:=0 }),U4 m,.agg #[.int .u64 (l0 2),.int .u64 (l1 2),.int .u64 (l2 2),.int .u64 (l3 2)],.tuple #[U4 D,.int .u64 z],U4 D,.int .u64 z,Go.undef,Go.undef,Go.undef,Go.undef],defers:=[] }) ?_ ?_
 ·have dz:W.drew.heap.size=W.heap.size:=rfl
  clear E1
  have _:bf<W.heap.size:=by omega
  have _:bf≤W.heap.size:=by omega
  have _:bf<W.heap.size+1:=by omega
  have _:bf<W.heap.size+1+1:=by omega
  have _:bf≠W.heap.size:=by omega
  have _:W.heap.size≠bf:=by omega
  have _:bf≠W.heap.size+1:=by omega
  have _:W.heap.size+1≠bf:=by omega
  have _:bx<W.heap.size:=by omega
  have _:bx≤W.heap.size:=by omega
  have _:bx<W.heap.size+1:=by omega
  have _:bx<W.heap.size+1+1:=by omega
  have _:bx≠W.heap.size:=by omega
  have _:W.heap.size≠bx:=by omega
  have _:bx≠W.heap.size+1:=by omega
  have _:W.heap.size+1≠bx:=by omega
  have _:br<W.heap.size:=by omega
  have _:br≤W.heap.size:=by omega
  have _:br<W.heap.size+1:=by omega
  have _:br<W.heap.size+1+1:=by omega
  have _:br≠W.heap.size:=by omega
  have _:W.heap.size≠br:=by omega
  have _:br≠W.heap.size+1:=by omega
  have _:W.heap.size+1≠br:=by omega
  go_region_held3 (fun w'=>w'.cell? ⟨bf,0,none⟩=some (.int .u64 (l0 m))∧w'.cell? ⟨bf,1,none⟩=some (.int .u64 (l1 m))∧w'.cell? ⟨bf,2,none⟩=some (.int .u64 (l2 m))∧w'.cell? ⟨bf,3,none⟩=some (.int .u64 (l3 m))) (((try dsimp only);(repeat' (apply And.intro));(all_goals repeat (first|with_reducible assumption|with_reducible apply cell_keep hb2|with_reducible apply cell_keep hb1|with_reducible apply cell_alloc|(with_reducible refine cell_set ?_ (by with_reducible assumption))|(simp [go_sem, *];done)))))
   (first
    | (go_at_call 126;with_reducible refine (F1.out _).mono ?_;rintro e w1 ⟨rfl,hb1⟩;have hc1:=aj hb1;have hz1:=hb1.size;(try simp at hz1);(try (have:=fun j=>aj hb1 (W.heap.size) j (by first|omega|(simp;done)|(simp;omega))));(try (have:=fun j=>aj hb1 (W.heap.size+1) j (by first|omega|(simp;done)|(simp;omega))));have _:bf<w1.heap.size:=(by omega);have _:bf≤w1.heap.size:=(by omega);have _:bf<w1.heap.size+1:=(by omega);have _:bf<w1.heap.size+1+1:=(by omega);have _:bf≠w1.heap.size:=(by omega);have _:w1.heap.size≠bf:=(by omega);have _:bf≠w1.heap.size+1:=(by omega);have _:w1.heap.size+1≠bf:=(by omega);have _:bx<w1.heap.size:=(by omega);have _:bx≤w1.heap.size:=(by omega);have _:bx<w1.heap.size+1:=(by omega);have _:bx<w1.heap.size+1+1:=(by omega);have _:bx≠w1.heap.size:=(by omega);have _:w1.heap.size≠bx:=(by omega);have _:bx≠w1.heap.size+1:=(by omega);have _:w1.heap.size+1≠bx:=(by omega);have _:br<w1.heap.size:=(by omega);have _:br≤w1.heap.size:=(by omega);have _:br<w1.heap.size+1:=(by omega);have _:br<w1.heap.size+1+1:=(by omega);have _:br≠w1.heap.size:=(by omega);have _:w1.heap.size≠br:=(by omega);have _:br≠w1.heap.size+1:=(by omega);have _:w1.heap.size+1≠br:=(by omega);(try (have _:W.heap.size<w1.heap.size:=(by omega)));(try (have _:W.heap.size≤w1.heap.size:=(by omega)));(try (have _:W.heap.size≠w1.heap.size:=(by omega)));(try (have _:w1.heap.size≠W.heap.size:=(by omega)));(try (have _:W.heap.size<w1.heap.size+1:=(by omega)));(try (have _:W.heap.size+1<w1.heap.size:=(by omega)));(try (have _:W.heap.size+1≤w1.heap.size:=(by omega)));(try (have _:W.heap.size+1≠w1.heap.size:=(by omega)));(try (have _:w1.heap.size≠W.heap.size+1:=(by omega)));(try (have _:W.heap.size+1<w1.heap.size+1:=(by omega))))
    | (go_at_call 96;with_reducible refine (S1.out _).mono ?_;rintro e w2 ⟨rfl,hb2⟩;have hc2:=aj hb2;have hz2:=hb2.size;(try simp at hz2);(try (have:=fun j=>aj hb2 (W.heap.size) j (by first|omega|(simp;done)|(simp;omega))));(try (have:=fun j=>aj hb2 (W.heap.size+1) j (by first|omega|(simp;done)|(simp;omega))));(try (have:=fun j=>aj hb2 (w1.heap.size) j (by first|omega|(simp;done)|(simp;omega))));(try (have:=fun j=>aj hb2 (w1.heap.size+1) j (by first|omega|(simp;done)|(simp;omega))));have _:bf<w2.heap.size:=(by omega);have _:bf≤w2.heap.size:=(by omega);have _:bf<w2.heap.size+1:=(by omega);have _:bf<w2.heap.size+1+1:=(by omega);have _:bf≠w2.heap.size:=(by omega);have _:w2.heap.size≠bf:=(by omega);have _:bf≠w2.heap.size+1:=(by omega);have _:w2.heap.size+1≠bf:=(by omega);have _:bx<w2.heap.size:=(by omega);have _:bx≤w2.heap.size:=(by omega);have _:bx<w2.heap.size+1:=(by omega);have _:bx<w2.heap.size+1+1:=(by omega);have _:bx≠w2.heap.size:=(by omega);have _:w2.heap.size≠bx:=(by omega);have _:bx≠w2.heap.size+1:=(by omega);have _:w2.heap.size+1≠bx:=(by omega);have _:br<w2.heap.size:=(by omega);have _:br≤w2.heap.size:=(by omega);have _:br<w2.heap.size+1:=(by omega);have _:br<w2.heap.size+1+1:=(by omega);have _:br≠w2.heap.size:=(by omega);have _:w2.heap.size≠br:=(by omega);have _:br≠w2.heap.size+1:=(by omega);have _:w2.heap.size+1≠br:=(by omega);(try (have _:W.heap.size<w2.heap.size:=(by omega)));(try (have _:W.heap.size≤w2.heap.size:=(by omega)));(try (have _:W.heap.size≠w2.heap.size:=(by omega)));(try (have _:w2.heap.size≠W.heap.size:=(by omega)));(try (have _:W.heap.size<w2.heap.size+1:=(by omega)));(try (have _:W.heap.size+1<w2.heap.size:=(by omega)));(try (have _:W.heap.size+1≤w2.heap.size:=(by omega)));(try (have _:W.heap.size+1≠w2.heap.size:=(by omega)));(try (have _:w2.heap.size≠W.heap.size+1:=(by omega)));(try (have _:W.heap.size+1<w2.heap.size+1:=(by omega)));(try (have _:w1.heap.size<w2.heap.size:=(by omega)));(try (have _:w1.heap.size≤w2.heap.size:=(by omega)));(try (have _:w1.heap.size≠w2.heap.size:=(by omega)));(try (have _:w2.heap.size≠w1.heap.size:=(by omega)));(try (have _:w1.heap.size<w2.heap.size+1:=(by omega)));(try (have _:w1.heap.size+1<w2.heap.size:=(by omega)));(try (have _:w1.heap.size+1≤w2.heap.size:=(by omega)));(try (have _:w1.heap.size+1≠w2.heap.size:=(by omega)));(try (have _:w2.heap.size≠w1.heap.size+1:=(by omega)));(try (have _:w1.heap.size+1<w2.heap.size+1:=(by omega)))))
  all_goals (refine o7.intro ⟨_,?_,?_,?_,?_,?_,rfl⟩)
  all_goals repeat (first|with_reducible exact BB.out|with_reducible exact HF.out|with_reducible exact HX.out|with_reducible exact HR.out|with_reducible refine ab.fresh (by first|rfl|(simp;done)|fail)|with_reducible refine ab.sets4 ?_|with_reducible refine ab.alloc ?_ _|with_reducible refine ab.drew ?_|with_reducible refine ab.set4 ?_ (by with_reducible assumption) _ _ _ _|with_reducible refine aG.alloc ?_ _|with_reducible refine aG.drew ?_|with_reducible refine aG.set4 ?_ (by with_reducible assumption) _ _ _ _|with_reducible refine ac.alloc ?_ _|with_reducible refine ac.drew ?_|with_reducible refine ac.set4 ?_ (by with_reducible assumption) _ _ _ _|with_reducible refine eU hbf ?_ _|with_reducible refine Below.drew ?_|with_reducible refine Below.setCell ?_ (by with_reducible assumption) _|with_reducible refine Has.fresh (by first|rfl|(simp;done)|fail) (by first|(simp;done)|fail)|with_reducible refine Has.alloc ?_ _|with_reducible refine Has.drew ?_|with_reducible refine Has.keep ?_ hb2|with_reducible refine ab.keep ?_ hb2|with_reducible refine aG.keep ?_ hb2|with_reducible refine ac.keep ?_ hb2|with_reducible refine bT hbf ?_ hb2|with_reducible refine Has.keep ?_ hb1|with_reducible refine ab.keep ?_ hb1|with_reducible refine aG.keep ?_ hb1|with_reducible refine ac.keep ?_ hb1|with_reducible refine bT hbf ?_ hb1)
 rintro _ W1 ⟨bs,B,hF,hX,hR,hS,rfl⟩
 subst hbf
 clear BB HF HR HX gF lf lx lr geB F1 S1 W
 have gF:=hF.cells;have gX:=hX.cells;have gS:=hS.cells
 go_wp2_with fail
 with_reducible refine (E1.out _).mono ?_
 rintro e w1 ⟨rfl,hb⟩
 replace B:=B.trans (hb.mono B.size)
 replace hR:=hR.keep hb
 clear hb gF gX gS hF hX hS
 have gR:=hR.1.all4;have fR:=hR.2.all4
 go_wp2
 simp [bodyPost,results,Tryz.results129,go_sem,gR]
 exact ah B o3 _ _ _ _
theorem jo {k m c x:Int} (hk:Kind k m c) (hx:Num x) (hz:ag m x≠0) (w:World) (hm:Mds w) :
  Rt 85 #[.int .i64 k,U4 x] w (.tuple #[U4 (fi m x),.int .i64 0]):=by
 have O1:Hid (∀ w,Rt 128 #[.agg #[.int .u64 (l0 m),.int .u64 (l1 m),.int .u64 (l2 m),.int .u64 (l3 m),.int .u64 (l0 c),.int .u64 (l1 c),.int .u64 (l2 c),.int .u64 (l3 c)],U4 x] w (U4 (ag m x))):=d8 hk.fit hx
 have I1:Hid (∀ w,Rt 129 #[.agg #[.int .u64 (l0 m),.int .u64 (l1 m),.int .u64 (l2 m),.int .u64 (l3 m),.int .u64 (l0 c),.int .u64 (l1 c),.int .u64 (l2 c),.int .u64 (l3 c)],U4 x] w (U4 (fi m x))):=oz hk.fit hx
 have hq:=gD (ae hk.fit x)
 rw [show decide (ag m x=0)=false by simp [hz]] at hq
 clear hz hx
 generalize ag m x=r at *
 generalize fi m x=R at *
 have bz:=bC
 go_enter Tryz.func85,Tryz.ntmps85
 go_wp2_with fail
 refine aa (fun W=>Below w.heap.size w W∧Mds W∧ab W w.heap.size x∧ac W (w.heap.size+1)) ⟨by repeat (first|with_reducible exact Below.refl _ _|with_reducible refine Below.alloc ?_ (by first|omega|(simp;done)|(simp;omega)) _),(hm.alloc _).alloc _,(ab.fresh (by simp)).alloc _,ac.new (by simp)⟩ ?_
 rintro W ⟨B,hD,hX,hR⟩
 have o3:w.heap.size≤w.heap.size+1:=by omega
 generalize w.heap.size+1=br at *
 with_reducible refine (fA hk _ hD).mono ?_
 rintro e w1 ⟨rfl,hb⟩
 replace B:=B.trans (hb.mono B.size)
 replace hX:=hX.keep hb;replace hR:=hR.keep hb
 clear hb hD W
 have gX:=hX.allocs
 go_wp2_with fail
 refine aa (fun W=>Below w.heap.size w W∧aG W w1.heap.size m c∧ab W w.heap.size x∧ac W br) ⟨B.alloc B.size _,aG.new _ _ _ _,hX.alloc _,hR.alloc _⟩ ?_
 clear B hX hR gX
 rintro W ⟨B,hF,hX,hR⟩
 generalize w1.heap.size=bf at *
 with_reducible refine (O1.out _).mono ?_
 rintro e w2 ⟨rfl,hb⟩
 replace B:=B.trans (hb.mono B.size)
 replace hF:=hF.keep hb;replace hX:=hX.keep hb;replace hR:=hR.keep hb
 clear hb W
 have gF:=hF.cells;have gX:=hX.cells
 go_wp2_with fail
 with_reducible refine (I1.out _).mono ?_
 rintro e w3 ⟨rfl,hb⟩
 replace B:=B.trans (hb.mono B.size)
 replace hR:=hR.keep hb
 clear hb gF gX hF hX hq bz
 have gR:=hR.1.all4;have fR:=hR.2.all4
 go_wp2
 simp [bodyPost,results,Tryz.results85,go_sem,gR]
 exact ah B o3 _ _ _ _
end Go.Proofs.YtnnnaajgjniiaaaGreatDoor
