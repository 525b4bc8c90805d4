import Derived.Test.YtnnnaajgjniiaaaGreatDoorSPad
import Derived.Test.YtnnnaajgjniiaaaGreatDoorTail
set_option maxRecDepth 100000
set_option maxHeartbeats 8000000
namespace Go.Proofs.YtnnnaajgjniiaaaGreatDoor.S
open Go.RowKit Go.Sort
theorem mB (k:Nat):cr (List.replicate k 0):=fun x hx=>by
 obtain ⟨_,rfl⟩:=List.mem_replicate.1 hx
 exact ⟨by decide,by decide⟩
theorem mC:∀ k,vh (List.replicate k 0)=0
 | 0=>rfl
 | k+1=>by rw [List.replicate_succ,vh,mC k];rfl
theorem jU {As Bs:List Int} {m:Int} (lA:As.length=16) (lB:Bs.length=16) (gA:cr As) (gB:cr Bs) (eB:vh (Bs.take 8)=m) (w:World) :
  Calls Tryz.prog 205 #[.agg (As.map (Value.int .i64)).toArray,.agg (Bs.map (Value.int .i64)).toArray] w fun e w'=>(∃ P:List Int,e = .returned (.agg (P.map (Value.int .i64)).toArray)∧P.length=16∧cr P∧vh P=vh (As.take 8)*m)∧Below w.heap.size w w':=by
 have GA:Hid (cr As):=gA
 have GB:Hid (cr Bs∧vh (Bs.take 8)=m):=⟨gB,eB⟩
 clear gA gB eB
 go_enter Tryz.func205,Tryz.ntmps205
 go_wp2_with fail
 refine af (fun W=>Below w.heap.size w W∧Ih W w.heap.size As∧Ih W (w.heap.size+1) Bs∧Ih W (w.heap.size+1+1) (List.replicate 16 0)∧Ih W (w.heap.size+1+1+1) (List.replicate 16 0)) ⟨by repeat (first|with_reducible exact Below.refl _ _|with_reducible refine Below.alloc ?_ (by first|omega|(simp;done)|(simp;omega)) _),(((Ih.new As _ rfl).alloc (by omega) _).alloc (by omega) _).alloc (by omega) _,((Ih.new Bs _ (by simp)).alloc (by omega) _).alloc (by omega) _,(Ih.new (List.replicate 16 0) _ (by simp)).alloc (by simp) _,Ih.new (List.replicate 16 0) _ (by simp)⟩ ?_
 rintro W ⟨B,hA,hB,hR,hP⟩
 have o1:w.heap.size≤w.heap.size+1+1:=by omega
 have o2:w.heap.size≤w.heap.size+1+1+1:=by omega
 have c1:w.heap.size+1+1+1≠w.heap.size:=by omega
 have c2:w.heap.size+1+1+1≠w.heap.size+1:=by omega
 have c3:w.heap.size+1+1+1≠w.heap.size+1+1:=by omega
 generalize w.heap.size+1+1+1=bp at *
 generalize w.heap.size+1+1=br at *
 generalize w.heap.size+1=bb at *
 go_loopg [6] 8 (fun k iv wr=>∃ (i:Nat) (P:List Int),k=8-i∧i≤8∧iv = .int .i64 i∧P.length=16∧cr P∧(∀ t,i+8≤t→P.getD t 0=0)∧vh P=vh (As.take i)*m∧Below w.heap.size w wr∧Ih wr w.heap.size As∧Ih wr bb Bs∧Ih wr br (List.replicate 16 0)∧Ih wr bp P)
 case atStart=>exact ⟨0,_,rfl,by decide,rfl,by simp,mB 16,fun t ht=>jC 16 t,by rw [mC];simp [vh],B,hA,hB,hR,hP⟩
 case round =>
  clear B hA hB hR hP
  obtain ⟨i,P,hk,hi,rfl,hL,gL,tl,inv,B,hA,hB,hR,hP⟩:=hrel
  have IV:Hid (vh P=vh (As.take i)*m):=inv
  have GP:Hid (cr P∧∀ t,i+8≤t→P.getD t 0=0):=⟨gL,tl⟩
  have HK:Hid (gk=8-i):=hk
  clear inv gL hk tl
  by_cases h8:i=8
  ·subst h8
   have rb:=hP.range
   have sz:((P.map (Value.int .i64)).toArray).size=16:=by simp [hL]
   have tr:=hR.there (k:=((P.map (Value.int .i64)).toArray).size) (by rw [sz];rfl)
   have oc:=fI P
   have GL:Hid (P.length=16):=hL
   clear hL hA hB hP hR
   generalize hM:P.map (Value.int .i64)=N at *
   have EM:Hid (P.map (Value.int .i64)=N):=hM
   have HM:Hid (N.length=16):=by rw [←hM,List.length_map];exact GL.out
   clear hM
   go_wp2_with (first|refine wpList_load_mid rfl 206 _ rfl bp 0 rfl N _ rb Tryz.underlying206 rfl (by rw [HM.out];kernel_rfl) ?_|refine wpList_store_mid rfl 206 _ _ rfl br 0 _ rfl rfl tr (by rw [sz];kernel_rfl) oc ?_)
   have ld:=run_loadVar_mid (P:=Tryz.prog) (wr.setCells br 0 N) br 0 206 N _ (World.rangeAt_setCells_same _ _ _ _ (by simpa using tr)) Tryz.underlying206 rfl (by rw [HM.out];kernel_rfl)
   refine bodyPost_ret (v:=.agg N.toArray) ?_ rfl ⟨⟨P,by rw [EM.out],GL.out,GP.out.1,IV.out⟩,below_setCells o1 N 0 wr B⟩
   simp [results,Tryz.results205,Act.put,asAddr,ld]
  ·have hi':(i:Int)<8:=by omega
   have gx:=hA.1 i (by omega)
   have hx:=GA.out.getD i
   have tkA:=oS As i (by omega)
   generalize hxe:As.getD i 0=x at *
   have HX:Hid (Lim x∧vh (As.take (i+1))=vh (As.take i)+65536 ^ i*x∧As.getD i 0=x):=⟨hx,tkA,hxe⟩
   clear hx tkA hxe
   go_wp2_with fail
   go_loopg [7,8] 8 (fun k cv jv wr=>∃ (j:Nat) (P:List Int) (c:Int),k=8-j∧j≤8∧cv = .int .i64 c∧jv = .int .i64 j∧Lim c∧P.length=16∧cr P∧(∀ t,i+8≤t→P.getD t 0=0)∧vh P+65536 ^ i*65536 ^ j*c=vh (As.take i)*m+65536 ^ i*(x*vh (Bs.take j))∧Below w.heap.size w wr∧Ih wr w.heap.size As∧Ih wr bb Bs∧Ih wr br (List.replicate 16 0)∧Ih wr bp P)
   case atStart=>exact ⟨0,P,0,rfl,by decide,rfl,rfl,⟨by decide,by decide⟩,hL,GP.out.1,GP.out.2,by have:=IV.out;simp [vh];exact this,B,hA,hB,hR,hP⟩
   case round =>
    clear B hR hA hB hP gx IV GP hL P
    obtain ⟨j,P,c,hk,hj,rfl,rfl,hc,hL,gL,tl,inv,B,hA,hB,hR,hP⟩:=hrel
    have HK2:Hid (gk=8-j):=hk
    have IV:Hid (vh P+65536 ^ i*65536 ^ j*c=vh (As.take i)*m+65536 ^ i*(x*vh (Bs.take j))):=inv
    have GP:Hid (cr P∧∀ t,i+8≤t→P.getD t 0=0):=⟨gL,tl⟩
    clear inv gL hk tl
    by_cases h8:j=8
    ·subst h8
     have eo:((i:Int)+8).toNat=i+8:=by omega
     have gp:=hP.1 (i+8) (by omega)
     rw [GP.out.2 (i+8) (by omega)] at gp
     have fp:=hP.2 (i+8) (by omega)
     have iv:=IV.out
     rw [GB.out.2] at iv
     have E:Hid (vh (P.set (i+8) c)=vh (As.take (i+1))*m):=by
      rw [oR P (i+8) c (by omega),GP.out.2 (i+8) (by omega),Int.sub_zero,HX.out.2.1,Int.pow_add]
      exact ui iv
     have HC:Hid (Lim c):=hc
     obtain ⟨cl,ch⟩:=hc
     clear iv IV
     go_wp2
     go_roundg (8-(i+1))
     case measure=>have:=HK.out;omega
     case rel=>exact ⟨i+1,P.set (i+8) c,rfl,by omega,by go_num,by rw [List.length_set];exact hL,GP.out.1.set _ HC.out,fun t ht=>by rw [fc (by omega)];exact GP.out.2 t (by omega),E.out,B.setCell o2 _,hA.other c1 _,hB.other c2 _,hR.other c3 _,hP.set (i+8) (by omega) _⟩
    ·have hj':(j:Int)<8:=by omega
     have eo:((i:Int)+(j:Int)).toNat=i+j:=by omega
     have gx:=hA.1 i (by omega)
     rw [HX.out.2.2] at gx
     have gy:=hB.1 j (by omega)
     have gp:=hP.1 (i+j) (by omega)
     have fp:=hP.2 (i+j) (by omega)
     have hy:=GB.out.1.getD j
     have hp:=GP.out.1.getD (i+j)
     have tkB:=oS Bs j (by omega)
     have S:Hid (∀ v c',v+65536*c'=P.getD (i+j) 0+x*Bs.getD j 0+c→vh (P.set (i+j) v)+65536 ^ i*65536 ^ (j+1)*c'=vh (As.take i)*m+65536 ^ i*(x*vh (Bs.take (j+1)))):=fun v c' h=>by
      rw [oR P (i+j) v (by omega),tkB,Int.pow_add,Int.pow_succ,←Int.mul_assoc]
      exact ru h IV.out
     obtain ⟨z0,z1,z2,z3⟩:=rv HX.out.1 hy hp hc
     clear tkB IV hy
     generalize P.getD (i+j) 0=p at *
     generalize Bs.getD j 0=y at *
     obtain ⟨c0',c1'⟩:=hc
     obtain ⟨p0,p1⟩:=hp
     generalize hz:x*y=z at *
     go_wp2_with fail
     refine aC 15 (by kernel_rfl) (by kernel_rfl) ?_
     simp only [List.take_succ_cons,List.take_zero,List.drop_succ_cons,List.drop_zero]
     repeat (first|go_big_quiet_skip|(go_big_quiet_want;go_big_quiet_op;go_big_quiet_on))
     refine wpQuiet_nil ?_
     go_wp2
     go_roundg (8-(j+1))
     case measure=>have:=HK2.out;omega
     case rel=>exact ⟨j+1,P.set (i+j) ((p+z+c)%65536),(p+z+c)/65536,rfl,by omega,rfl,by go_num,⟨by omega,by omega⟩,by rw [List.length_set];exact hL,GP.out.1.set _ ⟨by omega,by omega⟩,fun t ht=>by rw [fc (by omega)];exact GP.out.2 t (by omega),S.out _ _ (by omega),B.drew.setCell o2 _,hA.drew.other c1 _,hB.drew.other c2 _,hR.drew.other c3 _,hP.drew.set (i+j) (by omega) _⟩
open Go.RowKit Go.Sort
theorem iI {L:List Int} (hl:L.length=16) (g:cr L) (hv:vh L<65536 ^ 8):vh (L.take 8)=vh L:=by
 have sp:=pZ L 8 (by omega)
 have b:=jB (g.take 8)
 have c:=jB (g.drop 8)
 rw [show (65536:Int) ^ 8=340282366920938463463374607431768211456 by decide] at *
 generalize vh (L.take 8)=a at *
 generalize vh (L.drop 8)=d at *
 omega
theorem nQ {v:Int} (v0:0≤v) (v1:v<18446744073709551616) (v2:v<9223372036854775808) (w:World) :
  Calls Tryz.prog 204 #[.int .i64 v] w fun e w'=>(∃ L:List Int,e = .returned (.agg (L.map (Value.int .i64)).toArray)∧L.length=16∧cr L∧vh L=v)∧Below w.heap.size w w':=by
 go_enter Tryz.func204,Tryz.ntmps204
 go_wp2_with fail
 refine af (fun W=>Below w.heap.size w W∧Ih W w.heap.size (List.replicate 16 0)∧Ih W (w.heap.size+1) (List.replicate 16 0)) ⟨by repeat (first|with_reducible exact Below.refl _ _|with_reducible refine Below.alloc ?_ (by first|omega|(simp;done)|(simp;omega)) _),(Ih.new (List.replicate 16 0) _ rfl).alloc (by simp) _,Ih.new (List.replicate 16 0) _ (by simp)⟩ ?_
 rintro W ⟨B,hR,hP⟩
 have o1:w.heap.size≤w.heap.size+1:=by omega
 have c1:w.heap.size+1≠w.heap.size:=by omega
 generalize w.heap.size+1=bp at *
 have VV:Hid (0≤v∧v<18446744073709551616∧v<9223372036854775808):=⟨v0,v1,v2⟩
 clear v0 v1 v2
 go_loopg [0,4] 4 (fun k vv iv wr=>∃ (i:Nat) (u:Int) (P:List Int),k=4-i∧i≤4∧vv = .int .i64 u∧iv = .int .i64 i∧0≤u∧u<9223372036854775808∧P.length=16∧cr P∧(∀ t,i≤t→P.getD t 0=0)∧vh P+65536 ^ i*u=v∧Below w.heap.size w wr∧Ih wr w.heap.size (List.replicate 16 0)∧Ih wr bp P)
 case atStart=>exact ⟨0,v,_,rfl,by decide,rfl,rfl,VV.out.1,VV.out.2.2,by simp,mB 16,fun t ht=>jC 16 t,by rw [mC];simp,B,hR,hP⟩
 case round =>
  clear B hR hP
  obtain ⟨i,u,P,hk,hi,rfl,rfl,u0,u1,hL,gL,tl,inv,B,hR,hP⟩:=hrel
  have IV:Hid (vh P+65536 ^ i*u=v):=inv
  have GP:Hid (cr P∧∀ t,i≤t→P.getD t 0=0):=⟨gL,tl⟩
  have HK:Hid (gk=4-i):=hk
  clear inv gL hk tl
  by_cases h8:i=4
  ·subst h8
   have rb:=hP.range
   have sz:((P.map (Value.int .i64)).toArray).size=16:=by simp [hL]
   have tr:=hR.there (k:=((P.map (Value.int .i64)).toArray).size) (by rw [sz];rfl)
   have oc:=fI P
   have GL:Hid (P.length=16):=hL
   clear hL hP hR
   generalize hM:P.map (Value.int .i64)=N at *
   have EM:Hid (P.map (Value.int .i64)=N):=hM
   have HM:Hid (N.length=16):=by rw [←hM,List.length_map];exact GL.out
   have fin:vh P=v:=by
    have iv:=IV.out
    have b:=jB GP.out.1
    have:=VV.out
    rw [show (65536:Int) ^ 4=18446744073709551616 by decide] at iv
    omega
   have FI:Hid (vh P=v):=fin
   clear hM fin
   go_wp2_with (first|refine wpList_load_mid rfl 206 _ rfl bp 0 rfl N _ rb Tryz.underlying206 rfl (by rw [HM.out];kernel_rfl) ?_|refine wpList_store_mid rfl 206 _ _ rfl w.heap.size 0 _ rfl rfl tr (by rw [sz];kernel_rfl) oc ?_)
   have ld:=run_loadVar_mid (P:=Tryz.prog) (wr.setCells w.heap.size 0 N) w.heap.size 0 206 N _ (World.rangeAt_setCells_same _ _ _ _ (by simpa using tr)) Tryz.underlying206 rfl (by rw [HM.out];kernel_rfl)
   refine bodyPost_ret (v:=.agg N.toArray) ?_ rfl ⟨⟨P,by rw [EM.out],GL.out,GP.out.1,FI.out⟩,below_setCells (Nat.le_refl _) N 0 wr B⟩
   simp [results,Tryz.results204,Act.put,asAddr,ld]
  ·have hi':(i:Int)<4:=by omega
   have gp:=hP.1 i (by omega)
   have fp:=hP.2 i (by omega)
   have E:Hid (vh (P.set i (u%65536))+65536 ^ (i+1)*(u/65536)=v):=by
    rw [oR P i _ (by omega),GP.out.2 i (Nat.le_refl _),Int.sub_zero,Int.pow_succ,Int.mul_assoc,Int.add_assoc,←Int.mul_add,←IV.out]
    congr 2
    omega
   clear IV
   go_wp2
   go_roundg (4-(i+1))
   case measure=>have:=HK.out;omega
   case rel=>exact ⟨i+1,u/65536,P.set i (u%65536),rfl,by omega,rfl,by go_num,by omega,by omega,by rw [List.length_set];exact hL,GP.out.1.set _ ⟨by omega,by omega⟩,fun t ht=>by rw [fc (by omega)];exact GP.out.2 t (by omega),E.out,B.setCell o1 _,hR.other c1 _,hP.set i (by omega) _⟩
theorem qi {X Z:List Int} (lX:X.length=16) (lZ:Z.length=16) (gX:cr X) (gZ:cr Z) (w:World) :
  Calls Tryz.prog 206 #[.agg (X.map (Value.int .i64)).toArray,.agg (Z.map (Value.int .i64)).toArray] w fun e w'=>e = .returned (.bool (decide (vh X≤vh Z)))∧Below w.heap.size w w':=by
 have GX:Hid (cr X∧cr Z):=⟨gX,gZ⟩
 clear gX gZ
 obtain ⟨r,er⟩:∃ r,r=decide (vh X≤vh Z):=⟨_,rfl⟩
 have ER:Hid (r=decide (vh X≤vh Z)):=er
 rw [←er]
 clear er
 go_enter Tryz.func206,Tryz.ntmps206
 go_wp2_with fail
 refine af (fun W=>Below w.heap.size w W∧Ih W w.heap.size X∧Ih W (w.heap.size+1) Z) ⟨by repeat (first|with_reducible exact Below.refl _ _|with_reducible refine Below.alloc ?_ (by first|omega|(simp;done)|(simp;omega)) _),(Ih.new X _ rfl).alloc (by omega) _,Ih.new Z _ (by simp)⟩ ?_
 rintro W ⟨B,hX,hZ⟩
 generalize w.heap.size+1=bp at *
 go_loopg [5] 16 (fun k iv wr=>∃ (i:Nat) (j:Int),k=i∧i≤16∧iv = .int .i64 j∧j=(i:Int)-1∧(∀ t,i≤t→t<16→X.getD t 0=Z.getD t 0)∧Below w.heap.size w wr∧Ih wr w.heap.size X∧Ih wr bp Z)
 case atStart=>exact ⟨16,15,rfl,by decide,rfl,by decide,fun t h1 h2=>by omega,B,hX,hZ⟩
 case round =>
  clear B hX hZ
  obtain ⟨i,j,hk,hi,rfl,hj,ev,B,hX,hZ⟩:=hrel
  have EV:Hid (∀ t,i≤t→t<16→X.getD t 0=Z.getD t 0):=ev
  have HK:Hid (gk=i):=hk
  clear ev hk
  cases i with
  | zero =>
   obtain rfl:j = -1:=by omega
   have rt:r=true:=by
    rw [ER.out]
    apply decide_eq_true
    rw [mq (l:=X) (l':=Z) (by omega) fun t ht=>EV.out t (Nat.zero_le _) (by omega)]
    exact Int.le_refl _
   clear hj
   go_wp2
   simp [bodyPost,results,Tryz.results206,go_sem]
   exact ⟨rt,B⟩
  | succ i =>
   obtain rfl:j=(i:Int):=by omega
   have gx:=hX.1 i (by omega)
   have gz:=hZ.1 i (by omega)
   have i0:(0:Int)≤(i:Int):=by omega
   have i1:(i:Int)<16:=by omega
   clear hj
   by_cases e:X.getD i 0=Z.getD i 0
   ·have EN:Hid (∀ t,i≤t→t<16→X.getD t 0=Z.getD t 0):=fun t h1 h2=>by
     by_cases c:t=i
     ·rw [c];exact e
     ·exact EV.out t (by omega) h2
    rw [←e] at gz
    clear e
    generalize X.getD i 0=x at *
    go_wp2_with fail
    refine aC 6 (by kernel_rfl) (by kernel_rfl) ?_
    simp only [List.take_succ_cons,List.take_zero,List.drop_succ_cons,List.drop_zero]
    repeat (first|go_big_quiet_skip|(go_big_quiet_want;go_big_quiet_op;go_big_quiet_on))
    refine wpQuiet_nil ?_
    go_wp2
    go_roundg i
    case measure=>have:=HK.out;omega
    case rel=>exact ⟨i,_,rfl,by omega,rfl,by omega,EN.out,B.drew,hX.drew,hZ.drew⟩
   ·have rt:r=decide (X.getD i 0<Z.getD i 0):=by
     rw [ER.out]
     by_cases c:X.getD i 0<Z.getD i 0
     ·rw [decide_eq_true c,decide_eq_true (Int.le_of_lt (xd GX.out.1 GX.out.2 (by omega) (by omega) (fun t h1 h2=>EV.out t (by omega) (by omega)) c))]
     ·have c':Z.getD i 0<X.getD i 0:=by omega
      have h:=xd GX.out.2 GX.out.1 (i:=i) (by omega) (by omega) (fun t h1 h2=>(EV.out t (by omega) (by omega)).symm) c'
      rw [decide_eq_false c,decide_eq_false (by omega)]
    have RT:Hid (r=decide (X.getD i 0<Z.getD i 0)):=rt
    clear rt
    generalize X.getD i 0=x at *
    generalize Z.getD i 0=z at *
    go_wp2_with fail
    refine aC 6 (by kernel_rfl) (by kernel_rfl) ?_
    simp only [List.take_succ_cons,List.take_zero,List.drop_succ_cons,List.drop_zero]
    repeat (first|go_big_quiet_skip|(go_big_quiet_want;go_big_quiet_op;go_big_quiet_on))
    refine wpQuiet_nil ?_
    go_wp2_with fail
    refine aC 7 (by kernel_rfl) (by kernel_rfl) ?_
    simp only [List.take_succ_cons,List.take_zero,List.drop_succ_cons,List.drop_zero]
    repeat (first|go_big_quiet_skip|(go_big_quiet_want;go_big_quiet_op;go_big_quiet_on))
    refine wpQuiet_nil ?_
    go_wp2
    simp [bodyPost,results,Tryz.results206,go_sem]
    exact ⟨by rw [RT.out],B.drew.drew⟩
open Go.RowKit Go.Sort
theorem k9 {W:World} {b:Nat} {cs:Array Value} {t:TypeId} (e:b=W.heap.size) {n:Nat} (hn:n=cs.size):(W.alloc (.cells cs t)).there b 0 n:=by
 subst e hn
 intro j hj
 rw [Nat.zero_add,World.cell?_alloc_mark,World.frozen?_alloc_mark]
 refine ⟨by simp [hj],?_⟩
 simp
theorem xr {lo hi:Int} {k:Nat} (h:hi-lo=2 ^ (k+1)):(lo+hi)/2-lo=2 ^ k∧hi-(lo+hi)/2=2 ^ k:=by
 rw [Int.pow_succ] at h
 generalize (2:Int) ^ k=p at *
 omega
theorem Be {m:Int} (h0:0≤m) (h:m<281474976710656):0≤m*m∧m*m<79228162514264337593543950336:=by
 refine ⟨Int.mul_nonneg h0 h0,?_⟩
 have:m*m≤281474976710655*281474976710655:=Int.mul_le_mul (by omega) (by omega) h0 (by decide)
 omega
theorem Ak {n:Int} (n0:0≤n) (n1:n<65536) (w:World) :
  Calls Tryz.prog 193 #[.int .i64 n,.int .i64 2] w fun e w'=>(∃ r:Int,e = .returned (.int .u32 (r%4294967296))∧fG 2 n r)∧Below w.heap.size w w':=by
 have NN:Hid (0≤n∧n<65536):=⟨n0,n1⟩
 have GW:Hid (cr [0,0,0,0,n,0,0,0,0,0,0,0,0,0,0,0]∧vh [0,0,0,0,n,0,0,0,0,0,0,0,0,0,0,0]=n*18446744073709551616):=⟨fun x hx=>by simp only [List.mem_cons,List.not_mem_nil,or_false] at hx;rcases hx with rfl|rfl|rfl|rfl|rfl|rfl|rfl|rfl|rfl|rfl|rfl|rfl|rfl|rfl|rfl|rfl<;>exact ⟨by omega,by omega⟩,by simp only [vh];omega⟩
 clear n0 n1
 go_enter Tryz.func193,Tryz.ntmps193
 go_wp2_with fail
 refine af (fun W=>Below w.heap.size w W∧Ih W w.heap.size [0,0,0,0,n,0,0,0,0,0,0,0,0,0,0,0]) ⟨by repeat (first|with_reducible exact Below.refl _ _|with_reducible refine Below.setCell ?_ (Nat.le_refl _) _|with_reducible refine Below.alloc ?_ (by first|omega|(simp;done)|(simp;omega)) _),(Ih.new [0,0,0,0,n,0,0,0,0,0,0,0,0,0,0,0] _ rfl)⟩ ?_
 rintro W ⟨B,hW⟩
 go_loopg [6,7] 48 (fun k lv hv wr=>∃ lo hi:Int,lv = .int .i64 lo∧hv = .int .i64 hi∧hi-lo=2 ^ k∧0≤lo∧hi≤281474976710656∧lo*lo≤n*18446744073709551616∧n*18446744073709551616<hi*hi∧Below w.heap.size w wr∧Ih wr w.heap.size [0,0,0,0,n,0,0,0,0,0,0,0,0,0,0,0])
 case atStart=>exact ⟨0,281474976710656,rfl,rfl,by decide,by decide,by decide,by have:=NN.out;omega,by have:=NN.out;omega,B,hW⟩
 case round =>
  clear B hW W
  obtain ⟨lo,hi,rfl,rfl,hd,lo0,hi1,e1,e2,B,hW⟩:=hrel
  have IV:Hid (lo*lo≤n*18446744073709551616∧n*18446744073709551616<hi*hi):=⟨e1,e2⟩
  have HD:Hid (hi-lo=2 ^ gk):=hd
  clear e1 e2 hd
  cases gk with
  | zero =>
   have h1:hi=lo+1:=by have:=HD.out;simp at this;omega
   subst h1
   have l1:lo<281474976710656:=by omega
   have hg:¬(1<lo+1-lo):=by omega
   have FI:Hid (fG 2 n lo):=⟨lo0,by have:=IV.out.1;simpa [Int.pow_succ] using this,by have:=IV.out.2;simpa [Int.pow_succ] using this⟩
   clear HD IV hi1
   go_wp2
   simp [bodyPost,results,Tryz.results193,go_sem]
   exact ⟨⟨lo,by first|rfl|omega,FI.out⟩,B⟩
  | succ gk =>
   have pk:(1:Int)≤2 ^ gk:=by have h:(0:Int)<2 ^ gk:=Int.pow_pos (by decide);omega
   have hgt:1<hi-lo:=by have:=HD.out;rw [Int.pow_succ] at this;omega
   have md:=xr HD.out
   have hl:0≤hi:=by omega
   obtain ⟨m,em⟩:∃ m,m=(lo+hi)/2:=⟨_,rfl⟩
   rw [←em] at md
   have m0:0≤m:=by omega
   have m1:m<281474976710656:=by omega
   have MD:Hid (m-lo=2 ^ gk∧hi-m=2 ^ gk):=md
   have MM:Hid (0≤m∧m<281474976710656):=⟨m0,m1⟩
   have em':(lo+hi)/2=m:=em.symm
   clear HD pk md em
   go_wp2_with fail
   refine aa (fun W=>Below w.heap.size w W∧Ih W w.heap.size [0,0,0,0,n,0,0,0,0,0,0,0,0,0,0,0]) ⟨B,hW⟩ ?_
   clear B hW
   rintro W ⟨B,hW⟩
   clear wr
   refine (nQ m0 (by omega) (by omega) _).mono ?_
   rintro e w3 ⟨⟨L,rfl,q1,q2,q3⟩,hb⟩
   have KL:Hid (L.length=16∧cr L∧vh L=m):=⟨q1,q2,q3⟩
   replace B:=B.trans (hb.mono B.size)
   replace hW:=hW.keep (by simp) hb
   clear hb W q1 q2 q3
   have s1:(L.map (Value.int .i64)).toArray.size=16:=by simp [KL.out.1]
   have F1:∀ t,Hid (Below w.heap.size w ((w3.alloc (.cells ((List.replicate 16 (0:Int)).map (Value.int .i64)).toArray t)).setCells w3.heap.size 0 (L.map (Value.int .i64)))∧Ih ((w3.alloc (.cells ((List.replicate 16 (0:Int)).map (Value.int .i64)).toArray t)).setCells w3.heap.size 0 (L.map (Value.int .i64))) w.heap.size [0,0,0,0,n,0,0,0,0,0,0,0,0,0,0,0]∧Ih ((w3.alloc (.cells ((List.replicate 16 (0:Int)).map (Value.int .i64)).toArray t)).setCells w3.heap.size 0 (L.map (Value.int .i64))) w3.heap.size L):=fun t=>⟨below_setCells B.size _ 0 _ (B.alloc B.size _),(hW.alloc (by simp) _).otherCells (Nat.ne_of_gt (hW.lt (by simp))) _,(Ih.new (List.replicate 16 0) t rfl).stored (by simp [KL.out.1])⟩
   have nm:w3.heap.size≠w.heap.size:=Nat.ne_of_gt (hW.lt (by simp))
   have gm:w.heap.size≤w3.heap.size:=B.size
   clear B hW
   go_wp2_with (first|((refine wpList_store_mid rfl 206 _ _ rfl w3.heap.size 0 (L.map (Value.int .i64)).toArray rfl rfl (k9 rfl (by rw [s1];rfl)) (by rw [s1];kernel_rfl) (fI _) ?_);(refine aA (fun W=>Below w.heap.size w W∧Ih W w.heap.size [0,0,0,0,n,0,0,0,0,0,0,0,0,0,0,0]∧Ih W w3.heap.size L) (F1 _).out ?_);(clear F1);(rintro W ⟨B,hW,hM⟩))|refine wpList_load_mid rfl 206 _ rfl w3.heap.size 0 rfl (L.map (Value.int .i64)) _ hM.range Tryz.underlying206 rfl (by rw [List.length_map,KL.out.1];kernel_rfl) ?_)
   refine aa (fun W=>Below w.heap.size w W∧Ih W w.heap.size [0,0,0,0,n,0,0,0,0,0,0,0,0,0,0,0]∧Ih W w3.heap.size L) ⟨B,hW,hM⟩ ?_
   clear B hW hM W
   rintro W ⟨B,hW,hM⟩
   generalize w3.heap.size=bm at *
   clear w3
   have vL:vh (L.take 8)=m:=by rw [iI KL.out.1 KL.out.2.1 (by rw [KL.out.2.2];have:=MM.out;rw [show (65536:Int) ^ 8=340282366920938463463374607431768211456 by decide];omega)];exact KL.out.2.2
   refine (jU KL.out.1 KL.out.1 KL.out.2.1 KL.out.2.1 vL _).mono ?_
   rw [vL]
   clear vL
   rintro e w4 ⟨⟨P,rfl,q1,q2,q3⟩,hb⟩
   have KP:Hid (P.length=16∧cr P∧vh P=m*m):=⟨q1,q2,q3⟩
   replace B:=B.trans (hb.mono B.size)
   replace hW:=hW.keep (by simp) hb;replace hM:=hM.keep (by rw [KL.out.1];decide) hb
   clear hb W q1 q2 q3
   have s2:(P.map (Value.int .i64)).toArray.size=16:=by simp [KP.out.1]
   have F2:∀ t,Hid (Below w.heap.size w ((w4.alloc (.cells ((List.replicate 16 (0:Int)).map (Value.int .i64)).toArray t)).setCells w4.heap.size 0 (P.map (Value.int .i64)))∧Ih ((w4.alloc (.cells ((List.replicate 16 (0:Int)).map (Value.int .i64)).toArray t)).setCells w4.heap.size 0 (P.map (Value.int .i64))) w.heap.size [0,0,0,0,n,0,0,0,0,0,0,0,0,0,0,0]∧Ih ((w4.alloc (.cells ((List.replicate 16 (0:Int)).map (Value.int .i64)).toArray t)).setCells w4.heap.size 0 (P.map (Value.int .i64))) bm L∧Ih ((w4.alloc (.cells ((List.replicate 16 (0:Int)).map (Value.int .i64)).toArray t)).setCells w4.heap.size 0 (P.map (Value.int .i64))) w4.heap.size P):=fun t=>⟨below_setCells B.size _ 0 _ (B.alloc B.size _),(hW.alloc (by simp) _).otherCells (Nat.ne_of_gt (hW.lt (by simp))) _,(hM.alloc (by rw [KL.out.1];decide) _).otherCells (Nat.ne_of_gt (hM.lt (by rw [KL.out.1];decide))) _,(Ih.new (List.replicate 16 0) t rfl).stored (by simp [KP.out.1])⟩
   have NB:Hid (w4.heap.size≠w.heap.size∧w.heap.size≤w4.heap.size):=⟨Nat.ne_of_gt (hW.lt (by simp)),B.size⟩
   clear B hW hM
   go_wp2_with (first|((refine wpList_store_mid rfl 206 _ _ rfl w4.heap.size 0 (P.map (Value.int .i64)).toArray rfl rfl (k9 rfl (by rw [s2];rfl)) (by rw [s2];kernel_rfl) (fI _) ?_);(refine aA (fun W=>Below w.heap.size w W∧Ih W w.heap.size [0,0,0,0,n,0,0,0,0,0,0,0,0,0,0,0]∧Ih W bm L∧Ih W w4.heap.size P) (F2 _).out ?_);(clear F2);(rintro W ⟨B,hW,hM,hP⟩);(generalize w4.heap.size=bp at *))|refine wpList_load_mid rfl 206 _ rfl bp 0 rfl (P.map (Value.int .i64)) _ hP.range Tryz.underlying206 rfl (by rw [List.length_map,KP.out.1];kernel_rfl) ?_|refine wpList_load_mid rfl 206 _ rfl w.heap.size 0 rfl ([0,0,0,0,n,0,0,0,0,0,0,0,0,0,0,0].map (Value.int .i64)) _ hW.range Tryz.underlying206 rfl (by kernel_rfl) ?_)
   refine aa (fun W=>Below w.heap.size w W∧Ih W w.heap.size [0,0,0,0,n,0,0,0,0,0,0,0,0,0,0,0]) ⟨B,hW⟩ ?_
   clear B hW hP
   rintro W' ⟨B,hW⟩
   refine (qi KP.out.1 rfl KP.out.2.1 GW.out.1 _).mono ?_
   rw [KP.out.2.2,GW.out.2]
   by_cases c:m*m≤n*18446744073709551616
   ·rw [decide_eq_true c]
    have CC:Hid (m*m≤n*18446744073709551616):=c
    clear c
    rintro e w6 ⟨rfl,hb⟩
    replace B:=B.trans (hb.mono B.size)
    replace hW:=hW.keep (by simp) hb
    clear hb
    go_wp2
    go_roundg gk
    case measure=>omega
    case rel=>exact ⟨m,hi,rfl,rfl,MD.out.2,MM.out.1,hi1,CC.out,IV.out.2,B,hW⟩
   ·rw [decide_eq_false c]
    have CC:Hid (¬m*m≤n*18446744073709551616):=c
    clear c
    rintro e w6 ⟨rfl,hb⟩
    replace B:=B.trans (hb.mono B.size)
    replace hW:=hW.keep (by simp) hb
    clear hb
    go_wp2
    go_roundg gk
    case measure=>omega
    case rel=>exact ⟨lo,m,rfl,rfl,MD.out.1,lo0,by have:=MM.out;omega,IV.out.1,by have:=CC.out;omega,B,hW⟩
theorem Al {n:Int} (n0:0≤n) (n1:n<65536) (w:World) :
  Calls Tryz.prog 193 #[.int .i64 n,.int .i64 3] w fun e w'=>(∃ r:Int,e = .returned (.int .u32 (r%4294967296))∧fG 3 n r)∧Below w.heap.size w w':=by
 have NN:Hid (0≤n∧n<65536):=⟨n0,n1⟩
 have GW:Hid (cr [0,0,0,0,0,0,n,0,0,0,0,0,0,0,0,0]∧vh [0,0,0,0,0,0,n,0,0,0,0,0,0,0,0,0]=n*79228162514264337593543950336):=⟨fun x hx=>by simp only [List.mem_cons,List.not_mem_nil,or_false] at hx;rcases hx with rfl|rfl|rfl|rfl|rfl|rfl|rfl|rfl|rfl|rfl|rfl|rfl|rfl|rfl|rfl|rfl<;>exact ⟨by omega,by omega⟩,by simp only [vh];omega⟩
 clear n0 n1
 go_enter Tryz.func193,Tryz.ntmps193
 go_wp2_with fail
 refine af (fun W=>Below w.heap.size w W∧Ih W w.heap.size [0,0,0,0,0,0,n,0,0,0,0,0,0,0,0,0]) ⟨by repeat (first|with_reducible exact Below.refl _ _|with_reducible refine Below.setCell ?_ (Nat.le_refl _) _|with_reducible refine Below.alloc ?_ (by first|omega|(simp;done)|(simp;omega)) _),(Ih.new [0,0,0,0,0,0,n,0,0,0,0,0,0,0,0,0] _ rfl)⟩ ?_
 rintro W ⟨B,hW⟩
 go_loopg [6,7] 48 (fun k lv hv wr=>∃ lo hi:Int,lv = .int .i64 lo∧hv = .int .i64 hi∧hi-lo=2 ^ k∧0≤lo∧hi≤281474976710656∧lo*lo*lo≤n*79228162514264337593543950336∧n*79228162514264337593543950336<hi*hi*hi∧Below w.heap.size w wr∧Ih wr w.heap.size [0,0,0,0,0,0,n,0,0,0,0,0,0,0,0,0])
 case atStart=>exact ⟨0,281474976710656,rfl,rfl,by decide,by decide,by decide,by have:=NN.out;omega,by have:=NN.out;omega,B,hW⟩
 case round =>
  clear B hW W
  obtain ⟨lo,hi,rfl,rfl,hd,lo0,hi1,e1,e2,B,hW⟩:=hrel
  have IV:Hid (lo*lo*lo≤n*79228162514264337593543950336∧n*79228162514264337593543950336<hi*hi*hi):=⟨e1,e2⟩
  have HD:Hid (hi-lo=2 ^ gk):=hd
  clear e1 e2 hd
  cases gk with
  | zero =>
   have h1:hi=lo+1:=by have:=HD.out;simp at this;omega
   subst h1
   have l1:lo<281474976710656:=by omega
   have hg:¬(1<lo+1-lo):=by omega
   have FI:Hid (fG 3 n lo):=⟨lo0,by have:=IV.out.1;simpa [Int.pow_succ] using this,by have:=IV.out.2;simpa [Int.pow_succ] using this⟩
   clear HD IV hi1
   go_wp2
   simp [bodyPost,results,Tryz.results193,go_sem]
   exact ⟨⟨lo,by first|rfl|omega,FI.out⟩,B⟩
  | succ gk =>
   have pk:(1:Int)≤2 ^ gk:=by have h:(0:Int)<2 ^ gk:=Int.pow_pos (by decide);omega
   have hgt:1<hi-lo:=by have:=HD.out;rw [Int.pow_succ] at this;omega
   have md:=xr HD.out
   have hl:0≤hi:=by omega
   obtain ⟨m,em⟩:∃ m,m=(lo+hi)/2:=⟨_,rfl⟩
   rw [←em] at md
   have m0:0≤m:=by omega
   have m1:m<281474976710656:=by omega
   have MD:Hid (m-lo=2 ^ gk∧hi-m=2 ^ gk):=md
   have MM:Hid (0≤m∧m<281474976710656):=⟨m0,m1⟩
   have em':(lo+hi)/2=m:=em.symm
   clear HD pk md em
   go_wp2_with fail
   refine aa (fun W=>Below w.heap.size w W∧Ih W w.heap.size [0,0,0,0,0,0,n,0,0,0,0,0,0,0,0,0]) ⟨B,hW⟩ ?_
   clear B hW
   rintro W ⟨B,hW⟩
   clear wr
   refine (nQ m0 (by omega) (by omega) _).mono ?_
   rintro e w3 ⟨⟨L,rfl,q1,q2,q3⟩,hb⟩
   have KL:Hid (L.length=16∧cr L∧vh L=m):=⟨q1,q2,q3⟩
   replace B:=B.trans (hb.mono B.size)
   replace hW:=hW.keep (by simp) hb
   clear hb W q1 q2 q3
   have s1:(L.map (Value.int .i64)).toArray.size=16:=by simp [KL.out.1]
   have F1:∀ t,Hid (Below w.heap.size w ((w3.alloc (.cells ((List.replicate 16 (0:Int)).map (Value.int .i64)).toArray t)).setCells w3.heap.size 0 (L.map (Value.int .i64)))∧Ih ((w3.alloc (.cells ((List.replicate 16 (0:Int)).map (Value.int .i64)).toArray t)).setCells w3.heap.size 0 (L.map (Value.int .i64))) w.heap.size [0,0,0,0,0,0,n,0,0,0,0,0,0,0,0,0]∧Ih ((w3.alloc (.cells ((List.replicate 16 (0:Int)).map (Value.int .i64)).toArray t)).setCells w3.heap.size 0 (L.map (Value.int .i64))) w3.heap.size L):=fun t=>⟨below_setCells B.size _ 0 _ (B.alloc B.size _),(hW.alloc (by simp) _).otherCells (Nat.ne_of_gt (hW.lt (by simp))) _,(Ih.new (List.replicate 16 0) t rfl).stored (by simp [KL.out.1])⟩
   have nm:w3.heap.size≠w.heap.size:=Nat.ne_of_gt (hW.lt (by simp))
   have gm:w.heap.size≤w3.heap.size:=B.size
   clear B hW
   go_wp2_with (first|((refine wpList_store_mid rfl 206 _ _ rfl w3.heap.size 0 (L.map (Value.int .i64)).toArray rfl rfl (k9 rfl (by rw [s1];rfl)) (by rw [s1];kernel_rfl) (fI _) ?_);(refine aA (fun W=>Below w.heap.size w W∧Ih W w.heap.size [0,0,0,0,0,0,n,0,0,0,0,0,0,0,0,0]∧Ih W w3.heap.size L) (F1 _).out ?_);(clear F1);(rintro W ⟨B,hW,hM⟩))|refine wpList_load_mid rfl 206 _ rfl w3.heap.size 0 rfl (L.map (Value.int .i64)) _ hM.range Tryz.underlying206 rfl (by rw [List.length_map,KL.out.1];kernel_rfl) ?_)
   refine aa (fun W=>Below w.heap.size w W∧Ih W w.heap.size [0,0,0,0,0,0,n,0,0,0,0,0,0,0,0,0]∧Ih W w3.heap.size L) ⟨B,hW,hM⟩ ?_
   clear B hW hM W
   rintro W ⟨B,hW,hM⟩
   generalize w3.heap.size=bm at *
   clear w3
   have vL:vh (L.take 8)=m:=by rw [iI KL.out.1 KL.out.2.1 (by rw [KL.out.2.2];have:=MM.out;rw [show (65536:Int) ^ 8=340282366920938463463374607431768211456 by decide];omega)];exact KL.out.2.2
   refine (jU KL.out.1 KL.out.1 KL.out.2.1 KL.out.2.1 vL _).mono ?_
   rw [vL]
   clear vL
   rintro e w4 ⟨⟨P,rfl,q1,q2,q3⟩,hb⟩
   have KP:Hid (P.length=16∧cr P∧vh P=m*m):=⟨q1,q2,q3⟩
   replace B:=B.trans (hb.mono B.size)
   replace hW:=hW.keep (by simp) hb;replace hM:=hM.keep (by rw [KL.out.1];decide) hb
   clear hb W q1 q2 q3
   have s2:(P.map (Value.int .i64)).toArray.size=16:=by simp [KP.out.1]
   have F2:∀ t,Hid (Below w.heap.size w ((w4.alloc (.cells ((List.replicate 16 (0:Int)).map (Value.int .i64)).toArray t)).setCells w4.heap.size 0 (P.map (Value.int .i64)))∧Ih ((w4.alloc (.cells ((List.replicate 16 (0:Int)).map (Value.int .i64)).toArray t)).setCells w4.heap.size 0 (P.map (Value.int .i64))) w.heap.size [0,0,0,0,0,0,n,0,0,0,0,0,0,0,0,0]∧Ih ((w4.alloc (.cells ((List.replicate 16 (0:Int)).map (Value.int .i64)).toArray t)).setCells w4.heap.size 0 (P.map (Value.int .i64))) bm L∧Ih ((w4.alloc (.cells ((List.replicate 16 (0:Int)).map (Value.int .i64)).toArray t)).setCells w4.heap.size 0 (P.map (Value.int .i64))) w4.heap.size P):=fun t=>⟨below_setCells B.size _ 0 _ (B.alloc B.size _),(hW.alloc (by simp) _).otherCells (Nat.ne_of_gt (hW.lt (by simp))) _,(hM.alloc (by rw [KL.out.1];decide) _).otherCells (Nat.ne_of_gt (hM.lt (by rw [KL.out.1];decide))) _,(Ih.new (List.replicate 16 0) t rfl).stored (by simp [KP.out.1])⟩
   have NB:Hid (w4.heap.size≠w.heap.size∧w.heap.size≤w4.heap.size):=⟨Nat.ne_of_gt (hW.lt (by simp)),B.size⟩
   clear B hW hM
   go_wp2_with (first|((refine wpList_store_mid rfl 206 _ _ rfl w4.heap.size 0 (P.map (Value.int .i64)).toArray rfl rfl (k9 rfl (by rw [s2];rfl)) (by rw [s2];kernel_rfl) (fI _) ?_);(refine aA (fun W=>Below w.heap.size w W∧Ih W w.heap.size [0,0,0,0,0,0,n,0,0,0,0,0,0,0,0,0]∧Ih W bm L∧Ih W w4.heap.size P) (F2 _).out ?_);(clear F2);(rintro W ⟨B,hW,hM,hP⟩);(generalize w4.heap.size=bp at *))|refine wpList_load_mid rfl 206 _ rfl bp 0 rfl (P.map (Value.int .i64)) _ hP.range Tryz.underlying206 rfl (by rw [List.length_map,KP.out.1];kernel_rfl) ?_|refine wpList_load_mid rfl 206 _ rfl bm 0 rfl (L.map (Value.int .i64)) _ hM.range Tryz.underlying206 rfl (by rw [List.length_map,KL.out.1];kernel_rfl) ?_)
   refine aa (fun W=>Below w.heap.size w W∧Ih W w.heap.size [0,0,0,0,0,0,n,0,0,0,0,0,0,0,0,0]∧Ih W bm L∧Ih W bp P) ⟨B,hW,hM,hP⟩ ?_
   clear B hW hM hP W
   rintro W ⟨B,hW,hM,hP⟩
   have vL:vh (L.take 8)=m:=by rw [iI KL.out.1 KL.out.2.1 (by rw [KL.out.2.2];have:=MM.out;rw [show (65536:Int) ^ 8=340282366920938463463374607431768211456 by decide];omega)];exact KL.out.2.2
   have vP:vh (P.take 8)=m*m:=by rw [iI KP.out.1 KP.out.2.1 (by rw [KP.out.2.2];have:=Be MM.out.1 MM.out.2;rw [show (65536:Int) ^ 8=340282366920938463463374607431768211456 by decide];omega)];exact KP.out.2.2
   refine (jU KP.out.1 KL.out.1 KP.out.2.1 KL.out.2.1 vL _).mono ?_
   rw [vP]
   clear vL vP
   rintro e w5 ⟨⟨P3,rfl,q1,q2,q3⟩,hb⟩
   have KP3:Hid (P3.length=16∧cr P3∧vh P3=m*m*m):=⟨q1,q2,q3⟩
   replace B:=B.trans (hb.mono B.size)
   replace hW:=hW.keep (by simp) hb;replace hP:=hP.keep (by rw [KP.out.1];decide) hb
   clear hb W q1 q2 q3 hM
   have s3:(P3.map (Value.int .i64)).toArray.size=16:=by simp [KP3.out.1]
   have np:bp≠w.heap.size:=NB.out.1
   have F3:Hid (Below w.heap.size w (w5.setCells bp 0 (P3.map (Value.int .i64)))∧Ih (w5.setCells bp 0 (P3.map (Value.int .i64))) w.heap.size [0,0,0,0,0,0,n,0,0,0,0,0,0,0,0,0]∧Ih (w5.setCells bp 0 (P3.map (Value.int .i64))) bp P3):=⟨below_setCells NB.out.2 _ 0 _ B,hW.otherCells np _,hP.stored (by rw [KP3.out.1,KP.out.1])⟩
   have tr:=hP.there (k:=(P3.map (Value.int .i64)).toArray.size) (by rw [s3,KP.out.1])
   clear B hW hP
   go_wp2_with (first|((refine wpList_store_mid rfl 206 _ _ rfl bp 0 (P3.map (Value.int .i64)).toArray rfl rfl tr (by rw [s3];kernel_rfl) (fI _) ?_);(refine aA (fun W=>Below w.heap.size w W∧Ih W w.heap.size [0,0,0,0,0,0,n,0,0,0,0,0,0,0,0,0]∧Ih W bp P3) F3.out ?_);(clear F3 tr);(rintro W ⟨B,hW,hP⟩))|refine wpList_load_mid rfl 206 _ rfl bp 0 rfl (P3.map (Value.int .i64)) _ hP.range Tryz.underlying206 rfl (by rw [List.length_map,KP3.out.1];kernel_rfl) ?_|refine wpList_load_mid rfl 206 _ rfl w.heap.size 0 rfl ([0,0,0,0,0,0,n,0,0,0,0,0,0,0,0,0].map (Value.int .i64)) _ hW.range Tryz.underlying206 rfl (by kernel_rfl) ?_)
   refine aa (fun W=>Below w.heap.size w W∧Ih W w.heap.size [0,0,0,0,0,0,n,0,0,0,0,0,0,0,0,0]) ⟨B,hW⟩ ?_
   clear B hW hP
   rintro W' ⟨B,hW⟩
   refine (qi KP3.out.1 rfl KP3.out.2.1 GW.out.1 _).mono ?_
   rw [KP3.out.2.2,GW.out.2]
   by_cases c:m*m*m≤n*79228162514264337593543950336
   ·rw [decide_eq_true c]
    have CC:Hid (m*m*m≤n*79228162514264337593543950336):=c
    clear c
    rintro e w6 ⟨rfl,hb⟩
    replace B:=B.trans (hb.mono B.size)
    replace hW:=hW.keep (by simp) hb
    clear hb
    go_wp2
    go_roundg gk
    case measure=>omega
    case rel=>exact ⟨m,hi,rfl,rfl,MD.out.2,MM.out.1,hi1,CC.out,IV.out.2,B,hW⟩
   ·rw [decide_eq_false c]
    have CC:Hid (¬m*m*m≤n*79228162514264337593543950336):=c
    clear c
    rintro e w6 ⟨rfl,hb⟩
    replace B:=B.trans (hb.mono B.size)
    replace hW:=hW.keep (by simp) hb
    clear hb
    go_wp2
    go_roundg gk
    case measure=>omega
    case rel=>exact ⟨lo,m,rfl,rfl,MD.out.1,lo0,by have:=MM.out;omega,IV.out.1,by have:=CC.out;omega,B,hW⟩
end Go.Proofs.YtnnnaajgjniiaaaGreatDoor.S
