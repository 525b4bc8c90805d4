import Derived.Test.YtjoandmehahfgaaGreatDoorSComp
import Derived.Laws.IdiomCopy
import Derived.Test.YtjoandmehahfgaaGreatDoorSPad
import Derived.Test.YtjoandmehahfgaaGreatDoorSBase
import Derived.Test.YtjoandmehahfgaaGreatDoorAb
set_option maxRecDepth 100000
set_option maxHeartbeats 4000000
namespace Go.Proofs.YtjoandmehahfgaaGreatDoor.S
open Go.RowKit Go.Sort
def mi (X:List (BitVec 8)):List (BitVec 8):=X.drop (64*(X.length/64))
theorem jf (X:List (BitVec 8)):(mi X).length=X.length%64:=by rw [mi,List.length_drop];omega
def bkX (X:List (BitVec 8)):List (BitVec 8):=mi X++List.replicate (64-X.length%64) 0
theorem ur (X:List (BitVec 8)):(bkX X).length=64:=by rw [bkX,List.length_append,jf,List.length_replicate];omega
def stX (X:List (BitVec 8)):List (BitVec 32):=if X.length<64 then List.replicate 8 0 else nZ X (X.length/64)
theorem ut (X:List (BitVec 8)):(stX X).length=8:=by
 unfold stX
 split
 ·simp
 ·exact rF _ _
def over (K Z:List (BitVec 8)) (p:Nat):List (BitVec 8):=K.take p++(Z++K.drop (p+Z.length))
theorem yW {K Z:List (BitVec 8)} {p:Nat} (h:p+Z.length≤K.length):(over K Z p).length=K.length:=by rw [over,List.length_append,List.length_append,List.length_take,List.length_drop];omega
theorem uu {X Z:List (BitVec 8)}:over (bkX X) Z (X.length%64)=mi X++(Z++List.replicate (64-X.length%64-Z.length) 0):=by
 rw [over,bkX,List.take_left' (jf X),←List.drop_drop,List.drop_left' (jf X),List.drop_replicate]
theorem yX {X Z:List (BitVec 8)} (h:X.length%64+Z.length<64):stX (X++Z)=stX X∧bkX (X++Z)=over (bkX X) Z (X.length%64):=by
 have e:(X++Z).length=X.length+Z.length:=List.length_append
 have q:(X.length+Z.length)/64=X.length/64:=by omega
 have m:(X.length+Z.length)%64=X.length%64+Z.length:=by omega
 refine ⟨?_,?_⟩
 ·unfold stX
  rw [e,q,n8 _ (by omega)]
  by_cases h6:X.length<64
  ·rw [if_pos h6,if_pos (by omega)]
  ·rw [if_neg h6,if_neg (by omega)]
 ·rw [uu,bkX,mi,e,q,m,List.drop_append_of_le_length (by omega),mi,List.append_assoc,Nat.sub_sub]
theorem tj {X Z:List (BitVec 8)} (h:X.length%64+Z.length=64):jr (if X.length+Z.length=64 then hN else stX X) (over (bkX X) Z (X.length%64))=stX (X++Z)∧bkX (X++Z)=List.replicate 64 0:=by
 have e:(X++Z).length=X.length+Z.length:=List.length_append
 have q:(X.length+Z.length)/64=X.length/64+1:=by omega
 have m:(X.length+Z.length)%64=0:=by omega
 refine ⟨?_,?_⟩
 ·have hb:over (bkX X) Z (X.length%64)=blk (X++Z) (X.length/64):=by
   rw [uu,blk,List.drop_append_of_le_length (by omega),show 64-X.length%64-Z.length=0 by omega,List.replicate_zero,List.append_nil,←mi]
   exact (List.take_of_length_le (by rw [List.length_append,jf];omega)).symm
  have hs:(if X.length+Z.length=64 then hN else stX X)=nZ X (X.length/64):=by
   by_cases h6:X.length+Z.length=64
   ·rw [if_pos h6,show X.length/64=0 by omega];rfl
   ·rw [if_neg h6,stX,if_neg (by omega)]
  rw [hb,hs,stX,e,if_neg (by omega),q,nZ,n8 _ (by omega)]
 ·rw [bkX,mi,e,q,m,List.drop_eq_nil_of_le (by rw [e];omega)]
  rfl
def Tx (W:World) (b:Nat) (X:List (BitVec 8)):Prop:=Hs W b (stX X) (bkX X) X.length
theorem Hs.part {W:World} {b:Nat} {S:List (BitVec 32)} {K Z:List (BitVec 8)} {T p:Nat} (h:Hs W b S K T) (hp:p+Z.length≤64):Hs (W.setCells b (8+p) (byts Z)) b S (over K Z p) T:=by
 have hl:(over K Z p).length=64:=by rw [yW (by rw [h.kl];exact hp),h.kl]
 refine ⟨h.sl,hl,fun j hj=>?_,fun j hj=>?_,?_,h.ls.setCells _ _ _⟩
 ·rw [World.cell?_setCells_out _ _ _ _ _ (fun _ _=>.inl (by have:=h.sl;show 0+j<8+p;omega))];exact h.st j hj
 ·have tp:(K.take p).length=p:=by rw [List.length_take,h.kl];omega
  have hc:=h.bk j (by rw [h.kl];omega)
  by_cases h1:j<p
  ·rw [World.cell?_setCells_out _ _ _ _ _ (fun _ _=>.inl (by show 8+j<8+p;omega)),hc]
   rw [over,List.getD,List.getD,List.getElem?_append_left (by omega),List.getElem?_take,if_pos h1]
  ·by_cases h2:j<p+Z.length
   ·have th:W.there b (8+p) (byts Z).length:=fun i hi=>by
     rw [byts_len] at hi
     have:=h.thereK (p+i) (by omega)
     rwa [←Nat.add_assoc] at this
    have k:=World.rangeAt_setCells_same W b (8+p) (byts Z) th (j-p) (.int .u8 (Y (Z.getD (j-p) 0))) (by simp [byts,List.getD,show j-p<Z.length by omega])
    rw [show 8+p+(j-p)=8+j by omega] at k
    rw [k,over,List.getD,List.getD,List.getElem?_append_right (by omega),tp,List.getElem?_append_left (by omega)]
   ·rw [World.cell?_setCells_out _ _ _ _ _ (fun _ _=>.inr (by rw [byts_len];show 8+p+Z.length≤8+j;omega)),hc]
    rw [over,List.getD,List.getD,List.getElem?_append_right (by omega),tp,List.getElem?_append_right (by omega),List.getElem?_drop,show p+Z.length+(j-p-Z.length)=j by omega]
 ·rw [World.cell?_setCells_out _ _ _ _ _ (fun _ _=>.inr (by rw [byts_len];show 8+p+Z.length≤72;omega))];exact h.tk
theorem oa {P:Program} {w:World} {ops:Array Oper} {rest:List Oper} {a:Act} {Q:Exit→Act→World→Prop} {nd:Nat} {tt:TypeId} {pos:String} {after:Array Edge} {d s:Operand} {dT sT elem:TypeId}
  {b p n r dCap m sCap bs os T:Nat} {S:List (BitVec 32)} {K Z X:List (BitVec 8)} (hu:P.underlying dT=some (.slice elem)) (hsz:(P.info? elem).map (·.size)=some 1) (hH:Hs w b S K T) (hX:Byo w bs os X) (hZ:Z=X.take n) (hn:n=min m r) (hm:m=X.length) (hr:p+r=64)
  (hd:a.eval d = .slice (some ⟨b,8+p,none⟩) r dCap) (hs:a.eval s = .slice (some ⟨bs,os,none⟩) m sCap)
  (h:∀ w',Hs w' b S (over K Z p) T→Off b w w'→wpList P ops Q rest (a.put (some nd) (goInt n)) w'):wpList P ops Q (⟨some nd,.call { callee:=.builtin .copy,args:=#[d,s],argTypes:=#[dT,sT] },tt,pos,after,none⟩ :: rest) a w:=by
 have lZ:Z.length=n:=by rw [hZ,List.length_take];omega
 refine wpList_plain rfl fun K' hK=>?_
 have hrun:=run_copy_cells (P:=P) w dT sT tt elem b (8+p) r dCap ⟨bs,os,none⟩ m sCap (byts Z) hu hsz (by rw [byts_len,lZ,hn]) (fun j v hv=>by
   unfold byts at hv
   rw [List.getElem?_map] at hv
   obtain ⟨x,hx,rfl⟩:=Option.map_eq_some_iff.1 hv
   have hj:j<Z.length:=(List.getElem?_eq_some_iff.1 hx).1
   rw [Addr.add_mid,hX j (by omega)]
   rw [hZ,List.getElem?_take,if_pos (by omega)] at hx
   simp [List.getD,hx]) (fun j hj=>by
   rw [byts_len] at hj
   rw [Nat.add_assoc,hH.bk (p+j) (by rw [hH.kl];omega)]
   rfl) (fun j hj=>by
   rw [byts_len] at hj
   rw [Nat.add_assoc]
   exact hH.ls (8+(p+j)) (by omega)) (fun v hv=>by obtain ⟨x,_,rfl⟩:=List.mem_map.1 hv;rfl)
 rw [byts_len,lZ] at hrun
 unfold Oper.wp
 simp [execOp,resolve,invoke,builtin,hd,hs,hrun,Result.andThen]
 exact hK _ _ (h _ (hH.part (by omega)) ((Off.refl _ _).setCells _))
open Go.RowKit Go.Sort
theorem ws {b p:Nat} (hp:p<64) (w:World):(Instr.sliceAt 143 (.pointer (some ⟨b,8,none⟩)) (some (.int .i64 (p:Int))) none none).run Tryz.prog w = .ok (.slice (some ⟨b,8+p,none⟩) (64-p) (64-p)) w:=by
 have tu:=Tryz.underlying143
 have tz:=Tryz.sizeOf5
 have hb:(Instr.sliceBounds false 64 64 (some (.int .i64 (p:Int))) none none).run Tryz.prog w = .ok (p,64,64) w:=by
  have h1:(p:Int)≤64:=by omega
  simp [Instr.sliceBounds,go_sem,h1]
 have hz:(sizeOf 5).run Tryz.prog w = .ok 1 w:=by simp [go_sem,tz]
 simp only [Instr.sliceAt,Instr.sureAddr,Sem.run_bind,Sem.run_pure,Result.andThen_ok,run_underlying tu,hb,hz]
 rw [if_neg (by omega)]
 simp [Addr.add]
theorem eO {b bd od cd:Nat} {a:Option Addr} {A X:List (BitVec 8)} (ne:bd≠b) (nf:4≠b) (ns:5≠b) (hs:A.length+X.length<1073741824) (hc:X.length≤cd) (hx:At a bd od X) (w:World) (hS:Tx w b A) (hX:Byo w bd od X) (hf:Wds w 4 0 hN) (hk:Wds w 5 0 kN) :
  Calls Tryz.prog 113 #[.pointer (some ⟨b,0,none⟩),.slice a X.length cd] w fun e w'=>e = .returned (.tuple #[])∧Tx w' b (A++X)∧Off b w w':=by
 have NN:Hid (bd≠b∧4≠b∧5≠b):=⟨ne,nf,ns⟩
 have HH:Hid (Byo w bd od X∧Wds w 4 0 hN∧Wds w 5 0 kN):=⟨hX,hf,hk⟩
 clear ne nf ns hX hf hk
 go_enter Tryz.func113,Tryz.ntmps113
 go_wp2_with fail
 go_loopg [1] X.length (fun g v wr=>∃ (n:Nat) (a':Option Addr) (c':Nat),g=X.length-n∧n≤X.length∧v = .slice a' (X.length-n) c'∧X.length-n≤c'∧At a' bd (od+n) (X.drop n)∧Tx wr b (A++X.take n)∧Off b w wr)
 case atStart=>exact ⟨0,a,cd,rfl,Nat.zero_le _,rfl,hc,hx,by rw [List.take_zero,List.append_nil];exact hS,Off.refl _ _⟩
 case round =>
  clear hS hx hc
  obtain ⟨n,a',c',hk,hn,rfl,hc,ha,hS,hO⟩:=hrel
  have HK:Hid (gk=X.length-n):=hk
  have HF:Hid (Tx wr b (A++X.take n)∧Off b w wr∧At a' bd (od+n) (X.drop n)):=⟨hS,hO,ha⟩
  clear hk hS hO ha
  by_cases h8:n=X.length
  ·subst h8
   have e0:X.length-X.length=0:=Nat.sub_self _
   go_wp2
   all_goals go_end0
   all_goals exact ⟨rfl,by have h:=HF.out.1;rw [List.take_length] at h;exact h,HF.out.2.1⟩
  ·have hd:(X.drop n).length=X.length-n:=List.length_drop
   have ea:a'=some ⟨bd,od+n,none⟩:=by
    rcases HF.out.2.2 with h|h
    ·rw [h] at hd;simp at hd;omega
    ·exact h
   subst ea
   obtain ⟨C,kC⟩:∃ C,C=A++X.take n:=⟨_,rfl⟩
   have lC:C.length=A.length+n:=by rw [kC,List.length_append,List.length_take];omega
   obtain ⟨D,kD⟩:∃ D,D=X.drop n:=⟨_,rfl⟩
   obtain ⟨r,hr⟩:∃ r,X.length-n=r:=⟨_,rfl⟩
   have lD:D.length=r:=by rw [kD,hd,hr]
   obtain ⟨p,ep⟩:∃ p:Nat,p=C.length%64:=⟨_,rfl⟩
   obtain ⟨T,eT⟩:∃ T:Nat,T=C.length:=⟨_,rfl⟩
   have EP:Hid ((T:Int)%64=(p:Int)):=by have h:(T:Int)%64=(p:Int):=(by omega);exact h
   obtain ⟨m,em⟩:∃ m:Nat,m=min r (64-p):=⟨_,rfl⟩
   obtain ⟨Z,kZ⟩:∃ Z,Z=D.take m:=⟨_,rfl⟩
   have lZ:Z.length=m:=by rw [kZ,List.length_take,lD];omega
   have HS:Hid (Hs wr b (stX C) (bkX C) T):=by have h:=HF.out.1;rw [←kC] at h;rw [eT];exact h
   have HD:Hid (Byo wr bd (od+n) D∧D.length=r∧Z=D.take m∧Z.length=m∧m=min r (64-p)∧p+(64-p)=64):=⟨by rw [kD];exact (HH.out.1.off HF.out.2.1 NN.out.1).drop,lD,kZ,lZ,em,by omega⟩
   have EC:Hid (A++X.take (n+m)=C++Z∧C.length=T∧T%64=p):=by
    refine ⟨?_,eT.symm,by omega⟩
    rw [List.take_add,←List.append_assoc,←kC,←kD,←kZ]
   have HO:Hid (Off b w wr):=HF.out.2.1
   have HN:Hid (n≤X.length∧¬n=X.length∧A.length+X.length<1073741824∧X.length-n=r∧r≤c'∧T=A.length+n∧0<r):=⟨hn,h8,hs,hr,by omega,by omega,by omega⟩
   have g72:=HS.out.tk
   have hT:(T:Int)<1073741824:=by omega
   have r1:(r:Int)<1073741824:=by omega
   have r0:0<r:=by omega
   have p1:(T:Int)%64≤64:=by omega
   have hp:(p:Int)<64:=by omega
   have hp2:p<64:=by omega
   have hp3:p≤64:=by omega
   have ep2:(T:Int)%64=(p:Int):=EP.out
   have hp4:¬(64=p):=by omega
   have hp5:¬(64-p=0):=by omega
   rw [hr]
   clear kC lC kD lD ep eT kZ lZ HF hd hn h8 hs em hc hr
   go_wp2_with fail
   refine aB 10 (by kernel_rfl) (by kernel_rfl) ?_
   simp only [List.take_succ_cons,List.take_zero,List.drop_succ_cons,List.drop_zero]
   repeat (first|go_big_quiet_skip|(go_big_quiet_want;go_big_quiet_op;go_big_quiet_on))
   rw [EP.out]
   have sla:=fun w=>ws (b:=b) hp2 w
   repeat (first|go_big_quiet_skip|(go_big_quiet_want;go_big_quiet_op;go_big_quiet_on))
   refine wpQuiet_nil ?_
   clear sla g72 ep2 hp hp2 hp3 hp4 hp5 p1
   have isz:(Tryz.prog.info? 5).map (·.size)=some 1:=by kernel_rfl
   refine oa (dT:=52) (p:=p) (n:=m) (Z:=Z) (X:=D) Tryz.underlying52 isz HS.out.drew HD.out.1 HD.out.2.2.1 HD.out.2.2.2.2.1 HD.out.2.1.symm HD.out.2.2.2.2.2 rfl rfl ?_
   intro w2 h2 o2
   have H2:Hid (Hs w2 b (stX C) (over (bkX C) Z p) T∧Off b w w2):=⟨h2,HO.out.drew.trans o2⟩
   clear h2 o2 HS HO isz
   have g72:=H2.out.1.tk
   have f72:=H2.out.1.ls 72 (by decide)
   have m1:m≤r:=by have:=HD.out.2.2.2.2.1;omega
   have m2:m≤c':=by have:=HN.out;omega
   have m3:(m:Int)≤64:=by have:=HD.out.2.2.2.2.1;omega
   have m4:0<m:=by have:=HD.out.2.2.2.2;have:=HN.out;have:=EC.out;omega
   obtain ⟨a2,ha2⟩:∃ a2,(if c'=m then some (⟨bd,od+n,none⟩:Addr) else some ⟨bd,od+n+m,none⟩)=a2:=⟨_,rfl⟩
   have AT:Hid (At a2 bd (od+(n+m)) (X.drop (n+m))):=by
    by_cases h:c'=m
    ·refine .inl (List.drop_eq_nil_of_le ?_)
     have:=HN.out;omega
    ·rw [if_neg h] at ha2
     exact .inr (by rw [←ha2,Nat.add_assoc])
   have RR:Hid (X.length-(n+m)=r-m∧n+m≤X.length∧r-m≤c'-m∧X.length-(n+m)<X.length-n):=by
    have:=HN.out
    exact ⟨by omega,by omega,by omega,by omega⟩
   obtain ⟨q,eq⟩:∃ q:Nat,q=(T+m)%64:=⟨_,rfl⟩
   have EQ:Hid (q=(T+m)%64):=eq
   have PZ:Hid (C.length%64+Z.length≤64∧C.length%64=p∧Z.length=m):=by
    have h1:=EC.out;have h2:=HD.out.2.2.2
    exact ⟨by rw [h1.2.1,h1.2.2,h2.1];omega,by rw [h1.2.1,h1.2.2],h2.1⟩
   by_cases hq:q=0
   ·have q1:((T:Int)+(m:Int))%64=0:=by omega
    have q2:(((T:Int)+(m:Int))%64==0)=true:=beq_iff_eq.2 q1
    have FZ:Hid (C.length%64+Z.length=64):=by have h:C.length%64+Z.length=64:=(by have:=PZ.out;have:=EC.out;omega);exact h
    clear eq q1
    go_wp2_with fail
    have H3:Hid (Hs (w2.setCell ⟨b,72,none⟩ (.int .i64 ((T:Int)+(m:Int)))) b (stX C) (over (bkX C) Z p) (T+m)∧Off b w (w2.setCell ⟨b,72,none⟩ (.int .i64 ((T:Int)+(m:Int))))):=⟨H2.out.1.setT (T+m),H2.out.2.setCell _⟩
    refine aa (fun W=>Hs W b (stX C) (over (bkX C) Z p) (T+m)∧Off b w W) H3.out ?_
    clear H3 H2 g72 f72 q2
    rintro W3 ⟨h3,o3⟩
    refine (wl (by have:=HN.out;omega) NN.out.2.1 NN.out.2.2 _ h3 (HH.out.2.1.off o3 NN.out.2.1) (HH.out.2.2.off o3 NN.out.2.2)).mono ?_
    rintro e w4 ⟨rfl,h4,o4⟩
    have H4:Hid (Tx w4 b (C++Z)∧Off b w w4):=by
     obtain ⟨i1,i2⟩:=tj FZ.out
     rw [PZ.out.2.1,PZ.out.2.2,EC.out.2.1] at i1
     rw [i1] at h4
     refine ⟨?_,o3.trans o4⟩
     rw [Tx,i2,List.length_append,PZ.out.2.2,EC.out.2.1]
     exact h4
    clear h3 o3 h4 o4 W3
    go_wp2
    go_roundg (X.length-(n+m))
    case measure=>have:=HK.out;have:=RR.out;omega
    case rel =>
     refine ⟨n+m,a2,c'-m,rfl,RR.out.2.1,by rw [RR.out.1],by rw [RR.out.1];exact RR.out.2.2.1,AT.out,?_,H4.out.2⟩
     rw [EC.out.1]
     exact H4.out.1
   ·have q1:¬((T:Int)+(m:Int))%64=0:=by omega
    have q2:(((T:Int)+(m:Int))%64==0)=false:=beq_eq_false_iff_ne.2 q1
    have FZ:Hid (C.length%64+Z.length<64):=by have h:C.length%64+Z.length<64:=(by have:=PZ.out;have:=EC.out;omega);exact h
    clear eq q1
    go_wp2
    go_roundg (X.length-(n+m))
    case measure=>have:=HK.out;have:=RR.out;omega
    case rel =>
     refine ⟨n+m,a2,c'-m,rfl,RR.out.2.1,by rw [RR.out.1],by rw [RR.out.1];exact RR.out.2.2.1,AT.out,?_,H2.out.2.setCell _⟩
     obtain ⟨i1,i2⟩:=yX FZ.out
     rw [EC.out.1,Tx,i1,i2,List.length_append,PZ.out.2.1,PZ.out.2.2,EC.out.2.1]
     exact H2.out.1.setT (T+m)
open Go.RowKit Go.Sort
noncomputable def cH (S:List (BitVec 32)) (K:List (BitVec 8)) (T:Nat):List Value:=aW S++(byts K++[.int .i64 (T:Int)])
theorem jG {S:List (BitVec 32)} {K:List (BitVec 8)} (T:Nat) (h1:S.length=8) (h2:K.length=64):(cH S K T).length=73:=by simp [cH,bO,byts_len,h1,h2]
theorem tm (S:List (BitVec 32)) (K:List (BitVec 8)) (T:Nat):(cH S K T).toArray.all (·.oneCell')=true:=all_oneCell_toArray (by
 intro v hv
 rw [cH,List.mem_append,List.mem_append] at hv
 rcases hv with h|h|h
 ·obtain ⟨x,_,rfl⟩:=List.mem_map.1 h;rfl
 ·obtain ⟨x,_,rfl⟩:=List.mem_map.1 h;rfl
 ·simp at h;subst h;rfl)
theorem rG {S:List (BitVec 32)} {K:List (BitVec 8)} {T i:Nat} (h1:S.length=8) (hi:i<8):(cH S K T)[i]?=some (.int .u32 (U (S.getD i 0))):=by
 rw [cH,List.getElem?_append_left (by rw [bO];omega)]
 simp [aW,List.getD,show i<S.length by omega]
theorem rH {S:List (BitVec 32)} {K:List (BitVec 8)} {T i:Nat} (h1:S.length=8) (h2:K.length=64) (hi:i<64):(cH S K T)[8+i]?=some (.int .u8 (Y (K.getD i 0))):=by
 rw [cH,List.getElem?_append_right (by rw [bO];omega),bO,h1,Nat.add_sub_cancel_left,List.getElem?_append_left (by rw [byts_len];omega)]
 simp [byts,List.getD,show i<K.length by omega]
theorem rI {S:List (BitVec 32)} {K:List (BitVec 8)} {T:Nat} (h1:S.length=8) (h2:K.length=64):(cH S K T)[72]?=some (.int .i64 (T:Int)):=by
 rw [cH,List.getElem?_append_right (by rw [bO];omega),bO,h1,List.getElem?_append_right (by rw [byts_len];omega),byts_len,h2]
 rfl
theorem Hs.range {W:World} {b:Nat} {S:List (BitVec 32)} {K:List (BitVec 8)} {T:Nat} (h:Hs W b S K T):W.rangeAt b 0 (cH S K T):=by
 intro j v hv
 rw [Nat.zero_add]
 have hj:j<73:=by
  have:=(List.getElem?_eq_some_iff.1 hv).1
  rw [jG T h.sl h.kl] at this
  exact this
 by_cases h1:j<8
 ·rw [rG h.sl h1] at hv
  have:=h.st j (by rw [h.sl];exact h1)
  rw [Nat.zero_add] at this
  rw [this,hv]
 ·by_cases h2:j<72
  ·obtain ⟨i,rfl⟩:∃ i,j=8+i:=⟨j-8,by omega⟩
   rw [rH h.sl h.kl (by omega)] at hv
   rw [h.bk i (by rw [h.kl];omega),hv]
  ·obtain rfl:j=72:=by omega
   rw [rI h.sl h.kl] at hv
   rw [h.tk,hv]
theorem Hs.of_range {W:World} {b:Nat} {S:List (BitVec 32)} {K:List (BitVec 8)} {T:Nat} (h1:S.length=8) (h2:K.length=64) (h:W.rangeAt b 0 (cH S K T)) (hl:ai W b 73):Hs W b S K T:=by
 refine ⟨h1,h2,fun j hj=>?_,fun j hj=>?_,?_,hl⟩
 ·exact h j _ (rG h1 (by omega))
 ·have:=h (8+j) _ (rH h1 h2 (by omega));rwa [Nat.zero_add] at this
 ·have:=h 72 _ (rI h1 h2);exact this
theorem tn (w:World):(zeroValue 149).run Tryz.prog w = .ok (.agg #[.int .u32 0,.int .u32 0,.int .u32 0,.int .u32 0,.int .u32 0,.int .u32 0,.int .u32 0,.int .u32 0,.int .u8 0,.int .u8 0,.int .u8 0,.int .u8 0,.int .u8 0,.int .u8 0,.int .u8 0,.int .u8 0,.int .u8 0,.int .u8 0,.int .u8 0,.int .u8 0,.int .u8 0,.int .u8 0,.int .u8 0,.int .u8 0,.int .u8 0,.int .u8 0,.int .u8 0,.int .u8 0,.int .u8 0,.int .u8 0,.int .u8 0,.int .u8 0,.int .u8 0,.int .u8 0,.int .u8 0,.int .u8 0,.int .u8 0,.int .u8 0,.int .u8 0,.int .u8 0,.int .u8 0,.int .u8 0,.int .u8 0,.int .u8 0,.int .u8 0,.int .u8 0,.int .u8 0,.int .u8 0,.int .u8 0,.int .u8 0,.int .u8 0,.int .u8 0,.int .u8 0,.int .u8 0,.int .u8 0,.int .u8 0,.int .u8 0,.int .u8 0,.int .u8 0,.int .u8 0,.int .u8 0,.int .u8 0,.int .u8 0,.int .u8 0,.int .u8 0,.int .u8 0,.int .u8 0,.int .u8 0,.int .u8 0,.int .u8 0,.int .u8 0,.int .u8 0,.int .i64 0]) w:=by
 have h:(Tryz.prog.info? 149).map (·.zero)=some (some (.agg #[.int .u32 0,.int .u32 0,.int .u32 0,.int .u32 0,.int .u32 0,.int .u32 0,.int .u32 0,.int .u32 0,.int .u8 0,.int .u8 0,.int .u8 0,.int .u8 0,.int .u8 0,.int .u8 0,.int .u8 0,.int .u8 0,.int .u8 0,.int .u8 0,.int .u8 0,.int .u8 0,.int .u8 0,.int .u8 0,.int .u8 0,.int .u8 0,.int .u8 0,.int .u8 0,.int .u8 0,.int .u8 0,.int .u8 0,.int .u8 0,.int .u8 0,.int .u8 0,.int .u8 0,.int .u8 0,.int .u8 0,.int .u8 0,.int .u8 0,.int .u8 0,.int .u8 0,.int .u8 0,.int .u8 0,.int .u8 0,.int .u8 0,.int .u8 0,.int .u8 0,.int .u8 0,.int .u8 0,.int .u8 0,.int .u8 0,.int .u8 0,.int .u8 0,.int .u8 0,.int .u8 0,.int .u8 0,.int .u8 0,.int .u8 0,.int .u8 0,.int .u8 0,.int .u8 0,.int .u8 0,.int .u8 0,.int .u8 0,.int .u8 0,.int .u8 0,.int .u8 0,.int .u8 0,.int .u8 0,.int .u8 0,.int .u8 0,.int .u8 0,.int .u8 0,.int .u8 0,.int .i64 0])):=by kernel_rfl
 obtain ⟨i,hi,hz⟩:=Option.map_eq_some_iff.1 h
 simp [zeroValue,typeInfo,go_sem,hi,hz]
theorem bB {W:World} {b n:Nat} (arr:Array Value) (t:TypeId) (e:b=W.heap.size) (hn:arr.size=n):(W.alloc (.cells arr t)).there b 0 n:=by
 subst e hn
 intro j hj
 rw [Nat.zero_add,World.cell?_alloc_mark]
 refine ⟨?_,by simp [go_sem]⟩
 rw [Array.getElem?_eq_getElem hj]
 rfl
theorem Hs.stored {W:World} {b:Nat} {S:List (BitVec 32)} {K:List (BitVec 8)} {T:Nat} (h1:S.length=8) (h2:K.length=64) (h:W.there b 0 73):Hs (W.setCells b 0 (cH S K T)) b S K T :=
 .of_range h1 h2 (World.rangeAt_setCells_same _ _ _ _ (by rw [jG T h1 h2];exact h)) (ai.setCells (fun i hi=>by have:=(h i hi).2;rwa [Nat.zero_add] at this) _ _ _)
theorem jZ {b:Nat} {X:List (BitVec 8)} (hl:X.length<1073740000) (w:World) (hX:Tx w b X) (hf:Wds w 4 0 hN) (hk:Wds w 5 0 kN) :
  Calls Tryz.prog 114 #[.pointer (some ⟨b,0,none⟩)] w fun e w'=>e = .returned (.agg (byts (gl X)).toArray)∧Below w.heap.size w w':=by
 have HH:Hid (Tx w b X∧Wds w 4 0 hN∧Wds w 5 0 kN∧X.length<1073740000∧b<w.heap.size):=⟨hX,hf,hk,hl,Hs.lt hX⟩
 clear hX hf hk hl
 go_enter Tryz.func114,Tryz.ntmps114
 obtain ⟨N,kN⟩:∃ N,N=cH (stX X) (bkX X) X.length:=⟨_,rfl⟩
 have lN:Hid (N.length=73):=by rw [kN];exact jG _ (ut X) (ur X)
 have il2:(Tryz.prog.info? 149).map (·.size)=some N.length:=by rw [lN.out];kernel_rfl
 have sz:N.toArray.size=73:=by simp [lN.out]
 have il3:(Tryz.prog.info? 149).map (·.size)=some N.toArray.size:=by rw [sz];kernel_rfl
 have oc:N.toArray.all (·.oneCell')=true:=by rw [kN];exact tm _ _ _
 have KN:Hid (N=cH (stX X) (bkX X) X.length):=kN
 have rb2:=fun o=>(show (w.alloc o).rangeAt b 0 N from by rw [KN.out];exact (Hs.keep HH.out.1 ((Below.refl _ _).alloc (Nat.le_refl _) o)).range)
 clear kN
 have zh:=tn
 go_wp2_with (first
  | ((with_reducible refine aV (ty:=149) b 0 N _ (rb2 _) Tryz.underlying149 ?_ il2 ?_ ?_);rfl;rfl;simp only [Act.put,List.setIfInBounds_toArray,List.set_cons_succ,List.set_cons_zero])
  | ((with_reducible refine aw (ty:=149) (w.heap.size+1) 0 N.toArray ?_ il3 oc ?_ ?_ ?_);rw [sz];exact bB _ _ (by simp) rfl;rfl;rfl;refine aF (fun W=>Below w.heap.size w W∧Hsh W w.heap.size (List.replicate 32 0)∧Tx W (w.heap.size+1) X) ⟨below_setCells (by omega) _ 0 _ (((Below.refl _ _).alloc (Nat.le_refl _) _).alloc (by simp) _),((Hsh.zeros _ rfl).alloc _).otherCells (by omega) _,by rw [KN.out];exact Hs.stored (ut X) (ur X) (bB _ _ (by simp) rfl)⟩ ?_;intro W2 h2;have H2:Hid (Below w.heap.size w W2∧Hsh W2 w.heap.size (List.replicate 32 0)∧Tx W2 (w.heap.size+1) X):=h2;have g72:W2.cell? ⟨b,72,none⟩=some (.int .i64 (X.length:Int)):=(by rw [h2.1.cell (p:=⟨b,72,none⟩) HH.out.2.2.2.2];exact HH.out.1.tk);clear h2))
 clear il2 il3 sz oc rb2 zh KN lN g72
 refine (Bh (n:=X.length) (by have:=HH.out.2.2.2.1;omega) _).mono ?_
 rintro e w3 ⟨rfl,hO,hB⟩
 obtain ⟨P,kP⟩:∃ P,P=lI X.length:=⟨_,rfl⟩
 rw [←kP] at hO ⊢
 have H3:Hid (Below w.heap.size w w3∧Hsh w3 w.heap.size (List.replicate 32 0)∧Tx w3 (w.heap.size+1) X∧Byo w3 W2.heap.size 0 P∧P.length≤72∧w.heap.size+1<W2.heap.size):=by
  refine ⟨H2.out.1.trans (hB.mono H2.out.1.size),H2.out.2.1.keep hB,Hs.keep H2.out.2.2 hB,fun i hi=>?_,?_,Hs.lt H2.out.2.2⟩
  ·rw [Nat.zero_add,hO.row.cellAt i (by omega)]
   simp [byts,List.getD,hi]
  ·rw [kP,kT];have:=uq X.length;omega
 have EF:Hid (X++P=mh X):=by rw [kP];exact rfl
 have LF:Hid ((mh X).length=X.length+P.length∧(X.length+P.length)%64=0∧0<P.length):=by rw [kP];exact ⟨wj X,wi _,by rw [kT];omega⟩
 clear hO hB kP H2
 generalize W2.heap.size=bp at *
 go_wp2_with fail
 refine (eO (b:=w.heap.size+1) (bd:=bp) (od:=0) (A:=X) (X:=P) (by have:=H3.out;omega) (by have:=HH.out.2.1.lt (by decide);omega) (by have:=HH.out.2.2.1.lt (by decide);omega) (by have:=H3.out;have:=HH.out;omega) (Nat.le_refl _) (.inr rfl) _ H3.out.2.2.1 H3.out.2.2.2.1 (HH.out.2.1.keep H3.out.1) (HH.out.2.2.1.keep H3.out.1)).mono ?_
 rintro e w4 ⟨rfl,h4,o4⟩
 obtain ⟨S,kS⟩:∃ S,S=nZ (mh X) ((mh X).length/64):=⟨_,rfl⟩
 have H4:Hid (Below w.heap.size w w4∧Hsh w4 w.heap.size (List.replicate 32 0)∧Wds w4 (w.heap.size+1) 0 S∧S.length=8∧gl X=kQ S):=by
  refine ⟨H3.out.1.trans (o4.below H3.out.1.size (by omega)),H3.out.2.1.off o4 (by omega),?_,by rw [kS];exact rF _ _,by rw [kS];rfl⟩
  rw [EF.out] at h4
  have h:=h4.st
  rw [stX,if_neg (by have:=LF.out;omega),←kS] at h
  exact h
 clear h4 o4 H3 kS
 have NN:Hid (w.heap.size≤w.heap.size+1):=by have h:w.heap.size≤w.heap.size+1:=(by omega);exact h
 generalize w.heap.size+1=bf at *
 go_wp2_with fail
 refine ah (fun W=>Below w.heap.size w W∧Hsh W w.heap.size (List.replicate 32 0)∧Wds W bf 0 S∧Hsh W w4.heap.size (List.replicate 32 0)) ⟨H4.out.1.alloc H4.out.1.size _,H4.out.2.1.alloc _,H4.out.2.2.1.alloc _,Hsh.zeros _ rfl⟩ ?_
 rintro W ⟨hB,hR,hA,hO⟩
 have NB:Hid (w4.heap.size≠w.heap.size∧w4.heap.size≠bf∧w.heap.size≤w4.heap.size):=by
  have h1:=H4.out.2.1.lt
  have h2:=H4.out.2.2.1.lt (by rw [H4.out.2.2.2.1];decide)
  exact ⟨by omega,by omega,H4.out.1.size⟩
 have HS:Hid (S.length=8∧gl X=kQ S):=H4.out.2.2.2
 clear H4 EF LF NN
 generalize w4.heap.size=bo at *
 go_loopg [24] 32 (fun k iv wr=>∃ (i:Nat) (M:List (BitVec 8)),k=32-i∧i≤32∧iv = .int .i64 i∧(∀ t,t<i→M.getD t 0=rC (S.getD (t/4) 0) (24-t%4*8))∧Below w.heap.size w wr∧Wds wr bf 0 S∧Hsh wr w.heap.size (List.replicate 32 0)∧Hsh wr bo M)
 case atStart=>exact ⟨0,_,rfl,by decide,rfl,fun t h=>absurd h (Nat.not_lt_zero _),hB,hA,hR,hO⟩
 case round =>
  clear hB hA hR hO
  obtain ⟨i,M,hk,hi,rfl,up,hf⟩:=hrel
  have HK:Hid (gk=32-i):=hk
  have HF:Hid (Below w.heap.size w wr∧Wds wr bf 0 S∧Hsh wr w.heap.size (List.replicate 32 0)∧Hsh wr bo M):=hf
  have UP:Hid (∀ t,t<i→M.getD t 0=rC (S.getD (t/4) 0) (24-t%4*8)):=up
  clear hk hf up
  by_cases h8:i=32
  ·subst h8
   have EL:Hid (M=kQ S):=wg HF.out.2.2.2.1 UP.out
   have rb:=HF.out.2.2.2.range
   have sz:((byts M).toArray).size=32:=by simp [byts_len,HF.out.2.2.2.1]
   have tr:wr.there w.heap.size 0 ((byts M).toArray).size:=by rw [sz];exact HF.out.2.2.1.there
   have oc:=one_byts M
   obtain ⟨N,kN⟩:∃ N,byts M=N:=⟨_,rfl⟩
   rw [kN] at rb sz tr oc
   have HM:Hid (N.length=32∧byts (gl X)=N):=⟨by rw [←kN,byts_len];exact HF.out.2.2.2.1,by rw [HS.out.2,←EL.out,kN]⟩
   clear kN
   have il:(Tryz.prog.info? 47).map (·.size)=some N.length:=by rw [HM.out.1];kernel_rfl
   have il3:(Tryz.prog.info? 47).map (·.size)=some N.toArray.size:=by rw [sz];kernel_rfl
   go_wp2_with (first
    | ((with_reducible refine aV (ty:=47) bo 0 N _ rb Tryz.underlying47 ?_ il ?_ ?_);rfl;rfl;simp only [Act.put,List.setIfInBounds_toArray,List.set_cons_succ,List.set_cons_zero])
    | ((with_reducible refine aw (ty:=47) w.heap.size 0 N.toArray tr il3 oc ?_ ?_ ?_);rfl;rfl))
   have ld:=run_loadVar_mid (P:=Tryz.prog) (wr.setCells w.heap.size 0 N) w.heap.size 0 47 N _ (World.rangeAt_setCells_same _ _ _ _ (by simpa using tr)) Tryz.underlying47 rfl il
   refine bodyPost_ret (v:=.agg N.toArray) ?_ rfl ⟨by rw [HM.out.2],below_setCells (Nat.le_refl _) N 0 wr HF.out.1⟩
   simp [results,Tryz.results114,Act.put,asAddr,ld]
  ·have hi':(i:Int)<32:=by omega
   have e1:((i:Int)/4).toNat=i/4:=by omega
   have e2:(24-(i:Int)%4*8).toNat=24-i%4*8:=by omega
   have g0:=HF.out.2.1 (i/4) (by rw [HS.out.1];omega)
   rw [Nat.zero_add] at g0
   have gs:=HF.out.2.2.2.2.1 i (by omega)
   have fs:=HF.out.2.2.2.2.2 i (by omega)
   obtain ⟨z,kz⟩:∃ z,z=S.getD (i/4) 0:=⟨_,rfl⟩
   rw [←kz] at g0
   have KZ:Hid (z=S.getD (i/4) 0):=kz
   clear kz
   have v0:=rz z;have v1:=rA z
   have vd:=DR z (24-i%4*8)
   go_wp2
   go_roundg (32-(i+1))
   case measure=>have:=HK.out;omega
   case rel =>
    refine ⟨i+1,M.set i (rC z (24-i%4*8)),rfl,by omega,by go_num,fun t ht=>?_,HF.out.1.setCell NB.out.2.2 _,HF.out.2.1.other NB.out.2.1 _,HF.out.2.2.1.other NB.out.1 _,HF.out.2.2.2.set i (by omega) _⟩
    by_cases e:t=i
    ·subst e;rw [←KZ.out];simp [List.getD,HF.out.2.2.2.1,show t<32 by omega]
    ·rw [←UP.out t (by omega)];simp [List.getD,List.getElem?_set_ne (Ne.symm e)]
open Go.RowKit Go.Sort
theorem CY:cH (List.replicate 8 0) (List.replicate 64 0) 0=(#[.int .u32 0,.int .u32 0,.int .u32 0,.int .u32 0,.int .u32 0,.int .u32 0,.int .u32 0,.int .u32 0,.int .u8 0,.int .u8 0,.int .u8 0,.int .u8 0,.int .u8 0,.int .u8 0,.int .u8 0,.int .u8 0,.int .u8 0,.int .u8 0,.int .u8 0,.int .u8 0,.int .u8 0,.int .u8 0,.int .u8 0,.int .u8 0,.int .u8 0,.int .u8 0,.int .u8 0,.int .u8 0,.int .u8 0,.int .u8 0,.int .u8 0,.int .u8 0,.int .u8 0,.int .u8 0,.int .u8 0,.int .u8 0,.int .u8 0,.int .u8 0,.int .u8 0,.int .u8 0,.int .u8 0,.int .u8 0,.int .u8 0,.int .u8 0,.int .u8 0,.int .u8 0,.int .u8 0,.int .u8 0,.int .u8 0,.int .u8 0,.int .u8 0,.int .u8 0,.int .u8 0,.int .u8 0,.int .u8 0,.int .u8 0,.int .u8 0,.int .u8 0,.int .u8 0,.int .u8 0,.int .u8 0,.int .u8 0,.int .u8 0,.int .u8 0,.int .u8 0,.int .u8 0,.int .u8 0,.int .u8 0,.int .u8 0,.int .u8 0,.int .u8 0,.int .u8 0,.int .i64 0]:Array Value).toList:=by
 have h1:U 0#32=0:=tc
 have h2:Y 0#8=0:=Y_zero
 simp [cH,aW,byts,List.replicate,h1,h2]
theorem Tx.new {W:World} {b:Nat} (t:TypeId) (e:b=W.heap.size):Tx (W.alloc (.cells #[.int .u32 0,.int .u32 0,.int .u32 0,.int .u32 0,.int .u32 0,.int .u32 0,.int .u32 0,.int .u32 0,.int .u8 0,.int .u8 0,.int .u8 0,.int .u8 0,.int .u8 0,.int .u8 0,.int .u8 0,.int .u8 0,.int .u8 0,.int .u8 0,.int .u8 0,.int .u8 0,.int .u8 0,.int .u8 0,.int .u8 0,.int .u8 0,.int .u8 0,.int .u8 0,.int .u8 0,.int .u8 0,.int .u8 0,.int .u8 0,.int .u8 0,.int .u8 0,.int .u8 0,.int .u8 0,.int .u8 0,.int .u8 0,.int .u8 0,.int .u8 0,.int .u8 0,.int .u8 0,.int .u8 0,.int .u8 0,.int .u8 0,.int .u8 0,.int .u8 0,.int .u8 0,.int .u8 0,.int .u8 0,.int .u8 0,.int .u8 0,.int .u8 0,.int .u8 0,.int .u8 0,.int .u8 0,.int .u8 0,.int .u8 0,.int .u8 0,.int .u8 0,.int .u8 0,.int .u8 0,.int .u8 0,.int .u8 0,.int .u8 0,.int .u8 0,.int .u8 0,.int .u8 0,.int .u8 0,.int .u8 0,.int .u8 0,.int .u8 0,.int .u8 0,.int .u8 0,.int .i64 0] t)) b []:=by
 refine Hs.of_range (by decide) (by decide) ?_ (ai.new _ _ _ e)
 subst e
 intro j v hv
 rw [Nat.zero_add,World.cell?_alloc_mark]
 have e:cH (stX []) (bkX []) ([]:List (BitVec 8)).length=(#[.int .u32 0,.int .u32 0,.int .u32 0,.int .u32 0,.int .u32 0,.int .u32 0,.int .u32 0,.int .u32 0,.int .u8 0,.int .u8 0,.int .u8 0,.int .u8 0,.int .u8 0,.int .u8 0,.int .u8 0,.int .u8 0,.int .u8 0,.int .u8 0,.int .u8 0,.int .u8 0,.int .u8 0,.int .u8 0,.int .u8 0,.int .u8 0,.int .u8 0,.int .u8 0,.int .u8 0,.int .u8 0,.int .u8 0,.int .u8 0,.int .u8 0,.int .u8 0,.int .u8 0,.int .u8 0,.int .u8 0,.int .u8 0,.int .u8 0,.int .u8 0,.int .u8 0,.int .u8 0,.int .u8 0,.int .u8 0,.int .u8 0,.int .u8 0,.int .u8 0,.int .u8 0,.int .u8 0,.int .u8 0,.int .u8 0,.int .u8 0,.int .u8 0,.int .u8 0,.int .u8 0,.int .u8 0,.int .u8 0,.int .u8 0,.int .u8 0,.int .u8 0,.int .u8 0,.int .u8 0,.int .u8 0,.int .u8 0,.int .u8 0,.int .u8 0,.int .u8 0,.int .u8 0,.int .u8 0,.int .u8 0,.int .u8 0,.int .u8 0,.int .u8 0,.int .u8 0,.int .i64 0]:Array Value).toList:=CY
 rw [e] at hv
 rw [←hv]
 exact (Array.getElem?_toList).symm
theorem Tx.lt {W:World} {b:Nat} {X:List (BitVec 8)} (h:Tx W b X):b<W.heap.size:=Hs.lt h
theorem sum_any {a:Option Addr} {bp op cp:Nat} {PS:List Part} (hs:(catX PS).length<1073740000) (hn:PS.length≤1073741824) (hc:PS.length≤cp) (ha:PS=[]∨a=some ⟨bp,op,none⟩) (w:World) (hP:Prts w bp op PS) (hf:Wds w 4 0 hN) (hk:Wds w 5 0 kN) :
  Calls Tryz.prog 115 #[.slice a PS.length cp] w fun e w'=>e = .returned (.agg (byts (gl (catX PS))).toArray)∧Below w.heap.size w w':=by
 have HH:Hid (Prts w bp op PS∧Wds w 4 0 hN∧Wds w 5 0 kN):=⟨hP,hf,hk⟩
 have HC:Hid ((catX PS).length<1073740000∧PS.length≤cp∧(PS=[]∨a=some ⟨bp,op,none⟩)):=⟨hs,hc,ha⟩
 clear hP hf hk hs hc ha
 have zh:=tn
 go_enter Tryz.func115,Tryz.ntmps115
 have NL:Hid (PS.length≤1073741824):=hn
 go_wp2_with fail
 refine ah (fun W=>Below w.heap.size w W∧Hsh W w.heap.size (List.replicate 32 0)∧Tx W (w.heap.size+1) []) ⟨((Below.refl _ _).alloc (Nat.le_refl _) _).alloc (by simp) _,(Hsh.zeros _ rfl).alloc _,Tx.new _ (by simp)⟩ ?_
 rintro W2 h2
 have HY:Hid (Below w.heap.size w W2∧Hsh W2 w.heap.size (List.replicate 32 0)∧Tx W2 (w.heap.size+1) []):=h2
 clear h2 zh
 have NN:Hid (w.heap.size≠w.heap.size+1∧w.heap.size≤w.heap.size+1):=⟨by omega,by omega⟩
 have LT:Hid (4<w.heap.size∧5<w.heap.size):=⟨HH.out.2.1.lt (by decide),HH.out.2.2.lt (by decide)⟩
 generalize hbs:w.heap.size+1=bs at *
 have BS:Hid (w.heap.size+1=bs):=hbs
 clear hbs
 go_loopg [8] PS.length (fun g iv wr=>∃ i:Nat,g=PS.length-i∧i≤PS.length∧iv = .int .i64 i∧Below w.heap.size w wr∧Hsh wr w.heap.size (List.replicate 32 0)∧Tx wr bs (catX (PS.take i)))
 case atStart=>exact ⟨0,rfl,Nat.zero_le _,rfl,HY.out⟩
 case round =>
  clear HY
  obtain ⟨i,hk,hi,rfl,hf⟩:=hrel
  have HK:Hid (gk=PS.length-i):=hk
  have HF:Hid (Below w.heap.size w wr∧Hsh wr w.heap.size (List.replicate 32 0)∧Tx wr bs (catX (PS.take i))):=hf
  clear hk hf
  by_cases h8:i=PS.length
  ·subst h8
   rw [List.take_length] at HF
   go_wp2_with fail
   refine (jZ HC.out.1 _ HF.out.2.2 (HH.out.2.1.keep HF.out.1) (HH.out.2.2.keep HF.out.1)).mono ?_
   rintro e w6 ⟨rfl,hb⟩
   have H6:Hid (Below w.heap.size w w6∧Hsh w6 w.heap.size (List.replicate 32 0)):=⟨HF.out.1.trans (hb.mono HF.out.1.size),HF.out.2.1.keep hb⟩
   clear hb HF
   have oc:=one_byts (gl (catX PS))
   have lN:(byts (gl (catX PS))).length=32:=by rw [byts_len,shaL_len]
   obtain ⟨N,kN⟩:∃ N,byts (gl (catX PS))=N:=⟨_,rfl⟩
   rw [kN] at oc lN ⊢
   have EN:Hid (byts (gl (catX PS))=N):=kN
   have sz:(N.toArray).size=32:=by simp [lN]
   have tr:w6.there w.heap.size 0 (N.toArray).size:=by rw [sz];exact H6.out.2.there
   have il:(Tryz.prog.info? 47).map (·.size)=some N.length:=by rw [lN];kernel_rfl
   have il3:(Tryz.prog.info? 47).map (·.size)=some N.toArray.size:=by rw [sz];kernel_rfl
   clear kN lN
   go_wp2_with ((with_reducible refine aw (ty:=47) w.heap.size 0 N.toArray tr il3 oc ?_ ?_ ?_);rfl;rfl)
   have ld:=run_loadVar_mid (P:=Tryz.prog) (w6.setCells w.heap.size 0 N) w.heap.size 0 47 N _ (World.rangeAt_setCells_same _ _ _ _ (by simpa using tr)) Tryz.underlying47 rfl il
   refine bodyPost_ret (v:=.agg N.toArray) ?_ rfl ⟨by rw [EN.out],below_setCells (Nat.le_refl _) N 0 w6 H6.out.1⟩
   simp [results,Tryz.results115,Act.put,asAddr,ld]
  ·have hlt:i<PS.length:=by omega
   have hlt':(i:Int)<PS.length:=by omega
   have ea:a=some ⟨bp,op,none⟩:=by
    rcases HC.out.2.2 with h|h
    ·rw [h] at hlt;simp at hlt
    ·exact h
   subst ea
   obtain ⟨p,kp⟩:∃ p,p=PS.getD i .none:=⟨_,rfl⟩
   have g0:wr.cell? ⟨bp,op+i,none⟩=some (.slice p.a p.X.length p.c):=by
    have h:=(HH.out.1 i hlt).1
    rw [HF.out.1.cell (p:=⟨bp,op+i,none⟩) (World.block_lt_of_cell? w _ h),h,←kp]
    rfl
   have OK:Hid (p.ok wr):=by
    have h:=(HH.out.1 i hlt).2
    rw [←kp] at h
    exact ⟨h.1,h.2.1,fun j hj=>by rw [HF.out.1.cell (p:=⟨p.b,p.o+j,none⟩) (World.block_lt_of_cell? w _ (h.2.2 j hj))];exact h.2.2 j hj⟩
   have LB:Hid (p.X=[]∨p.b<w.heap.size):=by
    by_cases h0:p.X=[]
    ·exact .inl h0
    ·refine .inr ?_
     have h:=(HH.out.1 i hlt).2
     rw [←kp] at h
     exact World.block_lt_of_cell? w _ (h.2.2 0 (List.length_pos_iff.2 h0))
   have NX:Hid (catX (PS.take (i+1))=catX (PS.take i)++p.X):=by rw [kp];exact ga hlt
   have LN:Hid ((catX (PS.take i)).length+p.X.length<1073741824):=by
    have h1:=j7 (PS:=PS) (i+1)
    rw [NX.out,List.length_append] at h1
    have:=HC.out.1
    have h:(catX (PS.take i)).length+p.X.length<1073741824:=by omega
    exact h
   clear kp
   obtain ⟨bd,NB,hAt,hByo⟩:∃ bd,Hid (bd≠bs)∧Hid (At p.a bd p.o p.X)∧Hid (Byo wr bd p.o p.X):=by
    rcases LB.out with h|h
    ·refine ⟨bs+1,?_,.inl h,?_⟩
     ·have h:bs+1≠bs:=by omega
      exact h
     ·intro j hj;rw [h] at hj;simp at hj
    ·refine ⟨p.b,?_,OK.out.1,OK.out.2.2⟩
     have h:p.b≠bs:=by have:=BS.out;omega
     exact h
   go_wp2_with fail
   refine (eO NB.out (by have:=BS.out;have:=LT.out;omega) (by have:=BS.out;have:=LT.out;omega) LN.out OK.out.2.1 hAt.out _ HF.out.2.2 hByo.out (HH.out.2.1.keep HF.out.1) (HH.out.2.2.keep HF.out.1)).mono ?_
   rintro e w5 ⟨rfl,hs5,ho5⟩
   have H5:Hid (Below w.heap.size w w5∧Hsh w5 w.heap.size (List.replicate 32 0)∧Tx w5 bs (catX (PS.take (i+1)))):=by
    rw [NX.out]
    exact ⟨HF.out.1.trans (ho5.below HF.out.1.size NN.out.2),HF.out.2.1.off ho5 NN.out.1,hs5⟩
   clear hs5 ho5 HF OK LB NX LN g0 hAt hByo NB
   go_wp2
   go_roundg (PS.length-(i+1))
   case measure=>have:=HK.out;omega
   case rel=>exact ⟨i+1,rfl,by omega,by go_num,H5.out⟩
open Go.RowKit Go.Sort
def fj (K:List (BitVec 8)) (m:BitVec 8):List (BitVec 8):=K.map (· ^^^ m)
theorem dI (K:List (BitVec 8)) (m:BitVec 8):(fj K m).length=K.length:=by simp [fj]
def cT (K:List (BitVec 8)) (m:BitVec 8) (i:Nat):List (BitVec 8):=fj (K.take i) m++K.drop i
theorem jH (K:List (BitVec 8)) (m:BitVec 8) (i:Nat):(cT K m i).length=K.length:=by
 rw [cT,List.length_append,dI,List.length_take,List.length_drop];omega
theorem rJ {K:List (BitVec 8)} (m:BitVec 8) {i:Nat} (h:i<K.length):(cT K m i).getD i 0=K.getD i 0:=by
 rw [cT,List.getD,List.getElem?_append_right (by rw [dI,List.length_take];omega),dI,List.length_take,Nat.min_eq_left (by omega),Nat.sub_self,List.getElem?_drop,Nat.add_zero]
 rfl
theorem tw {K:List (BitVec 8)} (m:BitVec 8) {i:Nat} (h:i<K.length):(cT K m i).set i (K.getD i 0 ^^^ m)=cT K m (i+1):=by
 have e:K.drop i=K.getD i 0 :: K.drop (i+1):=by
  rw [List.drop_eq_getElem_cons h,List.getD,List.getElem?_eq_getElem h];rfl
 have l:(fj (K.take i) m).length=i:=by rw [dI,List.length_take];omega
 rw [cT,cT,List.set_append_right _ _ (by omega),l,Nat.sub_self,e,List.set_cons_zero,da h,fj,fj,List.map_append,List.append_assoc]
 rfl
theorem aJ.there {W:World} {g:Nat} {X:List (BitVec 8)} (h:aJ W g X):W.there g 0 X.length:=fun j hj=>by
 have:=h.1 j hj
 refine ⟨by rw [this];rfl,?_⟩
 rw [Nat.zero_add]
 exact h.2 j hj
theorem Byo.range {W:World} {b o:Nat} {X:List (BitVec 8)} (h:Byo W b o X):W.rangeAt b o (byts X):=by
 intro j v hv
 unfold byts at hv
 rw [List.getElem?_map] at hv
 obtain ⟨x,hx,rfl⟩:=Option.map_eq_some_iff.1 hv
 have hj:j<X.length:=(List.getElem?_eq_some_iff.1 hx).1
 rw [h j hj]
 simp [List.getD,hx]
theorem aJ.new {W:World} {b:Nat} {X:List (BitVec 8)} (t:TypeId) (e:b=W.heap.size):aJ (W.alloc (.cells (byts X).toArray t)) b X:=by
 refine ⟨fun i hi=>?_,ai.new _ _ _ e⟩
 subst e
 rw [Nat.zero_add,World.cell?_alloc_mark]
 simp [byts,List.getD,hi]
theorem aJ.zeros64 {W:World} {b:Nat} (t:TypeId) (e:b=W.heap.size):aJ (W.alloc (.cells #[.int .u8 0,.int .u8 0,.int .u8 0,.int .u8 0,.int .u8 0,.int .u8 0,.int .u8 0,.int .u8 0,.int .u8 0,.int .u8 0,.int .u8 0,.int .u8 0,.int .u8 0,.int .u8 0,.int .u8 0,.int .u8 0,.int .u8 0,.int .u8 0,.int .u8 0,.int .u8 0,.int .u8 0,.int .u8 0,.int .u8 0,.int .u8 0,.int .u8 0,.int .u8 0,.int .u8 0,.int .u8 0,.int .u8 0,.int .u8 0,.int .u8 0,.int .u8 0,.int .u8 0,.int .u8 0,.int .u8 0,.int .u8 0,.int .u8 0,.int .u8 0,.int .u8 0,.int .u8 0,.int .u8 0,.int .u8 0,.int .u8 0,.int .u8 0,.int .u8 0,.int .u8 0,.int .u8 0,.int .u8 0,.int .u8 0,.int .u8 0,.int .u8 0,.int .u8 0,.int .u8 0,.int .u8 0,.int .u8 0,.int .u8 0,.int .u8 0,.int .u8 0,.int .u8 0,.int .u8 0,.int .u8 0,.int .u8 0,.int .u8 0,.int .u8 0] t)) b (List.replicate 64 0):=by
 rw [←iO]
 exact aJ.new t e
theorem aJ.other {W:World} {b b' i:Nat} {X:List (BitVec 8)} (h:aJ W b X) (ne:b'≠b) (v:Value):aJ (W.setCell ⟨b',i,none⟩ v) b X:=h.far ne
theorem ol {K:List (BitVec 8)} (hl:K.length=64) (m:BitVec 8) (w:World) :
  Calls Tryz.prog 112 #[.agg (byts K).toArray,.int .u8 (Y m)] w fun e w'=>e = .returned (.agg (byts (fj K m)).toArray)∧Below w.heap.size w w':=by
 go_enter Tryz.func112,Tryz.ntmps112
 go_wp2_with fail
 refine ah (fun W=>Below w.heap.size w W∧aJ W w.heap.size (cT K m 0)∧aJ W (w.heap.size+1) (List.replicate 64 0)) ⟨((Below.refl _ _).alloc (Nat.le_refl _) _).alloc (by simp) _,(aJ.new (X:=K) _ rfl).keep ((Below.refl _ _).alloc (Nat.le_refl _) _) (by simp),aJ.zeros64 _ (by simp)⟩ ?_
 rintro W ⟨hB,hA,hR⟩
 have NN:Hid (w.heap.size≠w.heap.size+1∧w.heap.size≤w.heap.size+1∧K.length=64):=⟨by omega,by omega,hl⟩
 clear hl
 generalize w.heap.size+1=br at *
 go_loopg [6] 64 (fun k iv wr=>∃ i:Nat,k=64-i∧i≤64∧iv = .int .i64 i∧Below w.heap.size w wr∧aJ wr w.heap.size (cT K m i)∧aJ wr br (List.replicate 64 0))
 case atStart=>exact ⟨0,rfl,by decide,rfl,hB,hA,hR⟩
 case round =>
  clear hB hA hR
  obtain ⟨i,hk,hi,rfl,hf⟩:=hrel
  have HK:Hid (gk=64-i):=hk
  have HF:Hid (Below w.heap.size w wr∧aJ wr w.heap.size (cT K m i)∧aJ wr br (List.replicate 64 0)):=hf
  clear hk hf
  by_cases h8:i=64
  ·subst h8
   obtain ⟨M,kM⟩:∃ M,M=fj K m:=⟨_,rfl⟩
   have eM:cT K m 64=M:=by rw [kM,cT,List.take_of_length_le (by rw [NN.out.2.2];omega),List.drop_eq_nil_of_le (by rw [NN.out.2.2];omega),List.append_nil]
   rw [eM] at HF
   have lM:Hid (M.length=64∧fj K m=M):=⟨by rw [kM,dI];exact NN.out.2.2,kM.symm⟩
   clear kM eM
   have rb:=HF.out.2.1.1.range
   have sz:((byts M).toArray).size=64:=by simp [byts_len,lM.out.1]
   have tr:wr.there br 0 ((byts M).toArray).size:=by have h:=HF.out.2.2.there;rw [List.length_replicate] at h;rw [sz];exact h
   have oc:=one_byts M
   have il:(Tryz.prog.info? 143).map (·.size)=some (byts M).length:=by rw [byts_len,lM.out.1];kernel_rfl
   have il3:(Tryz.prog.info? 143).map (·.size)=some ((byts M).toArray).size:=by rw [sz];kernel_rfl
   go_wp2_with (first
    | ((with_reducible refine aV (ty:=143) w.heap.size 0 (byts M) _ rb Tryz.underlying143 ?_ il ?_ ?_);rfl;rfl;simp only [Act.put,List.setIfInBounds_toArray,List.set_cons_succ,List.set_cons_zero])
    | ((with_reducible refine aw (ty:=143) br 0 (byts M).toArray tr il3 oc ?_ ?_ ?_);rfl;rfl))
   have ld:=run_loadVar_mid (P:=Tryz.prog) (wr.setCells br 0 (byts M)) br 0 143 (byts M) _ (World.rangeAt_setCells_same _ _ _ _ (by simpa using tr)) Tryz.underlying143 rfl il
   refine bodyPost_ret (v:=.agg (byts M).toArray) ?_ rfl ⟨by rw [lM.out.2],below_setCells NN.out.2.1 (byts M) 0 wr HF.out.1⟩
   simp [results,Tryz.results112,Act.put,asAddr,ld]
  ·have hi':(i:Int)<64:=by omega
   have lt:i<K.length:=by have:=NN.out;omega
   have g0:=HF.out.2.1.1 i (by rw [jH];exact lt)
   rw [Nat.zero_add,rJ m lt] at g0
   have f0:=HF.out.2.1.2 i (by rw [jH];exact lt)
   have NX:Hid ((cT K m i).set i (K.getD i 0 ^^^ m)=cT K m (i+1)):=tw m lt
   generalize K.getD i 0=x at *
   have v1:=DS x m
   have LL:Hid (i<(cT K m i).length):=by rw [jH];exact lt
   clear lt
   go_wp2
   go_roundg (64-(i+1))
   case measure=>have:=HK.out;omega
   case rel =>
    refine ⟨i+1,rfl,by omega,by go_num,HF.out.1.setCell (Nat.le_refl _) _,?_,HF.out.2.2.other NN.out.1 _⟩
    rw [←NX.out]
    exact HF.out.2.1.set i LL.out _
open Go.RowKit Go.Sort
theorem wt {W:World} {p q:Part} {vp vq:Value} (t:TypeId) (ep:vp=p.val) (eq:vq=q.val) (hp:p.ok W) (hq:q.ok W):Prts (W.alloc (.cells #[vp,vq] t)) W.heap.size 0 [p,q]:=by
 subst ep eq
 have B:Below W.heap.size W (W.alloc (.cells #[p.val,q.val] t)):=(Below.refl _ _).alloc (Nat.le_refl _) _
 intro i hi
 have hi':i<2:=hi
 rw [Nat.zero_add,World.cell?_alloc_mark]
 obtain rfl|rfl:i=0∨i=1:=by omega
 ·exact ⟨rfl,hp.1,hp.2.1,hp.2.2.keep B⟩
 ·exact ⟨rfl,hq.1,hq.2.1,hq.2.2.keep B⟩
theorem uv (p q:Part):catX [p,q]=p.X++q.X:=by simp [catX]
open Go.RowKit Go.Sort
theorem wu {W:World} {p:Part} {v:Value} (t:TypeId) (e:v=p.val) (h:p.ok W):Prts (W.alloc (.cells #[v] t)) W.heap.size 0 [p]:=by
 subst e
 intro i hi
 have hi':i=0:=by simpa using hi
 subst hi'
 rw [Nat.zero_add,World.cell?_alloc_mark]
 exact ⟨rfl,h.1,h.2.1,h.2.2.keep ((Below.refl _ _).alloc (Nat.le_refl _) _)⟩
open Go.RowKit Go.Sort
theorem mj {W:World} {g:Nat} {X Z T:List (BitVec 8)} (hl:Z.length=X.length) (hr:aJ W g (X++T)):aJ (W.setCells g 0 (byts Z)) g (Z++T):=by
 have e:(Z++T).length=(X++T).length:=by simp [hl]
 refine ⟨fun i hi=>?_,by rw [e];exact hr.2.setCells _ _ _⟩
 rw [e] at hi
 have hc:=hr.1 i hi
 rw [Nat.zero_add] at hc ⊢
 by_cases h:i<Z.length
 ·have th:W.there g 0 (byts Z).length:=fun j hj=>by
   rw [byts_len] at hj
   have hj2:j<(X++T).length:=by rw [List.length_append];omega
   refine ⟨by rw [hr.1 j hj2];rfl,?_⟩
   rw [Nat.zero_add]
   exact hr.2 j hj2
  have h2:=World.rangeAt_setCells_same W g 0 (byts Z) th i (.int .u8 (Y ((Z++T).getD i 0))) (by simp [byts,List.getD,h,List.getElem?_append_left h])
  rw [Nat.zero_add] at h2
  exact h2
 ·rw [World.cell?_setCells_out _ _ _ _ _ (fun _ _=>.inr (by rw [byts_len];show 0+Z.length≤i;omega)),hc]
  rw [List.getD,List.getD,List.getElem?_append_right (by omega),List.getElem?_append_right (by omega),hl]
theorem fI {P:Program} {w:World} {ops:Array Oper} {rest:List Oper} {a:Act} {Q:Exit→Act→World→Prop} {nd:Nat} {tt:TypeId} {pos:String} {after:Array Edge} {d s:Operand} {dT sT elem:TypeId}
  {g n dCap m sCap bs os:Nat} {sp:Option Addr} {Z X T:List (BitVec 8)} (hu:P.underlying dT=some (.slice elem)) (hsz:(P.info? elem).map (·.size)=some 1) (hr:aJ w g (X++T)) (hat:At sp bs os Z) (hby:Byo w bs os Z) (hl:Z.length=X.length) (hm:m=Z.length) (hn:Z.length≤n)
  (hd:a.eval d = .slice (some ⟨g,0,none⟩) n dCap) (hs:a.eval s = .slice sp m sCap)
  (h:∀ w',aJ w' g (Z++T)→Off g w w'→wpList P ops Q rest (a.put (some nd) (goInt Z.length)) w'):wpList P ops Q (⟨some nd,.call { callee:=.builtin .copy,args:=#[d,s],argTypes:=#[dT,sT] },tt,pos,after,none⟩ :: rest) a w:=by
 subst hm
 by_cases h0:Z=[]
 ·subst h0
  have hx:X=[]:=List.length_eq_zero_iff.1 (by simpa using hl.symm)
  subst hx
  refine wpList_copy_nothing rfl d s dT sT rfl elem hu hsz _ _ _ _ _ _ hd hs (by simp) (h w hr (Off.refl _ _))
 ·rcases hat with h1|h1
  ·exact absurd h1 h0
  ·subst h1
   refine wpList_plain rfl fun K hK=>?_
   have hrun:=run_copy_cells (P:=P) w dT sT tt elem g 0 n dCap ⟨bs,os,none⟩ Z.length sCap (byts Z) hu hsz (by rw [byts_len];exact (Nat.min_eq_left hn).symm) (fun j v hv=>by
     unfold byts at hv
     rw [List.getElem?_map] at hv
     obtain ⟨x,hx,rfl⟩:=Option.map_eq_some_iff.1 hv
     have hj:j<Z.length:=(List.getElem?_eq_some_iff.1 hx).1
     rw [Addr.add_mid,hby j hj]
     simp [List.getD,hx]) (fun j hj=>by
     rw [byts_len] at hj
     rw [hr.1 j (by rw [List.length_append];omega)]
     rfl) (fun j hj=>by
     rw [byts_len] at hj
     rw [Nat.zero_add]
     exact hr.2 j (by rw [List.length_append];omega)) (fun v hv=>by obtain ⟨x,_,rfl⟩:=List.mem_map.1 hv;rfl)
   rw [byts_len] at hrun
   unfold Oper.wp
   simp [execOp,resolve,invoke,builtin,hd,hs,hrun,Result.andThen]
   exact hK _ _ (h _ (mj hl hr) ((Off.refl _ _).setCells _))
theorem yY {W:World} {p:Part} {v:Value} (t:TypeId) (ev:v=p.val) (ok:p.ok W) (hl:p.X.length<1073740000) (hf:Wds W 4 0 hN) (hk:Wds W 5 0 kN) :
  Calls Tryz.prog 115 #[.slice (some ⟨W.heap.size,0,none⟩) 1 1] (W.alloc (.cells #[v] t)) fun e w'=>e = .returned (.agg (byts (gl p.X)).toArray)∧Below W.heap.size W w':=by
 have B:=(Below.refl W.heap.size W).alloc (Nat.le_refl _) (.cells #[v] t)
 have h:=sum_any (PS:=[p]) (a:=some ⟨W.heap.size,0,none⟩) (cp:=1) (by rw [un];exact hl) (by show 1≤_;omega) (Nat.le_refl _) (.inr rfl) _ (wu t ev ok) (hf.keep B) (hk.keep B)
 rw [un] at h
 exact h.mono fun _ _ ⟨h1,h2⟩=>⟨h1,B.trans (h2.mono B.size)⟩
def lJ (X:List (BitVec 8)):List (BitVec 8):=if 64<X.length then gl X++List.replicate 32 0 else X++List.replicate (64-X.length) 0
theorem iP (X:List (BitVec 8)):(lJ X).length=64:=by
 unfold lJ
 split
 ·rw [List.length_append,shaL_len,List.length_replicate]
 ·rw [List.length_append,List.length_replicate];omega
theorem aJ.off {W W':World} {b g:Nat} {X:List (BitVec 8)} (h:aJ W g X) (ho:Off b W W') (ne:g≠b) (hl:g<W.heap.size):aJ W' g X :=
 ⟨h.1.off ho ne,fun i hi=>by rw [World.frozen?_of_block (ho.block g hl ne)];exact h.2 i hi⟩
theorem qg {a:Option Addr} {bd od cd:Nat} {X:List (BitVec 8)} (hl:X.length<1073740000) (hc:X.length≤cd) (ha:At a bd od X) (w:World) (hX:Byo w bd od X) (hf:Wds w 4 0 hN) (hk:Wds w 5 0 kN) :
  Calls Tryz.prog 111 #[.slice a X.length cd] w fun e w'=>e = .returned (.agg (byts (lJ X)).toArray)∧Below w.heap.size w w':=by
 have HH:Hid (At a bd od X∧Byo w bd od X∧Wds w 4 0 hN∧Wds w 5 0 kN∧X.length<1073740000∧X.length≤cd):=⟨ha,hX,hf,hk,hl,hc⟩
 clear ha hX hf hk hl hc
 have isz:(Tryz.prog.info? 5).map (·.size)=some 1:=by kernel_rfl
 go_enter Tryz.func111,Tryz.ntmps111
 have rp:∀ n,n≤64→List.replicate n (0:BitVec 8)++List.replicate (64-n) 0=List.replicate 64 0:=fun n hn=>by rw [List.replicate_append_replicate];congr 1;omega
 by_cases h64:64<X.length
 ·have d1:decide (64<(X.length:Int))=true:=decide_eq_true (by omega)
  obtain ⟨V0,kV⟩:∃ V0,V0=(w.alloc (.cells #[.int .u8 0,.int .u8 0,.int .u8 0,.int .u8 0,.int .u8 0,.int .u8 0,.int .u8 0,.int .u8 0,.int .u8 0,.int .u8 0,.int .u8 0,.int .u8 0,.int .u8 0,.int .u8 0,.int .u8 0,.int .u8 0,.int .u8 0,.int .u8 0,.int .u8 0,.int .u8 0,.int .u8 0,.int .u8 0,.int .u8 0,.int .u8 0,.int .u8 0,.int .u8 0,.int .u8 0,.int .u8 0,.int .u8 0,.int .u8 0,.int .u8 0,.int .u8 0,.int .u8 0,.int .u8 0,.int .u8 0,.int .u8 0,.int .u8 0,.int .u8 0,.int .u8 0,.int .u8 0,.int .u8 0,.int .u8 0,.int .u8 0,.int .u8 0,.int .u8 0,.int .u8 0,.int .u8 0,.int .u8 0,.int .u8 0,.int .u8 0,.int .u8 0,.int .u8 0,.int .u8 0,.int .u8 0,.int .u8 0,.int .u8 0,.int .u8 0,.int .u8 0,.int .u8 0,.int .u8 0,.int .u8 0,.int .u8 0,.int .u8 0,.int .u8 0] 143)).alloc (.cells #[.int .u8 0,.int .u8 0,.int .u8 0,.int .u8 0,.int .u8 0,.int .u8 0,.int .u8 0,.int .u8 0,.int .u8 0,.int .u8 0,.int .u8 0,.int .u8 0,.int .u8 0,.int .u8 0,.int .u8 0,.int .u8 0,.int .u8 0,.int .u8 0,.int .u8 0,.int .u8 0,.int .u8 0,.int .u8 0,.int .u8 0,.int .u8 0,.int .u8 0,.int .u8 0,.int .u8 0,.int .u8 0,.int .u8 0,.int .u8 0,.int .u8 0,.int .u8 0,.int .u8 0,.int .u8 0,.int .u8 0,.int .u8 0,.int .u8 0,.int .u8 0,.int .u8 0,.int .u8 0,.int .u8 0,.int .u8 0,.int .u8 0,.int .u8 0,.int .u8 0,.int .u8 0,.int .u8 0,.int .u8 0,.int .u8 0,.int .u8 0,.int .u8 0,.int .u8 0,.int .u8 0,.int .u8 0,.int .u8 0,.int .u8 0,.int .u8 0,.int .u8 0,.int .u8 0,.int .u8 0,.int .u8 0,.int .u8 0,.int .u8 0,.int .u8 0] 143):=⟨_,rfl⟩
  have H0:Hid (Below w.heap.size w V0∧aJ V0 w.heap.size (List.replicate 64 0)∧aJ V0 (w.heap.size+1) (List.replicate 64 0)∧V0.heap.size=w.heap.size+1+1):=by
   rw [kV]
   exact ⟨((Below.refl _ _).alloc (Nat.le_refl _) _).alloc (by simp) _,(aJ.zeros64 _ rfl).keep ((Below.refl _ _).alloc (Nat.le_refl _) _) (by simp),aJ.zeros64 _ (by simp),by simp⟩
  go_wp2_with fail
  rw [←kV,←H0.out.2.2.2]
  clear kV
  refine (yY (p:=⟨a,bd,od,cd,X⟩) _ rfl ⟨HH.out.1,HH.out.2.2.2.2.2,HH.out.2.1.keep H0.out.1⟩ HH.out.2.2.2.2.1 (HH.out.2.2.1.keep H0.out.1) (HH.out.2.2.2.1.keep H0.out.1)).mono ?_
  dsimp only
  obtain ⟨D,kD⟩:∃ D,D=gl X:=⟨_,rfl⟩
  rw [←kD]
  have lD:Hid (D.length=32∧gl X=D):=⟨by rw [kD];exact shaL_len X,kD.symm⟩
  clear kD
  rintro e w1 ⟨rfl,hb⟩
  have H1:Hid (Below w.heap.size w w1∧aJ w1 w.heap.size (List.replicate 64 0)∧aJ w1 (w.heap.size+1) (List.replicate 64 0)∧w.heap.size+1<w1.heap.size):=⟨H0.out.1.trans (hb.mono H0.out.1.size),H0.out.2.1.keep hb (by have:=H0.out;omega),H0.out.2.2.1.keep hb (by have:=H0.out;omega),by have:=H0.out;have:=hb.size;omega⟩
  clear hb H0
  have sz:((byts D).toArray).size=32:=by simp [byts_len,lD.out.1]
  have oc:=one_byts D
  have il:(Tryz.prog.info? 47).map (·.size)=some ((byts D).toArray).size:=by rw [sz];kernel_rfl
  go_wp2_with (first
   | ((with_reducible refine aw (ty:=47) w1.heap.size 0 (byts D).toArray ?_ il oc ?_ ?_ ?_);rw [sz];exact (Hsh.zeros _ rfl).there;rfl;rfl;refine aF (fun V=>Below w.heap.size w V∧aJ V w.heap.size (List.replicate 64 0)∧aJ V (w.heap.size+1) (List.replicate 64 0)∧Hsh V w1.heap.size D∧w.heap.size+1<V.heap.size) ⟨below_setCells H1.out.1.size _ 0 _ (H1.out.1.alloc H1.out.1.size _),?_,?_,(Hsh.zeros _ rfl).stored lD.out.1,?_⟩ ?_;exact (H1.out.2.1.keep ((Below.refl _ _).alloc (Nat.le_refl _) _) (by have:=H1.out;omega)).off ((Off.refl w1.heap.size _).setCells _) (by have:=H1.out;omega) (by have:=H1.out;simp;omega);exact (H1.out.2.2.1.keep ((Below.refl _ _).alloc (Nat.le_refl _) _) (by have:=H1.out;omega)).off ((Off.refl w1.heap.size _).setCells _) (by have:=H1.out;omega) (by have:=H1.out;simp;omega);(have h9:=((Off.refl w1.heap.size (w1.alloc (.cells #[.int .u8 0,.int .u8 0,.int .u8 0,.int .u8 0,.int .u8 0,.int .u8 0,.int .u8 0,.int .u8 0,.int .u8 0,.int .u8 0,.int .u8 0,.int .u8 0,.int .u8 0,.int .u8 0,.int .u8 0,.int .u8 0,.int .u8 0,.int .u8 0,.int .u8 0,.int .u8 0,.int .u8 0,.int .u8 0,.int .u8 0,.int .u8 0,.int .u8 0,.int .u8 0,.int .u8 0,.int .u8 0,.int .u8 0,.int .u8 0,.int .u8 0,.int .u8 0] 47))).setCells (o:=0) (byts D)).size;(have:=H1.out);simp at h9 ⊢; omega);intro w2' h2;have H2:Hid (Below w.heap.size w w2'∧aJ w2' w.heap.size (List.replicate 64 0)∧aJ w2' (w.heap.size+1) (List.replicate 64 0)∧Hsh w2' w1.heap.size D∧w.heap.size+1<w2'.heap.size):=h2;clear h2))
  (try simp only [Act.put])
  refine aB 2 (by kernel_rfl) (by kernel_rfl) ?_
  simp only [List.take_succ_cons,List.take_zero,List.drop_succ_cons,List.drop_zero]
  repeat (first|go_big_quiet_skip|(go_big_quiet_want;go_big_quiet_op;go_big_quiet_on))
  refine wpQuiet_nil ?_
  refine fI (g:=w.heap.size+1) (n:=64) (dCap:=64) (m:=32) (sCap:=32) (bs:=w1.heap.size) (os:=0) (sp:=some ⟨w1.heap.size,0,none⟩) (Z:=D) (X:=List.replicate 32 0) (T:=List.replicate 32 0) (dT:=52) Tryz.underlying52 isz (show aJ w2'.drew _ _ from H2.out.2.2.1) (.inr rfl) ?_ (by rw [lD.out.1];simp) lD.out.1.symm (by rw [lD.out.1];omega) rfl rfl ?_
  ·intro j hj
   rw [Nat.zero_add]
   exact H2.out.2.2.2.1.2.1 j (by have:=lD.out.1;omega)
  intro w2 h2 o2
  have HV:Hid (aJ w2 (w.heap.size+1) (gl X++List.replicate 32 0)∧Below w.heap.size w w2∧aJ w2 w.heap.size (List.replicate 64 0)):=⟨by rw [lD.out.2];exact h2,H2.out.1.drew.trans (o2.below H2.out.1.size (by omega)),(show aJ w2'.drew _ _ from H2.out.2.1).off o2 (by omega) (by have:=H2.out.2.2.2.2;show w.heap.size<w2'.heap.size;omega)⟩
  clear h2 o2
  clear sz oc il
  obtain ⟨M,kM⟩:∃ M,M=lJ X:=⟨_,rfl⟩
  have eM:Hid (aJ w2 (w.heap.size+1) M∧Below w.heap.size w w2∧aJ w2 w.heap.size (List.replicate 64 0)):=by
   rw [kM,lJ,if_pos h64]
   exact HV.out
  have lM:Hid (M.length=64∧lJ X=M):=⟨by rw [kM];exact iP X,kM.symm⟩
  clear kM HV
  have rb:=eM.out.1.1.range
  have sz:((byts M).toArray).size=64:=by simp [byts_len,lM.out.1]
  have tr:w2.there w.heap.size 0 ((byts M).toArray).size:=by have h:=eM.out.2.2.there;rw [List.length_replicate] at h;rw [sz];exact h
  have oc:=one_byts M
  have il:(Tryz.prog.info? 143).map (·.size)=some (byts M).length:=by rw [byts_len,lM.out.1];kernel_rfl
  have il3:(Tryz.prog.info? 143).map (·.size)=some ((byts M).toArray).size:=by rw [sz];kernel_rfl
  go_wp2_with (first
   | ((with_reducible refine aV (ty:=143) (w.heap.size+1) 0 (byts M) _ rb Tryz.underlying143 ?_ il ?_ ?_);rfl;rfl;simp only [Act.put,List.setIfInBounds_toArray,List.set_cons_succ,List.set_cons_zero])
   | ((with_reducible refine aw (ty:=143) w.heap.size 0 (byts M).toArray tr il3 oc ?_ ?_ ?_);rfl;rfl))
  have ld:=run_loadVar_mid (P:=Tryz.prog) (w2.setCells w.heap.size 0 (byts M)) w.heap.size 0 143 (byts M) _ (World.rangeAt_setCells_same _ _ _ _ (by simpa using tr)) Tryz.underlying143 rfl il
  refine bodyPost_ret (v:=.agg (byts M).toArray) ?_ rfl ⟨by rw [lM.out.2],below_setCells (Nat.le_refl _) (byts M) 0 w2 eM.out.2.1⟩
  simp [results,Tryz.results111,Act.put,asAddr,ld]
 ·have d1:decide (64<(X.length:Int))=false:=decide_eq_false (by omega)
  go_wp2_with ((with_reducible refine fI (g:=w.heap.size+1) (n:=64) (dCap:=64) (m:=X.length) (sCap:=cd) (Z:=X) (X:=List.replicate X.length 0) (T:=List.replicate (64-X.length) 0) (dT:=52) Tryz.underlying52 isz ?_ HH.out.1 ?_ ?_ ?_ ?_ ?_ ?_ ?_);rw [rp _ (by omega)];exact aJ.zeros64 _ (by simp);exact (HH.out.2.1.keep ((Below.refl _ _).alloc (Nat.le_refl _) _)).keep ((Below.refl _ _).alloc (Nat.le_refl _) _);simp;rfl;omega;rfl;rfl;intro w2 h2 o2;have HV:Hid (aJ w2 (w.heap.size+1) (X++List.replicate (64-X.length) 0)∧Below w.heap.size w w2∧aJ w2 w.heap.size (List.replicate 64 0)):=⟨h2,(((Below.refl _ _).alloc (Nat.le_refl _) _).alloc (by simp) _).trans (o2.below (by simp;omega) (by omega)),((aJ.zeros64 _ rfl).keep ((Below.refl _ _).alloc (Nat.le_refl _) _) (by simp)).off o2 (by omega) (by simp;omega)⟩;clear h2 o2;refine hold ?_)
  show wpList _ _ _ _ _ _
  obtain ⟨M,kM⟩:∃ M,M=lJ X:=⟨_,rfl⟩
  have eM:Hid (aJ w2 (w.heap.size+1) M∧Below w.heap.size w w2∧aJ w2 w.heap.size (List.replicate 64 0)):=by
   rw [kM,lJ,if_neg h64]
   exact HV.out
  have lM:Hid (M.length=64∧lJ X=M):=⟨by rw [kM];exact iP X,kM.symm⟩
  clear kM HV
  have rb:=eM.out.1.1.range
  have sz:((byts M).toArray).size=64:=by simp [byts_len,lM.out.1]
  have tr:w2.there w.heap.size 0 ((byts M).toArray).size:=by have h:=eM.out.2.2.there;rw [List.length_replicate] at h;rw [sz];exact h
  have oc:=one_byts M
  have il:(Tryz.prog.info? 143).map (·.size)=some (byts M).length:=by rw [byts_len,lM.out.1];kernel_rfl
  have il3:(Tryz.prog.info? 143).map (·.size)=some ((byts M).toArray).size:=by rw [sz];kernel_rfl
  go_wp2_with (first
   | ((with_reducible refine aV (ty:=143) (w.heap.size+1) 0 (byts M) _ rb Tryz.underlying143 ?_ il ?_ ?_);rfl;rfl;simp only [Act.put,List.setIfInBounds_toArray,List.set_cons_succ,List.set_cons_zero])
   | ((with_reducible refine aw (ty:=143) w.heap.size 0 (byts M).toArray tr il3 oc ?_ ?_ ?_);rfl;rfl))
  have ld:=run_loadVar_mid (P:=Tryz.prog) (w2.setCells w.heap.size 0 (byts M)) w.heap.size 0 143 (byts M) _ (World.rangeAt_setCells_same _ _ _ _ (by simpa using tr)) Tryz.underlying143 rfl il
  refine bodyPost_ret (v:=.agg (byts M).toArray) ?_ rfl ⟨by rw [lM.out.2],below_setCells (Nat.le_refl _) (byts M) 0 w2 eM.out.2.1⟩
  simp [results,Tryz.results111,Act.put,asAddr,ld]
open Go.RowKit Go.Sort
def hmacL (X T:List (BitVec 8)):List (BitVec 8):=gl (fj (lJ X) 92++gl (fj (lJ X) 54++T))
theorem hmac_any {ka a:Option Addr} {kb ko kc bp op cp:Nat} {X:List (BitVec 8)} {PS:List Part} (hl:X.length<1073740000) (hc:X.length≤kc) (hka:At ka kb ko X) (hs:(catX PS).length<1073730000) (hn:PS.length≤1073730000) (ha:PS=[]∨a=some ⟨bp,op,none⟩) (w:World) (hX:Byo w kb ko X) (hP:Prts w bp op PS) (hf:Wds w 4 0 hN) (hk:Wds w 5 0 kN) :
  Rt 84 #[.slice ka X.length kc,.slice a PS.length cp] w (.agg (byts (hmacL X (catX PS))).toArray):=by
 have HH:Hid (Prts w bp op PS∧(PS=[]∨a=some ⟨bp,op,none⟩)∧Wds w 4 0 hN∧Wds w 5 0 kN∧(catX PS).length<1073730000∧PS.length≤1073730000):=⟨hP,ha,hf,hk,hs,hn⟩
 have HX:Hid (At ka kb ko X∧Byo w kb ko X∧X.length<1073740000∧X.length≤kc):=⟨hka,hX,hl,hc⟩
 have nb:(PS.length:Int)≤1073730000:=by omega
 have G0:Hid (4<w.heap.size∧5<w.heap.size):=⟨hf.lt (by decide),hk.lt (by decide)⟩
 clear hP ha hf hk hs hn hka hX hl hc
 have zh:=tn
 have y1:Hid (Y 54=54∧Y 92=92):=⟨by rw [Y_eq];rfl,by rw [Y_eq];rfl⟩
 obtain ⟨K,kK⟩:∃ K,K=lJ X:=⟨_,rfl⟩
 obtain ⟨I,kI⟩:∃ I,I=fj K 54:=⟨_,rfl⟩
 obtain ⟨O,kO⟩:∃ O,O=fj K 92:=⟨_,rfl⟩
 have KK:Hid (lJ X=K∧fj K 54=I∧fj K 92=O∧K.length=64∧I.length=64∧O.length=64):=⟨kK.symm,kI.symm,kO.symm,by rw [kK];exact iP X,by rw [kI,dI,kK];exact iP X,by rw [kO,dI,kK];exact iP X⟩
 have ilK:∀ M:List (BitVec 8),M.length=64→(Tryz.prog.info? 143).map (·.size)=some ((byts M).toArray).size:=fun M h=>by
  have e:(Tryz.prog.info? 143).map (·.size)=some 64:=by kernel_rfl
  rw [e];simp [byts_len,h]
 have ilK2:∀ M:List (BitVec 8),M.length=64→(Tryz.prog.info? 143).map (·.size)=some (byts M).length:=fun M h=>by
  have e:(Tryz.prog.info? 143).map (·.size)=some 64:=by kernel_rfl
  rw [e,byts_len,h]
 have i1:=ilK K KK.out.2.2.2.1
 have i2:=ilK I KK.out.2.2.2.2.1
 have i3:=ilK O KK.out.2.2.2.2.2
 have j1:=ilK2 K KK.out.2.2.2.1
 have o1:=one_byts K
 have o2:=one_byts I
 have o3:=one_byts O
 have TH:Hid (∀ (M:List (BitVec 8)) (W:World),M.length=64→(W.alloc (.cells #[.int .u8 0,.int .u8 0,.int .u8 0,.int .u8 0,.int .u8 0,.int .u8 0,.int .u8 0,.int .u8 0,.int .u8 0,.int .u8 0,.int .u8 0,.int .u8 0,.int .u8 0,.int .u8 0,.int .u8 0,.int .u8 0,.int .u8 0,.int .u8 0,.int .u8 0,.int .u8 0,.int .u8 0,.int .u8 0,.int .u8 0,.int .u8 0,.int .u8 0,.int .u8 0,.int .u8 0,.int .u8 0,.int .u8 0,.int .u8 0,.int .u8 0,.int .u8 0,.int .u8 0,.int .u8 0,.int .u8 0,.int .u8 0,.int .u8 0,.int .u8 0,.int .u8 0,.int .u8 0,.int .u8 0,.int .u8 0,.int .u8 0,.int .u8 0,.int .u8 0,.int .u8 0,.int .u8 0,.int .u8 0,.int .u8 0,.int .u8 0,.int .u8 0,.int .u8 0,.int .u8 0,.int .u8 0,.int .u8 0,.int .u8 0,.int .u8 0,.int .u8 0,.int .u8 0,.int .u8 0,.int .u8 0,.int .u8 0,.int .u8 0,.int .u8 0] 143)).there W.heap.size 0 ((byts M).toArray).size):=fun M W h=>bB _ _ rfl (by simp [byts_len,h])
 clear kK kI kO ilK ilK2
 go_enter Tryz.func84,Tryz.ntmps84
 go_wp2_with fail
 have MK:Hid (∀ W,Rt 112 #[.agg (byts K).toArray,.int .u8 54] W (.agg (byts I).toArray)):=fun W=>by
  have h:=ol KK.out.2.2.2.1 54 W
  rw [y1.out.1,KK.out.2.1] at h
  exact h
 have MO:Hid (∀ W,Rt 112 #[.agg (byts K).toArray,.int .u8 92] W (.agg (byts O).toArray)):=fun W=>by
  have h:=ol KK.out.2.2.2.1 92 W
  rw [y1.out.2,KK.out.2.2.1] at h
  exact h
 have RS:Hid (∀ (M:List (BitVec 8)) (W:World),M.length=64→aJ ((W.alloc (.cells #[.int .u8 0,.int .u8 0,.int .u8 0,.int .u8 0,.int .u8 0,.int .u8 0,.int .u8 0,.int .u8 0,.int .u8 0,.int .u8 0,.int .u8 0,.int .u8 0,.int .u8 0,.int .u8 0,.int .u8 0,.int .u8 0,.int .u8 0,.int .u8 0,.int .u8 0,.int .u8 0,.int .u8 0,.int .u8 0,.int .u8 0,.int .u8 0,.int .u8 0,.int .u8 0,.int .u8 0,.int .u8 0,.int .u8 0,.int .u8 0,.int .u8 0,.int .u8 0,.int .u8 0,.int .u8 0,.int .u8 0,.int .u8 0,.int .u8 0,.int .u8 0,.int .u8 0,.int .u8 0,.int .u8 0,.int .u8 0,.int .u8 0,.int .u8 0,.int .u8 0,.int .u8 0,.int .u8 0,.int .u8 0,.int .u8 0,.int .u8 0,.int .u8 0,.int .u8 0,.int .u8 0,.int .u8 0,.int .u8 0,.int .u8 0,.int .u8 0,.int .u8 0,.int .u8 0,.int .u8 0,.int .u8 0,.int .u8 0,.int .u8 0,.int .u8 0] 143)).setCells W.heap.size 0 (byts M)) W.heap.size M):=fun M W h=>by
  have:=mj (W:=W.alloc (.cells #[.int .u8 0,.int .u8 0,.int .u8 0,.int .u8 0,.int .u8 0,.int .u8 0,.int .u8 0,.int .u8 0,.int .u8 0,.int .u8 0,.int .u8 0,.int .u8 0,.int .u8 0,.int .u8 0,.int .u8 0,.int .u8 0,.int .u8 0,.int .u8 0,.int .u8 0,.int .u8 0,.int .u8 0,.int .u8 0,.int .u8 0,.int .u8 0,.int .u8 0,.int .u8 0,.int .u8 0,.int .u8 0,.int .u8 0,.int .u8 0,.int .u8 0,.int .u8 0,.int .u8 0,.int .u8 0,.int .u8 0,.int .u8 0,.int .u8 0,.int .u8 0,.int .u8 0,.int .u8 0,.int .u8 0,.int .u8 0,.int .u8 0,.int .u8 0,.int .u8 0,.int .u8 0,.int .u8 0,.int .u8 0,.int .u8 0,.int .u8 0,.int .u8 0,.int .u8 0,.int .u8 0,.int .u8 0,.int .u8 0,.int .u8 0,.int .u8 0,.int .u8 0,.int .u8 0,.int .u8 0,.int .u8 0,.int .u8 0,.int .u8 0,.int .u8 0] 143)) (g:=W.heap.size) (X:=List.replicate 64 0) (Z:=M) (T:=[]) (by rw [h];simp) (by rw [List.append_nil];exact aJ.zeros64 _ rfl)
  rw [List.append_nil] at this
  exact this
 refine aa (fun W=>Below w.heap.size w W∧Hsh W w.heap.size (List.replicate 32 0)) ⟨(Below.refl _ _).alloc (Nat.le_refl _) _,Hsh.zeros _ rfl⟩ ?_
 rintro W1 ⟨b1,r1⟩
 refine (qg HX.out.2.2.1 HX.out.2.2.2 HX.out.1 _ (HX.out.2.1.keep b1) (HH.out.2.2.1.keep b1) (HH.out.2.2.2.1.keep b1)).mono ?_
 rw [KK.out.1]
 rintro e w2 ⟨rfl,hb⟩
 have H2:Hid (Below w.heap.size w w2∧Hsh w2 w.heap.size (List.replicate 32 0)):=⟨b1.trans (hb.mono b1.size),r1.keep hb⟩
 clear hb b1 r1
 go_wp2_with (first
  | ((with_reducible refine aw (ty:=143) w2.heap.size 0 (byts K).toArray (TH.out K w2 KK.out.2.2.2.1) i1 o1 ?_ ?_ ?_);rfl;rfl;refine aF (fun V=>Below w.heap.size w V∧Hsh V w.heap.size (List.replicate 32 0)∧aJ V w2.heap.size K∧w2.heap.size<V.heap.size) ⟨below_setCells H2.out.1.size _ 0 _ (H2.out.1.alloc H2.out.1.size _),(H2.out.2.alloc _).otherCells (by have:=H2.out.2.lt;omega) _,RS.out K w2 KK.out.2.2.2.1,?_⟩ ?_;exact Nat.lt_of_lt_of_le (by simp) ((Off.refl w2.heap.size _).setCells (o:=0) (byts K)).size;intro w3 h3;have H3:Hid (Below w.heap.size w w3∧Hsh w3 w.heap.size (List.replicate 32 0)∧aJ w3 w2.heap.size K∧w2.heap.size<w3.heap.size):=h3;have rK:=h3.2.2.1.1.range;clear h3)
  | ((with_reducible refine aV (ty:=143) w2.heap.size 0 (byts K) _ rK Tryz.underlying143 ?_ j1 ?_ ?_);rfl;rfl;simp only [Act.put,List.setIfInBounds_toArray,List.set_cons_succ,List.set_cons_zero]))
 generalize w2.heap.size=g1 at *
 refine (MK.out _).mono ?_
 rintro e w4 ⟨rfl,hb⟩
 have H4:Hid (Below w.heap.size w w4∧Hsh w4 w.heap.size (List.replicate 32 0)∧aJ w4 g1 K∧g1<w4.heap.size):=⟨H3.out.1.trans (hb.mono H3.out.1.size),H3.out.2.1.keep hb,H3.out.2.2.1.keep hb H3.out.2.2.2,Nat.lt_of_lt_of_le H3.out.2.2.2 hb.size⟩
 clear hb H2 H3 rK
 go_wp2_with (first
  | ((with_reducible refine aw (ty:=143) w4.heap.size 0 (byts I).toArray (TH.out I w4 KK.out.2.2.2.2.1) i2 o2 ?_ ?_ ?_);rfl;rfl;refine aF (fun V=>Below w.heap.size w V∧Hsh V w.heap.size (List.replicate 32 0)∧aJ V g1 K∧aJ V w4.heap.size I∧w4.heap.size<V.heap.size) ⟨below_setCells H4.out.1.size _ 0 _ (H4.out.1.alloc H4.out.1.size _),(H4.out.2.1.alloc _).otherCells (by have:=H4.out.2.1.lt;omega) _,(H4.out.2.2.1.keep ((Below.refl _ _).alloc (Nat.le_refl _) _) H4.out.2.2.2).off ((Off.refl w4.heap.size _).setCells _) (by have:=H4.out;omega) (by have:=H4.out;simp;omega),RS.out I w4 KK.out.2.2.2.2.1,?_⟩ ?_;exact Nat.lt_of_lt_of_le (by simp) ((Off.refl w4.heap.size _).setCells (o:=0) (byts I)).size;intro w5 h5;have H5:Hid (Below w.heap.size w w5∧Hsh w5 w.heap.size (List.replicate 32 0)∧aJ w5 g1 K∧aJ w5 w4.heap.size I∧w4.heap.size<w5.heap.size):=h5;have rK:=h5.2.2.1.1.range;clear h5)
  | ((with_reducible refine aV (ty:=143) g1 0 (byts K) _ rK Tryz.underlying143 ?_ j1 ?_ ?_);rfl;rfl;simp only [Act.put,List.setIfInBounds_toArray,List.set_cons_succ,List.set_cons_zero]))
 generalize w4.heap.size=g2 at *
 refine (MO.out _).mono ?_
 rintro e w6 ⟨rfl,hb⟩
 have H6:Hid (Below w.heap.size w w6∧Hsh w6 w.heap.size (List.replicate 32 0)∧aJ w6 g2 I∧g2<w6.heap.size):=⟨H5.out.1.trans (hb.mono H5.out.1.size),H5.out.2.1.keep hb,H5.out.2.2.2.1.keep hb H5.out.2.2.2.2,Nat.lt_of_lt_of_le H5.out.2.2.2.2 hb.size⟩
 clear hb H4 H5 rK
 go_wp2_with ((with_reducible refine aw (ty:=143) w6.heap.size 0 (byts O).toArray (TH.out O w6 KK.out.2.2.2.2.2) i3 o3 ?_ ?_ ?_);rfl;rfl;refine aF (fun V=>Below w.heap.size w V∧Hsh V w.heap.size (List.replicate 32 0)∧aJ V g2 I∧aJ V w6.heap.size O∧w6.heap.size<V.heap.size∧g2<w6.heap.size) ⟨below_setCells H6.out.1.size _ 0 _ (H6.out.1.alloc H6.out.1.size _),(H6.out.2.1.alloc _).otherCells (by have:=H6.out.2.1.lt;omega) _,(H6.out.2.2.1.keep ((Below.refl _ _).alloc (Nat.le_refl _) _) H6.out.2.2.2).off ((Off.refl w6.heap.size _).setCells _) (by have:=H6.out;omega) (by have:=H6.out;simp;omega),RS.out O w6 KK.out.2.2.2.2.2,?_,H6.out.2.2.2⟩ ?_;exact Nat.lt_of_lt_of_le (by simp) ((Off.refl w6.heap.size _).setCells (o:=0) (byts O)).size;intro w7 h7;have H7:Hid (Below w.heap.size w w7∧Hsh w7 w.heap.size (List.replicate 32 0)∧aJ w7 g2 I∧aJ w7 w6.heap.size O∧w6.heap.size<w7.heap.size∧g2<w6.heap.size):=h7;clear h7)
 generalize w6.heap.size=g3 at *
 clear H6
 refine aa (fun W=>Below w.heap.size w W∧Hsh W w.heap.size (List.replicate 32 0)∧aJ W g2 I∧aJ W g3 O∧Tx W w7.heap.size []∧w7.heap.size<W.heap.size) ⟨H7.out.1.alloc H7.out.1.size _,H7.out.2.1.alloc _,H7.out.2.2.1.keep ((Below.refl _ _).alloc (Nat.le_refl _) _) (by have:=H7.out;omega),H7.out.2.2.2.1.keep ((Below.refl _ _).alloc (Nat.le_refl _) _) (by have:=H7.out;omega),Tx.new _ rfl,by simp⟩ ?_
 rintro w8 h8
 have H8:Hid (Below w.heap.size w w8∧Hsh w8 w.heap.size (List.replicate 32 0)∧aJ w8 g2 I∧aJ w8 g3 O∧Tx w8 w7.heap.size []):=⟨h8.1,h8.2.1,h8.2.2.1,h8.2.2.2.1,h8.2.2.2.2.1⟩
 have NN:Hid (w.heap.size<w7.heap.size∧g2<w7.heap.size∧g3<w7.heap.size):=⟨H7.out.2.1.lt,by have:=H7.out;omega,by have:=H7.out;omega⟩
 clear h8 H7 zh
 generalize w7.heap.size=bs at *
 have h9:=eO (b:=bs) (bd:=g2) (od:=0) (cd:=64) (a:=some ⟨g2,0,none⟩) (A:=[]) (X:=I) (by have:=NN.out;omega) (by have:=G0.out;have:=NN.out;omega) (by have:=G0.out;have:=NN.out;omega) (by rw [KK.out.2.2.2.2.1];decide) (by rw [KK.out.2.2.2.2.1];decide) (.inr rfl) w8 H8.out.2.2.2.2 H8.out.2.2.1.1 (HH.out.2.2.1.keep H8.out.1) (HH.out.2.2.2.1.keep H8.out.1)
 rw [KK.out.2.2.2.2.1,List.nil_append] at h9
 refine h9.mono ?_
 clear h9
 rintro e w9 ⟨rfl,hs9,ho9⟩
 have H9:Hid (Below w.heap.size w w9∧Hsh w9 w.heap.size (List.replicate 32 0)∧aJ w9 g3 O∧Tx w9 bs I):=⟨H8.out.1.trans (ho9.below H8.out.1.size (by have:=NN.out;omega)),H8.out.2.1.off ho9 (by have:=NN.out;omega),H8.out.2.2.2.1.off ho9 (by have:=NN.out;omega) (by have:=NN.out;have:=H8.out.2.2.2.2.lt;omega),hs9⟩
 clear hs9 ho9 H8
 go_wp2_with fail
 go_loopg [22] PS.length (fun g iv wr=>∃ i:Nat,g=PS.length-i∧i≤PS.length∧iv = .int .i64 i∧Below w.heap.size w wr∧Hsh wr w.heap.size (List.replicate 32 0)∧aJ wr g3 O∧Tx wr bs (I++catX (PS.take i)))
 case atStart=>exact ⟨0,rfl,Nat.zero_le _,rfl,H9.out.1,H9.out.2.1,H9.out.2.2.1,by rw [List.take_zero,show catX ([]:List Part)=[] from rfl,List.append_nil];exact H9.out.2.2.2⟩
 case round =>
  clear H9
  obtain ⟨i,hk,hi,rfl,hf⟩:=hrel
  have HK:Hid (gk=PS.length-i):=hk
  have HF:Hid (Below w.heap.size w wr∧Hsh wr w.heap.size (List.replicate 32 0)∧aJ wr g3 O∧Tx wr bs (I++catX (PS.take i))):=hf
  clear hk hf
  by_cases h8:i=PS.length
  ·subst h8
   rw [List.take_length] at HF
   go_wp2_with fail
   refine (jZ (by rw [List.length_append,KK.out.2.2.2.2.1];have:=HH.out.2.2.2.2.1;omega) _ HF.out.2.2.2 (HH.out.2.2.1.keep HF.out.1) (HH.out.2.2.2.1.keep HF.out.1)).mono ?_
   rintro e w10 ⟨rfl,hb⟩
   have H10:Hid (Below w.heap.size w w10∧Hsh w10 w.heap.size (List.replicate 32 0)∧aJ w10 g3 O∧g3<w10.heap.size):=⟨HF.out.1.trans (hb.mono HF.out.1.size),HF.out.2.1.keep hb,HF.out.2.2.1.keep hb (by have:=HF.out.2.2.2.lt;have:=NN.out;omega),by have:=HF.out.2.2.2.lt;have:=NN.out;have:=hb.size;omega⟩
   clear hb HF
   obtain ⟨D,kD⟩:∃ D,D=gl (I++catX PS):=⟨_,rfl⟩
   rw [←kD]
   have lD:Hid (D.length=32∧gl (I++catX PS)=D):=⟨by rw [kD];exact shaL_len _,kD.symm⟩
   clear kD
   have sz:((byts D).toArray).size=32:=by simp [byts_len,lD.out.1]
   have oc:=one_byts D
   have il:(Tryz.prog.info? 47).map (·.size)=some ((byts D).toArray).size:=by rw [sz];kernel_rfl
   go_wp2_with (first
    | ((with_reducible refine aw (ty:=47) w10.heap.size 0 (byts D).toArray ?_ il oc ?_ ?_ ?_);rw [sz];exact (Hsh.zeros _ rfl).there;rfl;rfl;refine aF (fun V=>Below w.heap.size w V∧Hsh V w.heap.size (List.replicate 32 0)∧aJ V g3 O∧Hsh V w10.heap.size D) ⟨below_setCells H10.out.1.size _ 0 _ (H10.out.1.alloc H10.out.1.size _),(H10.out.2.1.alloc _).otherCells (by have:=H10.out.2.1.lt;omega) _,?_,(Hsh.zeros _ rfl).stored lD.out.1⟩ ?_;exact (H10.out.2.2.1.keep ((Below.refl _ _).alloc (Nat.le_refl _) _) H10.out.2.2.2).off ((Off.refl w10.heap.size _).setCells _) (by have:=H10.out;omega) (by have:=H10.out;simp;omega);intro w11 h11;have H11:Hid (Below w.heap.size w w11∧Hsh w11 w.heap.size (List.replicate 32 0)∧aJ w11 g3 O∧Hsh w11 w10.heap.size D):=h11;clear h11))
   generalize w10.heap.size=g4 at *
   clear sz oc il
   (try simp only [Act.put])
   refine aB 2 (by kernel_rfl) (by kernel_rfl) ?_
   simp only [List.take_succ_cons,List.take_zero,List.drop_succ_cons,List.drop_zero]
   repeat (first|go_big_quiet_skip|(go_big_quiet_want;go_big_quiet_op;go_big_quiet_on))
   refine wpQuiet_nil ?_
   go_wp2_with fail
   have b12:Below w11.heap.size w11 (w11.alloc (.cells #[.slice (some ⟨g3,0,none⟩) 64 64,.slice (some ⟨g4,0,none⟩) 32 32] 52)).drew:=((Below.refl _ _).alloc (Nat.le_refl _) _).drew
   have p12:Prts (w11.alloc (.cells #[.slice (some ⟨g3,0,none⟩) 64 64,.slice (some ⟨g4,0,none⟩) 32 32] 52)).drew w11.heap.size 0 [⟨some ⟨g3,0,none⟩,g3,0,64,O⟩,⟨some ⟨g4,0,none⟩,g4,0,32,D⟩]:=wt (W:=w11) (p:=⟨some ⟨g3,0,none⟩,g3,0,64,O⟩) (q:=⟨some ⟨g4,0,none⟩,g4,0,32,D⟩) _ (by show _=Value.slice _ O.length _;rw [KK.out.2.2.2.2.2]) (by show _=Value.slice _ D.length _;rw [lD.out.1]) ⟨.inr rfl,by show O.length≤64;rw [KK.out.2.2.2.2.2];decide,H11.out.2.2.1.1⟩ ⟨.inr rfl,by show D.length≤32;rw [lD.out.1];decide,fun j hj=>by rw [Nat.zero_add];exact H11.out.2.2.2.2.1 j (by have:=lD.out.1;have h:j<D.length:=hj;omega)⟩
   have h12:=sum_any (a:=some ⟨w11.heap.size,0,none⟩) (cp:=2) (by rw [uv,List.length_append];show O.length+D.length<_;rw [KK.out.2.2.2.2.2,lD.out.1];decide) (by show 2≤_;omega) (Nat.le_refl _) (.inr rfl) _ p12 ((HH.out.2.2.1.keep H11.out.1).keep b12) ((HH.out.2.2.2.1.keep H11.out.1).keep b12)
   clear p12
   obtain ⟨R,kR⟩:∃ R,R=gl (O++D):=⟨_,rfl⟩
   have lR:Hid (R.length=32∧hmacL X (catX PS)=R):=⟨by rw [kR];exact shaL_len _,by rw [hmacL,KK.out.1,KK.out.2.2.1,KK.out.2.1,lD.out.2,kR]⟩
   rw [uv] at h12
   dsimp only at h12
   rw [←kR] at h12
   clear kR
   refine h12.mono ?_
   clear h12
   rintro e w13 ⟨rfl,hb⟩
   have H13:Hid (Below w.heap.size w w13∧Hsh w13 w.heap.size (List.replicate 32 0)):=⟨(H11.out.1.trans (b12.mono H11.out.1.size)).trans (hb.mono (Nat.le_trans H11.out.1.size b12.size)),(H11.out.2.1.keep b12).keep hb⟩
   clear hb b12 H11 H10
   have sz:((byts R).toArray).size=32:=by simp [byts_len,lR.out.1]
   have oc:=one_byts R
   have tr:w13.there w.heap.size 0 ((byts R).toArray).size:=by rw [sz];exact H13.out.2.there
   have il:(Tryz.prog.info? 47).map (·.size)=some (byts R).length:=by rw [byts_len,lR.out.1];kernel_rfl
   have il3:(Tryz.prog.info? 47).map (·.size)=some ((byts R).toArray).size:=by rw [sz];kernel_rfl
   go_wp2_with ((with_reducible refine aw (ty:=47) w.heap.size 0 (byts R).toArray tr il3 oc ?_ ?_ ?_);rfl;rfl)
   have ld:=run_loadVar_mid (P:=Tryz.prog) (w13.setCells w.heap.size 0 (byts R)) w.heap.size 0 47 (byts R) _ (World.rangeAt_setCells_same _ _ _ _ (by simpa using tr)) Tryz.underlying47 rfl il
   refine bodyPost_ret (v:=.agg (byts R).toArray) ?_ rfl ⟨by rw [lR.out.2],below_setCells (Nat.le_refl _) (byts R) 0 w13 H13.out.1⟩
   simp [results,Tryz.results84,Act.put,asAddr,ld]
  ·have hlt:i<PS.length:=by omega
   have hlt':(i:Int)<PS.length:=by omega
   have ea:a=some ⟨bp,op,none⟩:=by
    rcases HH.out.2.1 with h|h
    ·rw [h] at hlt;simp at hlt
    ·exact h
   subst ea
   obtain ⟨p,kp⟩:∃ p,p=PS.getD i .none:=⟨_,rfl⟩
   have g0:wr.cell? ⟨bp,op+i,none⟩=some (.slice p.a p.X.length p.c):=by
    have h:=(HH.out.1 i hlt).1
    rw [HF.out.1.cell (p:=⟨bp,op+i,none⟩) (World.block_lt_of_cell? w _ h),h,←kp]
    rfl
   have OK:Hid (p.ok wr):=by
    have h:=(HH.out.1 i hlt).2
    rw [←kp] at h
    exact ⟨h.1,h.2.1,fun j hj=>by rw [HF.out.1.cell (p:=⟨p.b,p.o+j,none⟩) (World.block_lt_of_cell? w _ (h.2.2 j hj))];exact h.2.2 j hj⟩
   have LB:Hid (p.X=[]∨p.b<w.heap.size):=by
    by_cases h0:p.X=[]
    ·exact .inl h0
    ·refine .inr ?_
     have h:=(HH.out.1 i hlt).2
     rw [←kp] at h
     exact World.block_lt_of_cell? w _ (h.2.2 0 (List.length_pos_iff.2 h0))
   have NX:Hid (catX (PS.take (i+1))=catX (PS.take i)++p.X):=by rw [kp];exact ga hlt
   have LN:Hid ((I++catX (PS.take i)).length+p.X.length<1073741824):=by
    have h1:=j7 (PS:=PS) (i+1)
    rw [NX.out,List.length_append] at h1
    have:=HH.out.2.2.2.2.1
    have h:(I++catX (PS.take i)).length+p.X.length<1073741824:=by rw [List.length_append,KK.out.2.2.2.2.1];omega
    exact h
   clear kp
   obtain ⟨bd,NB,hAt,hByo⟩:∃ bd,Hid (bd≠bs)∧Hid (At p.a bd p.o p.X)∧Hid (Byo wr bd p.o p.X):=by
    rcases LB.out with h|h
    ·refine ⟨bs+1,?_,.inl h,?_⟩
     ·have h:bs+1≠bs:=by omega
      exact h
     ·intro j hj;rw [h] at hj;simp at hj
    ·refine ⟨p.b,?_,OK.out.1,OK.out.2.2⟩
     have h:p.b≠bs:=by have:=NN.out;omega
     exact h
   go_wp2_with fail
   refine (eO NB.out (by have:=NN.out;have:=G0.out;omega) (by have:=NN.out;have:=G0.out;omega) LN.out OK.out.2.1 hAt.out _ HF.out.2.2.2 hByo.out (HH.out.2.2.1.keep HF.out.1) (HH.out.2.2.2.1.keep HF.out.1)).mono ?_
   rintro e w5 ⟨rfl,hs5,ho5⟩
   have H5:Hid (Below w.heap.size w w5∧Hsh w5 w.heap.size (List.replicate 32 0)∧aJ w5 g3 O∧Tx w5 bs (I++catX (PS.take (i+1)))):=by
    rw [NX.out,←List.append_assoc]
    exact ⟨HF.out.1.trans (ho5.below HF.out.1.size (by have:=NN.out;omega)),HF.out.2.1.off ho5 (by have:=NN.out;omega),HF.out.2.2.1.off ho5 (by have:=NN.out;omega) (by have:=NN.out;have:=HF.out.2.2.2.lt;omega),hs5⟩
   clear hs5 ho5 HF OK LB NX LN g0 hAt hByo NB
   go_wp2
   go_roundg (PS.length-(i+1))
   case measure=>have:=HK.out;omega
   case rel=>exact ⟨i+1,rfl,by omega,by go_num,H5.out⟩
end Go.Proofs.YtjoandmehahfgaaGreatDoor.S
