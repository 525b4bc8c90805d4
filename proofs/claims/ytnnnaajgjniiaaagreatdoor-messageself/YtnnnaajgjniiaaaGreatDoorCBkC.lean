import Derived.Test.YtnnnaajgjniiaaaGreatDoorESW
import Derived.Test.YtnnnaajgjniiaaaGreatDoorGet
import Derived.Test.YtnnnaajgjniiaaaGreatDoorCSumK
import Derived.Maps.AppendAt
import Derived.Test.YtnnnaajgjniiaaaGreatDoorRowB
import Derived.Lib.AppendZerosOnto
set_option maxRecDepth 100000
set_option maxHeartbeats 8000000
namespace Go.Proofs.YtnnnaajgjniiaaaGreatDoor
open Go.RowKit Go.Sort
theorem qc:(Tryz.prog.info? 5).map (fun i=>(i.zero,i.size,i.bytes))=some (some (.int .u8 0),1,1):=by kernel_rfl
theorem oO {P:Program} {e:TypeId} {z:Value} {s b:Nat} (h:(P.info? e).map (fun i=>(i.zero,i.size,i.bytes))=some (some z,s,b)):∃ i,P.info? e=some i∧i.zero=some z∧i.size=s∧i.bytes=b:=by
 cases hi:P.info? e with
 | none=>rw [hi] at h;cases h
 | some i =>
  rw [hi] at h
  simp only [Option.map_some,Option.some.injEq,Prod.mk.injEq] at h
  exact ⟨i,rfl,h.1,h.2.1,h.2.2⟩
theorem lj {W:World} {b:Nat} {l:List Int} (h:W.rangeAt b 0 (l.map (Value.int .u8))) (hf:ah W b l.length):Bts W b l:=by
 refine ⟨fun i hi=>?_,hf⟩
 have:=h i (.int .u8 (l.getD i 0)) (by rw [List.getElem?_map,List.getElem?_eq_getElem hi];simp [List.getD,hi])
 rwa [Nat.zero_add] at this
theorem lm (dst:Option Tmp) (pos:String) (ty:TypeId) (ρ:Operand→Value) (w:World):(execOp ρ { dst:=dst,op:=Op.alloc 25,type:=ty,pos:=pos,after:=#[],guard:=none }).run Tryz.prog w = .ok (.value (.pointer (some ⟨w.heap.size,0,none⟩))) (w.alloc (.cells (((List.replicate 32 (0:Int)).map (Value.int .u8)).toArray) 25)):=by
 simp [execOp,go_sem]
theorem uR {W:World} {base:Nat} {v:Value} {t:TypeId} (h:base≤W.heap.size):(W.alloc (.cells #[v] t)).ownsRow base t 1 (.slice (some ⟨W.heap.size,0,none⟩) 1 1) 1 [v]:=by
 refine ⟨rfl,.inr ⟨W.heap.size,1,#[v],rfl,h,?_,Nat.le_refl _,by unfold maxLen;decide,rfl,rfl⟩⟩
 show (W.heap.push _)[W.heap.size]?=_
 simp
theorem oP {A:List Int} {M:List Value} {W:World} {b:Nat} (e:M=A.map (Value.int .u8)) (h:Bts W b A):∀ j u,M[j]?=some u→W.cell? ((⟨b,0,none⟩:Addr).add j)=some u:=fun j u hu=>by
 subst e
 have:=h.1.range j u hu
 rw [Addr.add_mid]
 exact this
theorem uS {x y:Int} (ON:Hid (∀ w,Mds w→Calls Tryz.prog 93 #[.agg #[.int .u64 (l0 x),.int .u64 (l1 x),.int .u64 (l2 x),.int .u64 (l3 x),.int .u64 (l0 y),.int .u64 (l1 y),.int .u64 (l2 y),.int .u64 (l3 y),.bool false]] w fun e w'=>e = .returned (.bool true)∧Below w.heap.size w w')) (w:World) (hm:Mds w) :
  Calls Tryz.prog 76 #[.agg #[.int .u64 (l0 x),.int .u64 (l1 x),.int .u64 (l2 x),.int .u64 (l3 x),.int .u64 (l0 y),.int .u64 (l1 y),.int .u64 (l2 y),.int .u64 (l3 y),.bool false]] w fun e w'=>e = .returned (.int .i64 0)∧Below w.heap.size w w':=by
 go_enter Tryz.func76,Tryz.ntmps76
 go_wp2_with fail
 refine aa (fun W=>Below w.heap.size w W∧Mds W∧Pnt W w.heap.size x y false) ⟨by repeat (first|with_reducible exact Below.refl _ _|with_reducible refine Below.alloc ?_ (by first|omega|(simp;done)|(simp;omega)) _),hm.alloc _,Pnt.new rfl⟩ ?_
 rintro W ⟨B,hD,hP⟩
 with_reducible refine (ON.out _ hD).mono ?_
 rintro e w9 ⟨rfl,hb⟩
 replace B:=B.trans (hb.mono B.size)
 replace hP:=hP.keep hb
 clear hb W hD
 have gP:=hP.cells
 go_wp2
 simp [bodyPost,results,Tryz.results76,go_sem]
 exact B
theorem Bts.belowC {W W':World} {n b:Nat} {l:List Int} (h:Bts W b l) (hlt:b<n) (hb:Below n W W'):Bts W' b l:=⟨fun i hi=>by rw [hb.cell (p:=⟨b,i,none⟩) hlt];exact h.1 i hi,fun i hi=>by rw [hb.frozen (p:=⟨b,i,none⟩) hlt];exact h.2 i hi⟩
theorem oQ {x y:Int} {L1 L2:List Int} {M1 M2:List Value} (r1:L1.length=32) (r2:L2.length=32) (e1:Hid (M1=L1.map (Value.int .u8))) (e2:Hid (M2=L2.map (Value.int .u8))) (CH:Hid (∀ w,Mds w→Calls Tryz.prog 76 #[.agg #[.int .u64 (l0 x),.int .u64 (l1 x),.int .u64 (l2 x),.int .u64 (l3 x),.int .u64 (l0 y),.int .u64 (l1 y),.int .u64 (l2 y),.int .u64 (l3 y),.bool false]] w fun e w'=>e = .returned (.int .i64 0)∧Below w.heap.size w w')) (C1:Hid (∀ w,Calls Tryz.prog 54 #[.agg #[.int .u64 (l0 x),.int .u64 (l1 x),.int .u64 (l2 x),.int .u64 (l3 x)]] w fun e w'=>e = .returned (.agg M1.toArray)∧Below w.heap.size w w')) (C2:Hid (∀ w,Calls Tryz.prog 54 #[.agg #[.int .u64 (l0 y),.int .u64 (l1 y),.int .u64 (l2 y),.int .u64 (l3 y)]] w fun e w'=>e = .returned (.agg M2.toArray)∧Below w.heap.size w w')) (w:World) (hm:Mds w) :
    Calls Tryz.prog 41 #[.agg #[.int .u64 (l0 x),.int .u64 (l1 x),.int .u64 (l2 x),.int .u64 (l3 x),.int .u64 (l0 y),.int .u64 (l1 y),.int .u64 (l2 y),.int .u64 (l3 y),.bool false]] w fun e w'=>∃ v,e = .returned (.tuple #[v,.int .i64 0])∧World.ownsRow w' w.heap.size 5 1 v 65 ((((4:Int) :: L1)++L2).map (Value.int .u8))∧Below w.heap.size w w':=by
  have k2:M2.length=32:=by rw [e2.out,List.length_map];exact r2
  obtain ⟨i0,hi,hz0,hz1,hz2⟩:=oO qc
  have k1:M1.length=32:=by rw [e1.out,List.length_map];exact r1
  go_enter Tryz.func41,Tryz.ntmps41
  go_wp2_with fail
  refine aa (fun W=>Below w.heap.size w W∧Mds W∧Pnt W w.heap.size x y false) ⟨by repeat (first|with_reducible exact Below.refl _ _|with_reducible refine Below.alloc ?_ (by first|omega|(simp;done)|(simp;omega)) _),hm.alloc _,Pnt.new rfl⟩ ?_
  rintro W ⟨B,hD,hP⟩
  with_reducible refine (CH.out _ hD).mono ?_
  rintro e w1 ⟨rfl,hb⟩
  replace B:=B.trans (hb.mono B.size)
  replace hD:=hD.keep hb;replace hP:=hP.keep hb
  clear hb W
  go_wp2_with fail
  refine aj (fun W=>Below w.heap.size w W∧Mds W∧Pnt W w.heap.size x y false) ⟨B,hD,hP⟩ ?_
  clear B hD hP
  rintro W ⟨B,hD,hP⟩
  clear hD
  refine d7 (A:=?AA) 6 (by kernel_rfl) (by kernel_rfl) rfl rfl rfl rfl (lm _ _ _) (lm _ _ _) (fun V hV=>?HH) (fun V V2 w1 hV hw hV2 hw2 hdd=>?TT)
  case HH =>
    have ghP:=(hP.keep hV).grown
    unfold Gr
    simp only [List.take_succ_cons,List.take_zero]
    repeat
      first
        | go_big_quiet_skip
        | (go_big_quiet_want;go_big_quiet_op;go_big_quiet_on)
        | (go_big_quiet_want
           go_big_quiet_op
           apply Exists.intro
           refine ⟨fun p=>?_,?_⟩
           · (first|(go_at_call 54;with_reducible exact Calls.regrown_of (C1.out _))|(go_at_call 54;with_reducible exact Calls.regrown_of (C2.out _)))
           go_big_quiet_on)
    refine wpQuiet_nil ?_
    exact rfl
  case TT =>
    have hb:=au hV hw
    have h5:=(Bts.new (List.replicate 32 0) 25 (W:=V) rfl).keep (by simp) hw
    have h6:=(Bts.new (List.replicate 32 0) 25 (W:=V2) rfl).keep (by simp) hw2
    have g5:w.heap.size≤V.heap.size:=Nat.le_trans B.size hV.size
    have g6:w.heap.size≤V2.heap.size:=Nat.le_trans B.size hV2.size
    replace B:=B.trans (hb.mono B.size)
    clear hb hw hw2 hV hV2 hP W
    generalize V.heap.size=b5 at *
    generalize V2.heap.size=b6 at *
    clear V V2
    have sz1:M1.toArray.size=32:=by rw [List.size_toArray];exact k1
    have sz2:M2.toArray.size=32:=by rw [List.size_toArray];exact k2
    have t1:=h5.there (k:=M1.toArray.size) (by rw [sz1];rfl)
    have t2:=World.there_setCells (h6.there (k:=M2.toArray.size) (by rw [sz2];rfl)) b5 0 M1
    have oc1:M1.toArray.all (·.oneCell')=true:=by rw [e1.out];exact bD L1
    have oc2:M2.toArray.all (·.oneCell')=true:=by rw [e2.out];exact bD L2
    have FF:Hid (Below w.heap.size w ((w1.setCells b5 0 M1).setCells b6 0 M2)∧Bts ((w1.setCells b5 0 M1).setCells b6 0 M2) b5 L1∧Bts ((w1.setCells b5 0 M1).setCells b6 0 M2) b6 L2):=by
      refine ⟨dv (dv B g5 _ _) g6 _ _,lj (by rw [←e1.out];exact World.rangeAt_setCells_apart (World.rangeAt_setCells_same _ _ _ _ (by simpa using t1)) _ _ _ (.inl hdd)) ?_,lj (by rw [←e2.out];exact World.rangeAt_setCells_same _ _ _ _ (by simpa using t2)) ?_⟩
      · rw [r1];exact (h5.2.cells_put _ _).cells_put _ _
      · rw [r2];exact (h6.2.cells_put _ _).cells_put _ _
    clear B h5 h6
    simp only [List.drop_succ_cons,List.drop_zero,Act.put,List.setIfInBounds_toArray,List.set_cons_zero,List.set_cons_succ]
    go_wp2_with (first|refine wpList_store_mid rfl 25 _ _ rfl b5 0 M1.toArray rfl rfl t1 (by rw [sz1];kernel_rfl) oc1 ?_|((refine wpList_store_mid rfl 25 _ _ rfl b6 0 M2.toArray rfl rfl t2 (by rw [sz2];kernel_rfl) oc2 ?_);(refine aB (fun W=>Below w.heap.size w W∧Bts W b5 L1∧Bts W b6 L2) FF.out ?_);(clear FF t1 t2 oc1 oc2 sz1 sz2);(rintro W ⟨B,hA,hB⟩);(have HO:=fun o=>hA.alloc (by rw [r1];decide) o);(have sB:=B.size);(have sA:∀ o,w.heap.size≤(W.alloc o).heap.size:=(fun o=>by simp;omega));(have BB:Hid (Below w.heap.size w W∧Bts W b6 L2∧b6<W.heap.size):=⟨B,hB,hB.1.lt (by rw [r2];decide)⟩);(clear B hA hB))|(at_builtin;(refine wpList_append_own_at _ rfl _ _ 36 rfl w.heap.size 5 i0 (.int .u8 0) 1 1 Tryz.underlying36 hi hz0 hz1 hz2 rfl (by decide) (.slice (some ⟨W.heap.size,0,none⟩) 1 1) 1 [.int .u8 4] rfl (uR sB) ⟨b5,0,none⟩ 32 32 M1 rfl (by rw [Nat.mul_one];exact k1) (oP e1.out (HO _)) (fun u hu=>by rw [e1.out] at hu;obtain ⟨z,_,rfl⟩:=List.mem_map.1 hu;rfl) (by unfold maxLen;decide) (by decide) (sA _) ?_);(intro v' w5 hown' hgrow5 hnil5 hblk5);(have HR:Hid (World.ownsRow w5 w.heap.size 5 1 v' 33 (((4:Int) :: L1).map (Value.int .u8))∧Below w.heap.size w w5∧Bts w5 b6 L2):=⟨(by rw [e1.out] at hown';exact hown'),(BB.out.1.alloc BB.out.1.size _).grown hgrow5 (sA _) (fun k hk=>by cases hk;exact sB),(BB.out.2.1.alloc (by rw [r2];decide) _).belowC BB.out.2.2 ((Below.refl _ _).grown hgrow5 (by simp) (fun k hk=>by cases hk;exact Nat.le_refl _))⟩);(clear hown' hgrow5 hnil5 hblk5))|(at_builtin;(refine wpList_append_own_at _ rfl _ _ 36 rfl w.heap.size 5 i0 (.int .u8 0) 1 1 Tryz.underlying36 hi hz0 hz1 hz2 rfl (by decide) v' 33 (((4:Int) :: L1).map (Value.int .u8)) rfl HR.out.1 ⟨b6,0,none⟩ 32 32 M2 rfl (by rw [Nat.mul_one];exact k2) (oP e2.out HR.out.2.2) (fun u hu=>by rw [e2.out] at hu;obtain ⟨z,_,rfl⟩:=List.mem_map.1 hu;rfl) (by unfold maxLen;decide) (by decide) HR.out.2.1.size ?_);(intro v2 w6 hown2 hgrow6 hnil6 hblk6)))
    have HZ:Hid (World.ownsRow w6 w.heap.size 5 1 v2 65 ((((4:Int) :: L1)++L2).map (Value.int .u8))∧Below w.heap.size w w6):=⟨by rw [e2.out] at hown2;rw [List.map_append];exact hown2,HR.out.2.1.grown hgrow6 HR.out.2.1.size (fun k hk=>(HR.out.1.lt k hk).1)⟩
    clear hown2 hgrow6 hnil6 hblk6
    go_wp2
    simp [bodyPost,results,Tryz.results41,go_sem]
    have:=HZ.out
    simpa using this
open Go.RowKit Go.Sort
theorem mD {X Y:Int} (h:Vd X Y false):dA X∧dt (oddB Y) X=Y:=by
 obtain ⟨lx,ly,on⟩:=h
 have lc:EC.Low (bV X):=cQ am _
 have e:ac pN (Y*Y)=bV X:=by
  refine EC.fp_inj (cQ am _) lc ?_
  have on':EC.fp Y*EC.fp Y=EC.fp X*EC.fp X*EC.fp X+7:=on
  unfold bV
  simp only [EC.fp_mod,EC.fp_mul,EC.fp_add]
  rw [show EC.fp 7=7 by decide +kernel]
  exact on'
 obtain ⟨s1,s2,s3,s4,s5⟩:=rZ ly.1
 rw [e] at s1 s2 s3 s4 s5
 have ok:dA X:=⟨lx.2,s1⟩
 refine ⟨ok,?_⟩
 have hY:ac pN Y=Y:=cw ly.1 ly.2
 rw [hY] at s2
 have o0:oddB (bG (bV X))=false:=by
  unfold oddB ij
  simp
  omega
 unfold dt
 rw [if_pos ok]
 rcases s2 with s2|s2
 ·rw [s2] at o0
  rw [o0,s2]
  rfl
 ·have hr:Vd X (bG (bV X)) false:=by
   have:=nk lx.num ok false
   rwa [show dt false X=bG (bV X) by unfold dt;rw [if_pos ok];rfl] at this
  have t:=lg hr
  rw [s2,o0] at t
  rw [t,s2]
  rfl
theorem yw {key:Int} (h0:0<key) (h1:key<nN):EC.smul key.toNat EC.gJ.pt≠.o:=fun e=>by
 have:=EC.base_g.inj (i:=key.toNat) (j:=0) (by rw [EC.nN_is] at h1;omega) (by decide) e
 omega
theorem uT {r s e key k:Int} {G:EC.Pt} (hG:EC.On G) (hr:0≤r) (hz:ac nN r≠0) (h:ac nN (s*k)=ac nN (e+r*key)) {B C:Int} (hB:ac nN (r*B)=ac nN (0-e)) (hC:ac nN (r*C)=ac nN s):(sm B G).add (sm C (sm k G))=sm key G:=by
 rw [←yv hG,←yu hG]
 refine uO ?_
 have i:=EC.inv_n hr hz
 have a:ac nN (r*(B+C*k))=ac nN (r*key):=by
  rw [Int.mul_add,←Int.mul_assoc,←iq,hB,iq,←dW,←cu,hC,cu,h,dW]
  congr 1
  omega
 have b:=congrArg (fun z=>ac nN (aR nN r*z)) a
 simp only [cv] at b
 rw [←Int.mul_assoc,←Int.mul_assoc,←cu,Int.mul_comm (aR nN r),i,Int.one_mul] at b
 rw [b,←cu,i,Int.one_mul]
end Go.Proofs.YtnnnaajgjniiaaaGreatDoor
