import Derived.Test.YtjoandmehahfgaaGreatDoorAb
import Derived.Test.YtjoandmehahfgaaGreatDoorNzD
import Derived.Test.YtjoandmehahfgaaGreatDoorSPad
import Derived.Test.YtjoandmehahfgaaGreatDoorTail
import Derived.Laws.OwnMore
import Derived.Test.YtjoandmehahfgaaGreatDoorSComp
import Derived.Deep.AppendLies
import Derived.Test.YtjoandmehahfgaaGreatDoorSBase
import Derived.Test.YtjoandmehahfgaaGreatDoorSTx
import Derived.Test.YtjoandmehahfgaaGreatDoorSRLaw
import Derived.Test.YtjoandmehahfgaaGreatDoorGet
import Derived.Test.YtjoandmehahfgaaGreatDoorFExp
import Derived.Test.YtjoandmehahfgaaGreatDoorLen
import Derived.Test.YtjoandmehahfgaaGreatDoorMul2
import Derived.Test.YtjoandmehahfgaaGreatDoorFList
import Derived.Maps.AppendAt
import Derived.Test.YtjoandmehahfgaaGreatDoorESW
import Derived.Test.YtjoandmehahfgaaGreatDoorCLaid
import Derived.Test.YtjoandmehahfgaaGreatDoorCSumK
import Derived.Test.YtjoandmehahfgaaGreatDoorRefNum
import Derived.Test.YtjoandmehahfgaaGreatDoorAdd
import Derived.Deep.LoopGhost
import Derived.Laws.EntriesVeiled
set_option maxRecDepth 100000
set_option maxHeartbeats 8000000
namespace Go.Proofs.YtjoandmehahfgaaGreatDoor
open Go.RowKit Go.Sort
noncomputable def wF (key:Int) (A:List Int) (wh:Int):Int:=if wh<0∨64≤wh then 0 else if co key then nzV (cP (stZ key (ab nN (bF A 32)))) wh.toNat else 0
noncomputable def qk (key:Int) (A:List Int) (wh:Int):Int:=if wh<0∨64≤wh then 1 else if co key then nzE (cP (stZ key (ab nN (bF A 32)))) wh.toNat else 60
theorem wG {key wh:Int} {A:List Int} (hk:Num key) (hA:iu A) (hl:A.length=32) (w:World) (hm:Mds w) (ht:ShT w) :
  Rt 23 #[U4 key,cn A,.int .i64 wh] w (.tuple #[U4 (wF key A wh),.int .i64 (qk key A wh)]):=by
 unfold wF qk
 by_cases hb:wh<0∨64≤wh
 ·rw [if_pos hb,if_pos hb]
  exact wC hl hb w
 ·rw [if_neg hb,if_neg hb]
  obtain ⟨n,rfl⟩:=Int.eq_ofNat_of_zero_le (show 0≤wh by omega)
  have hn:n<64:=by omega
  have IN:=cK hk
  cases hf:co key with
  | false =>
   rw [hf] at IN
   exact wE hl hn IN w hm ht
  | true =>
   rw [hf] at IN
   rw [if_pos rfl,if_pos rfl,show ((n:Int)).toNat=n from rfl]
   exact zl hl hn rfl IN (fun w hm=>iD hA hl w hm) rfl rfl w hm ht
theorem Bo {s:KvZ} {n:Nat}:Num (nzV (cP s) n):=by
 unfold nzV
 cases h:pkZ (cP s) n 256 with
 | none=>exact ⟨by decide,by decide⟩
 | some x=>exact ux (rL s) h
theorem rQ (key:Int) (A:List Int) (wh:Int):Num (wF key A wh):=by
 unfold wF
 split
 ·exact ⟨by decide,by decide⟩
 ·split
  ·exact Bo
  ·exact ⟨by decide,by decide⟩
open Go.RowKit Go.Sort
theorem pn (key:Int) (A:List Int) (non:Int):∃ R:SwR,∃ X Y j,Vd X Y j∧bD X Y j=EC.smul non.toNat EC.gJ.pt∧R=swR key non A X Y:=by
 obtain ⟨X,Y,j,hv,ev⟩:=yo (EC.smul_on EC.gJ_on non.toNat)
 exact ⟨_,X,Y,j,hv,ev,rfl⟩
noncomputable def swZ (key:Int) (A:List Int) (non:Int):SwR:=Classical.choose (pn key A non)
theorem zm (key:Int) (A:List Int) (non:Int):∃ X Y j,Vd X Y j∧bD X Y j=EC.smul non.toNat EC.gJ.pt∧swZ key A non=swR key non A X Y:=Classical.choose_spec (pn key A non)
theorem Db {key non:Int} {A:List Int} (hk:Num key) (hn:Num non) (hA:iu A) (hl:A.length=32) (w:World) (hm:Mds w) (hc:ar w) :
  Rt 24 #[U4 key,U4 non,cn A] w (.tuple #[.agg #[.int .u64 (l0 (swZ key A non).r),.int .u64 (l1 (swZ key A non).r),.int .u64 (l2 (swZ key A non).r),.int .u64 (l3 (swZ key A non).r),.int .u64 (l0 (swZ key A non).s),.int .u64 (l1 (swZ key A non).s),.int .u64 (l2 (swZ key A non).s),.int .u64 (l3 (swZ key A non).s),.bool (swZ key A non).o],.int .i64 (swZ key A non).e]):=by
 obtain ⟨X,Y,j,hv,ev,e⟩:=zm key A non
 rw [e]
 exact AV hk hn hA hl hv ev w hm hc
noncomputable def sgZ (key:Int) (A:List Int) (i:Nat):SwR:=if qk key A i=0 then swZ key A (wF key A i) else ⟨0,0,false,qk key A i⟩
noncomputable def fsZ (R:Nat→SwR):Nat→Option SwR
 | 0=>none
 | n+1=>(fsZ R n).or (if (R n).e=0 then some (R n) else none)
theorem rR {R:Nat→SwR} {n:Nat} {x:SwR} (h:fsZ R n=some x):∀ d,fsZ R (n+d)=some x
 | 0=>h
 | d+1=>by rw [←Nat.add_assoc,fsZ,rR h d];rfl
theorem zp {R:Nat→SwR} {n:Nat} (h:fsZ R n=none) (e:(R n).e=0):fsZ R (n+1)=some (R n):=by rw [fsZ,h,if_pos e];rfl
theorem Bp {R:Nat→SwR} {n:Nat} (h:fsZ R n=none) (e:(R n).e≠0):fsZ R (n+1)=none:=by rw [fsZ,h,if_neg e];rfl
noncomputable def lQ (R:Nat→SwR):SwR:=(fsZ R 64).getD ⟨0,0,false,65⟩
theorem pp {R:Nat→SwR} {n:Nat} {x:SwR} (h:fsZ R n=some x) (hn:n≤64):lQ R=x:=by
 have:=rR h (64-n)
 rw [show n+(64-n)=64 by omega] at this
 rw [lQ,this];rfl
theorem pq {R:Nat→SwR} (h:fsZ R 64=none):lQ R=⟨0,0,false,65⟩:=by rw [lQ,h];rfl
theorem zq {key v f r s e0:Int} {o:Bool} {i bk bd:Nat} {M:List Value} (hl:M.length=32)
  (CN:Hid (∀ w,Mds w→ShT w→Rt 23 #[U4 key,.agg M.toArray,.int .i64 (i:Int)] w (.tuple #[U4 v,.int .i64 f])))
  (CS:Hid (f=0→∀ w,Mds w→ar w→Rt 24 #[U4 key,U4 v,.agg M.toArray] w (.tuple #[P9 r s o,.int .i64 e0])))
  (h0:Hid (f≠0→r=0∧s=0∧o=false∧e0=f)) (w:World) (hm:Mds w) (ht:ShT w) (hc:ar w) (hk:ae w bk key) (hd:w.rangeAt bd 0 M) :
  Rt 22 #[.int .i64 (i:Int),.pointer (some ⟨bk,0,none⟩),.pointer (some ⟨bd,0,none⟩)] w (.tuple #[P9 r s o,.int .i64 e0]):=by
 have il:(Tryz.prog.info? 47).map (·.size)=some M.length:=by rw [hl];kernel_rfl
 have BA:Hid (∀ (V:World) o,Below V.heap.size V (V.alloc o)):=fun V o=>(Below.refl _ _).alloc (Nat.le_refl _) o
 have H0:Hid (Mds w∧ShT w∧ar w∧ae w bk key∧w.rangeAt bd 0 M∧bk<w.heap.size):=⟨hm,ht,hc,hk,hd,World.block_lt_of_cell? w _ hk.1⟩
 have gk:=fun o=>(hk.keep (BA.out w o)).cells
 have rg:=fun o=>iR hd (BA.out w o)
 clear hm ht hc hk hd hl
 go_enter Tryz.func22,Tryz.ntmps22
 go_wp2_with (refine wpList_load_mid rfl 47 _ rfl bd 0 rfl M _ (rg _) Tryz.underlying47 rfl il ?_)
 refine aa (fun W=>Below w.heap.size w W∧Bk9 W w.heap.size) ⟨BA.out _ _,Bk9.new rfl⟩ ?_
 rintro W ⟨B,hR⟩
 refine (CN.out W (H0.out.1.keep B) (H0.out.2.1.keep B)).mono ?_
 rintro e w2 ⟨rfl,hb⟩
 replace B:=B.trans (hb.mono B.size)
 replace hR:=hR.keep hb
 clear hb gk rg
 clear W
 have lr:=hR.lt
 have o3:w.heap.size≤w.heap.size:=Nat.le_refl _
 by_cases hf:f=0
 ·subst hf
  have CS':Hid (∀ w,Mds w→ar w→Rt 24 #[U4 key,U4 v,.agg M.toArray] w (.tuple #[P9 r s o,.int .i64 e0])):=CS.out rfl
  have gk:=fun o=>((H0.out.2.2.2.1.keep B).keep (BA.out _ o)).cells
  have gk0:=(H0.out.2.2.2.1.keep B).cells
  have rg:=fun o=>iR (iR H0.out.2.2.2.2.1 B) (BA.out _ o)
  have nbk:bk≠w2.heap.size:=by have:=H0.out.2.2.2.2.2;have:=B.size;omega
  have H2:Hid (Below w.heap.size w w2∧Bk9 w2 w.heap.size):=⟨B,hR⟩
  clear B hR CS h0 CN
  go_wp2_with (refine wpList_load_mid rfl 47 _ rfl bd 0 rfl M _ (rg _) Tryz.underlying47 rfl il ?_)
  refine aa (fun W=>Below w2.heap.size w2 W) (BA.out _ _) ?_
  rintro W B2
  have B3:=H2.out.1.trans (B2.mono H2.out.1.size)
  refine (CS'.out W (H0.out.1.keep B3) (H0.out.2.2.1.keep B3)).mono ?_
  rintro e w4 ⟨rfl,hb⟩
  have B4:=B3.trans (hb.mono B3.size)
  have hR4:=(H2.out.2.keep B2).keep hb
  have gR:=hR4.cells
  have fR:=hR4.free
  clear hb B3 B2 hR4 gk gk0 rg nbk CS' H2 il H0
  clear W
  go_wp2
  simp [bodyPost,results,Tryz.results22,go_sem,gR]
  repeat (first|with_reducible exact B4|with_reducible refine Below.setCell ?_ o3 _)
 ·obtain ⟨rfl,rfl,rfl,rfl⟩:=h0.out hf
  obtain ⟨z0,z1,z2,z3⟩:=ap
  have hf1:(e0==0)=false:=by simpa using hf
  have hf2:(e0 != 0)=true:=by simpa using hf
  have gR:=fun o=>(hR.alloc o).cells
  have fR:=fun o=>(hR.alloc o).free
  have gR1:=hR.cells
  have fR1:=hR.free
  have nr:w2.heap.size≠w.heap.size:=by omega
  have nr':=nr.symm
  clear hR CS CN il H0 BA
  go_wp2
  simp [bodyPost,results,Tryz.results22,go_sem, *]
  repeat (first|with_reducible exact B|with_reducible refine Below.alloc ?_ (by first|exact B.size|(simp;exact B.size)) _|with_reducible refine Below.setCell ?_ o3 _)
open Go.RowKit Go.Sort
theorem wH {R:Nat→SwR} {bk bd:Nat} {x:SwR} (hx:lQ R=x) (w:World)
  (CL:Hid (∀ (i:Nat) (W:World),Below w.heap.size w W→Calls Tryz.prog 22 #[.int .i64 (i:Int),.pointer (some ⟨bk,0,none⟩),.pointer (some ⟨bd,0,none⟩)] W fun e w'=>e = .returned (.tuple #[.agg #[.int .u64 (l0 (R i).r),.int .u64 (l1 (R i).r),.int .u64 (l2 (R i).r),.int .u64 (l3 (R i).r),.int .u64 (l0 (R i).s),.int .u64 (l1 (R i).s),.int .u64 (l2 (R i).s),.int .u64 (l3 (R i).s),.bool (R i).o],.int .i64 (R i).e])∧Below W.heap.size W w')) :
  Calls Tryz.prog 21 #[.func (.func 22) #[] #[.pointer (some ⟨bk,0,none⟩),.pointer (some ⟨bd,0,none⟩)]] w fun e w'=>e = .returned (.tuple #[.agg #[.int .u64 (l0 x.r),.int .u64 (l1 x.r),.int .u64 (l2 x.r),.int .u64 (l3 x.r),.int .u64 (l0 x.s),.int .u64 (l1 x.s),.int .u64 (l2 x.s),.int .u64 (l3 x.s),.bool x.o],.int .i64 x.e])∧Below w.heap.size w w':=by
 have HX:Hid (lQ R=x):=hx
 have o3:w.heap.size≤w.heap.size:=Nat.le_refl _
 clear hx
 obtain ⟨z0,z1,z2,z3⟩:=ap
 go_enter Tryz.func21,Tryz.ntmps21
 go_wp2_with fail
 refine ah (fun W=>Below w.heap.size w W∧Bk9 W w.heap.size) ⟨(Below.refl _ _).alloc (Nat.le_refl _) _,Bk9.new rfl⟩ ?_
 rintro W0 HW
 go_loopg [7] 64 (fun k iv wr=>∃ i:Nat,k=64-i∧i≤64∧iv = .int .i64 (i:Int)∧fsZ R i=none∧Below w.heap.size w wr∧Bk9 wr w.heap.size)
 case atStart=>exact ⟨0,rfl,Nat.zero_le _,rfl,rfl,HW.1,HW.2⟩
 case round =>
  clear HW
  obtain ⟨i,hk,hi,rfl,hp,hB,hR⟩:=hrel
  have HK:Hid (gk=64-i):=hk
  have HP:Hid (fsZ R i=none∧Below w.heap.size w wr∧Bk9 wr w.heap.size):=⟨hp,hB,hR⟩
  clear hk hp hB hR
  by_cases h8:i=64
  ·subst h8
   have gR:=HP.out.2.2.cells
   have fR:=HP.out.2.2.free
   have ex:x=⟨0,0,false,65⟩:=by rw [←HX.out];exact pq HP.out.1
   subst ex
   have B4:=HP.out.2.1
   go_wp2
   simp [bodyPost,results,Tryz.results21,go_sem,gR]
   repeat (first|with_reducible exact B4|with_reducible refine Below.setCell ?_ o3 _)
  ·have hi':(i:Int)<64:=by omega
   have C1:=CL.out i
   have H1:Hid (∀ y,y=R i→y.e=0→lQ R=y):=fun y e h=>by rw [e] at h ⊢; exact pp (zp HP.out.1 h) (by omega)
   have H2:Hid ((R i).e≠0→fsZ R (i+1)=none):=fun h=>Bp HP.out.1 h
   obtain ⟨y,ey⟩:∃ y,y=R i:=⟨_,rfl⟩
   rw [←ey] at C1 H2
   replace H1:Hid (y.e=0→lQ R=y):=H1.out y ey
   clear ey
   go_wp2_with fail
   refine (C1 wr HP.out.2.1).mono ?_
   rintro e w2 ⟨rfl,hb⟩
   have B:=HP.out.2.1.trans (hb.mono HP.out.2.1.size)
   have hR:=HP.out.2.2.keep hb
   clear hb C1
   have lr:=hR.lt
   by_cases he:y.e=0
   ·have ex:x=y:=by rw [←HX.out];exact H1.out he
    subst ex
    have gR:=fun o=>(hR.alloc o).cells
    have fR:=fun o=>(hR.alloc o).free
    have gR1:=hR.cells
    have fR1:=hR.free
    have nr:w2.heap.size≠w.heap.size:=by omega
    have nr':=nr.symm
    clear hR HP H1 H2 HX
    go_wp2
    simp [bodyPost,results,Tryz.results21,go_sem, *]
    repeat (first|with_reducible exact B|with_reducible refine Below.alloc ?_ (by first|exact B.size|(simp;exact B.size)) _|with_reducible refine Below.setCell ?_ o3 _)
   ·have H3:Hid (fsZ R (i+1)=none):=H2.out he
    have he1:(y.e==0)=false:=by simpa using he
    have HF:Hid (Below w.heap.size w w2∧Bk9 w2 w.heap.size):=⟨B,hR⟩
    clear B hR H1 H2
    generalize y.e=f at *
    go_wp2
    go_roundg (64-(i+1))
    case measure=>have:=HK.out;omega
    case rel=>exact ⟨i+1,rfl,by omega,by go_num,H3.out,HF.out.1.alloc HF.out.1.size _,HF.out.2.alloc _⟩
structure SnZ (w W:World) (key:Int) (M:List Value):Prop where
 below:Below w.heap.size w W
 mds:Mds W
 tab:ShT W
 col:ar W
 key:ae W w.heap.size key
 dig:W.rangeAt (w.heap.size+1) 0 M
 res:Bk9 W (w.heap.size+1+1)
theorem SnZ.keep {w W W':World} {key:Int} {M:List Value} (h:SnZ w W key M) (B:Below W.heap.size W W'):SnZ w W' key M:=⟨h.below.trans (B.mono h.below.size),h.mds.keep B,h.tab.keep B,h.col.keep B,h.key.keep B,iR h.dig B,h.res.keep B⟩
theorem uB {w:World} {key:Int} {M:List Value} {t1 t2 t3:TypeId} (hm:Mds w) (ht:ShT w) (hc:ar w):SnZ w (((w.alloc (.cells #[.int .u64 (l0 key),.int .u64 (l1 key),.int .u64 (l2 key),.int .u64 (l3 key)] t1)).alloc (.cells M.toArray t2)).alloc (.cells #[.int .u64 0,.int .u64 0,.int .u64 0,.int .u64 0,.int .u64 0,.int .u64 0,.int .u64 0,.int .u64 0,.bool false] t3)) key M:=by
 have BA:∀ (V:World) o,Below V.heap.size V (V.alloc o):=fun V o=>(Below.refl _ _).alloc (Nat.le_refl _) o
 refine ⟨?_,((hm.alloc _).alloc _).alloc _,((ht.keep (BA _ _)).keep (BA _ _)).keep (BA _ _),((hc.keep (BA _ _)).keep (BA _ _)).keep (BA _ _),((ae.new _ _ _).keep (BA _ _)).keep (BA _ _),?_,Bk9.new (by simp)⟩
 ·exact (((Below.refl _ _).alloc (Nat.le_refl _) _).alloc (by simp) _).alloc (by simp;omega) _
 ·have:=ov (W:=w.alloc (.cells #[.int .u64 (l0 key),.int .u64 (l1 key),.int .u64 (l2 key),.int .u64 (l3 key)] t1)) (cs:=M) (t:=t2)
  rw [show (w.alloc (.cells #[.int .u64 (l0 key),.int .u64 (l1 key),.int .u64 (l2 key),.int .u64 (l3 key)] t1)).heap.size=w.heap.size+1 by simp] at this
  exact iR this (BA _ _)
theorem zt {key:Int} {M:List Value} (hl:M.length=32) (IN:Hid (∀ w,Mds w→Calls Tryz.prog 20 #[.agg #[.int .u64 (l0 key),.int .u64 (l1 key),.int .u64 (l2 key),.int .u64 (l3 key)]] w fun e w'=>e = .returned (.bool false)∧Below w.heap.size w w')) (w:World) (hm:Mds w) (ht:ShT w) (hc:ar w) :
  Calls Tryz.prog 11 #[.agg #[.int .u64 (l0 key),.int .u64 (l1 key),.int .u64 (l2 key),.int .u64 (l3 key)],.agg M.toArray] w fun e w'=>e = .returned (.tuple #[.agg #[.int .u64 (l0 0),.int .u64 (l1 0),.int .u64 (l2 0),.int .u64 (l3 0),.int .u64 (l0 0),.int .u64 (l1 0),.int .u64 (l2 0),.int .u64 (l3 0),.bool false],.int .i64 60])∧Below w.heap.size w w':=by
 have HL:Hid (M.length=32):=hl
 clear hl
 obtain ⟨z0,z1,z2,z3⟩:=ap
 go_enter Tryz.func11,Tryz.ntmps11
 go_wp2_with fail
 refine aa (fun W=>SnZ w W key M) (uB hm ht hc) ?_
 clear hm ht hc
 rintro W HW
 with_reducible refine (IN.out _ HW.mds).mono ?_
 rintro e w2 ⟨rfl,hb⟩
 have H2:=HW.keep hb
 clear hb HW
 have gR:=H2.res.cells
 have fR:=H2.res.free
 have B9:=H2.below
 have o3:w.heap.size≤w.heap.size+1+1:=by omega
 clear H2
 generalize w.heap.size+1+1=br at *
 go_wp2
 simp [bodyPost,results,Tryz.results11,go_sem, *]
 repeat (first|with_reducible exact B9|with_reducible refine Below.setCell ?_ o3 _)
theorem Bq {R:Nat→SwR} {x:SwR} {key:Int} {M:List Value} (hl:M.length=32) (hx:lQ R=x) (IN:Hid (∀ w,Mds w→Calls Tryz.prog 20 #[.agg #[.int .u64 (l0 key),.int .u64 (l1 key),.int .u64 (l2 key),.int .u64 (l3 key)]] w fun e w'=>e = .returned (.bool true)∧Below w.heap.size w w'))
  (CL:Hid (∀ (i bk bd:Nat) (W:World),Mds W→ShT W→ar W→ae W bk key→W.rangeAt bd 0 M→Calls Tryz.prog 22 #[.int .i64 (i:Int),.pointer (some ⟨bk,0,none⟩),.pointer (some ⟨bd,0,none⟩)] W fun e w'=>e = .returned (.tuple #[.agg #[.int .u64 (l0 (R i).r),.int .u64 (l1 (R i).r),.int .u64 (l2 (R i).r),.int .u64 (l3 (R i).r),.int .u64 (l0 (R i).s),.int .u64 (l1 (R i).s),.int .u64 (l2 (R i).s),.int .u64 (l3 (R i).s),.bool (R i).o],.int .i64 (R i).e])∧Below W.heap.size W w'))
  (w:World) (hm:Mds w) (ht:ShT w) (hc:ar w) :
  Calls Tryz.prog 11 #[.agg #[.int .u64 (l0 key),.int .u64 (l1 key),.int .u64 (l2 key),.int .u64 (l3 key)],.agg M.toArray] w fun e w'=>e = .returned (.tuple #[.agg #[.int .u64 (l0 x.r),.int .u64 (l1 x.r),.int .u64 (l2 x.r),.int .u64 (l3 x.r),.int .u64 (l0 x.s),.int .u64 (l1 x.s),.int .u64 (l2 x.s),.int .u64 (l3 x.s),.bool x.o],.int .i64 x.e])∧Below w.heap.size w w':=by
 have HL:Hid (M.length=32∧lQ R=x):=⟨hl,hx⟩
 clear hl hx
 go_enter Tryz.func11,Tryz.ntmps11
 go_wp2_with fail
 refine aa (fun W=>SnZ w W key M) (uB hm ht hc) ?_
 clear hm ht hc
 rintro W HW
 with_reducible refine (IN.out _ HW.mds).mono ?_
 rintro e w2 ⟨rfl,hb⟩
 have H2:=HW.keep hb
 clear hb HW IN
 clear W
 go_wp2_with fail
 refine (wH HL.out.2 w2 (fun i W b=>CL.out i _ _ W (H2.mds.keep b) (H2.tab.keep b) (H2.col.keep b) (H2.key.keep b) (iR H2.dig b))).mono ?_
 rintro e w3 ⟨rfl,hb⟩
 have H3:=H2.keep hb
 have gR:=H3.res.cells
 have fR:=H3.res.free
 have B9:=H3.below
 have o3:w.heap.size≤w.heap.size+1+1:=by omega
 clear H3 H2 hb CL
 clear w2
 generalize w.heap.size+1+1=br at *
 go_wp2
 simp [bodyPost,results,Tryz.results11,go_sem,gR]
 repeat (first|with_reducible exact B9|with_reducible refine Below.setCell ?_ o3 _)
open Go.RowKit Go.Sort
noncomputable def dC (key:Int) (A:List Int):SwR:=if co key then lQ (sgZ key A) else ⟨0,0,false,60⟩
theorem uC {key:Int} {A:List Int} {i:Nat} (h:qk key A i≠0):sgZ key A i=⟨0,0,false,qk key A i⟩:=by unfold sgZ;rw [if_neg h]
theorem zu {key:Int} {A:List Int} {i:Nat} (h:qk key A i=0):sgZ key A i=swZ key A (wF key A i):=by unfold sgZ;rw [if_pos h]
theorem zv {key:Int} {A:List Int} (hk:Num key) (hA:iu A) (hl:A.length=32) (w:World) (hm:Mds w) (ht:ShT w) (hc:ar w) :
  Calls Tryz.prog 11 #[.agg #[.int .u64 (l0 key),.int .u64 (l1 key),.int .u64 (l2 key),.int .u64 (l3 key)],cn A] w fun e w'=>e = .returned (.tuple #[.agg #[.int .u64 (l0 (dC key A).r),.int .u64 (l1 (dC key A).r),.int .u64 (l2 (dC key A).r),.int .u64 (l3 (dC key A).r),.int .u64 (l0 (dC key A).s),.int .u64 (l1 (dC key A).s),.int .u64 (l2 (dC key A).s),.int .u64 (l3 (dC key A).s),.bool (dC key A).o],.int .i64 (dC key A).e])∧Below w.heap.size w w':=by
 have hM:(A.map fun z=>Value.int .u8 z).length=32:=by rw [List.length_map];exact hl
 have IN:=cK hk
 cases hf:co key with
 | false =>
  rw [hf] at IN
  rw [show dC key A=⟨0,0,false,60⟩ by unfold dC;rw [hf];rfl]
  exact zt hM IN w hm ht hc
 | true =>
  rw [hf] at IN
  rw [show dC key A=lQ (sgZ key A) by unfold dC;rw [hf];rfl]
  refine Bq hM rfl IN (fun i bk bd W hm ht hc hk' hd=>?_) w hm ht hc
  exact zq hM (fun w hm ht=>wG hk hA hl w hm ht) (fun h w hm hc=>by rw [zu h];exact Db hk (rQ _ _ _) hA hl w hm hc) (fun h=>by rw [uC h];exact ⟨rfl,rfl,rfl,rfl⟩) W hm ht hc hk' hd
open Go.RowKit Go.Sort
theorem rS {key X s k x y:Int} {o:Bool} {A:List Int} (hk:Num key) (hl:A.length=32) (hA:iu A) (nX:Num X) (fx:co X=true) (s0:0<s) (s1:s<nN) (lo:lowN s=true) (h2:d7 X)
  (eR:bD X (dW o X) false=sm k EC.gJ.pt) (hrel:ab nN (s*k)=ab nN (dgN A+X*key)) (hp:Vd x y false) (ep:bD x y false=EC.smul key.toNat EC.gJ.pt) :
  ∀ w,Mds w→ar w→Rt 13 #[cn A,P9 X s o] w (.tuple #[P9 x y false,.int .i64 0]):=by
 have ns:Num s:=⟨by omega,by have:=tY.2;omega⟩
 have chk:mW X s=0:=by unfold mW;rw [fx,rq (by omega) s1,lo];simp
 obtain ⟨x0,x1⟩:=iK fx
 have hz:ab nN X≠0:=by rw [cO nX.1 x1];exact x0
 have onG:=EC.gJ_on
 have hvR:=qe nX h2 o
 have onR:=hvR.on
 have eQ:bD x y false=sm key EC.gJ.pt:=by rw [ep,lH onG hk.1]
 have ej:bD x y false=(EC.smul (sZ X A).toNat EC.gJ.pt).add (EC.smul (s8 X s).toNat (bD X (dW o X) false)):=by
  have b0:0≤sZ X A:=(dH (x:=ab nN (0-dgN A)*cQ nN X)).1
  have c0:0≤s8 X s:=(dH (x:=s*cQ nN X)).1
  rw [lH onG b0,lH onR c0,eR,yL onG nX.1 hz hrel (yH nX.1 hz) (yI nX.1 hz),eQ]
 exact ru (o:=o) nX ns hA hl chk h2 hp ej
theorem zw {key non x y:Int} {A:List Int} (hk:Num key) (hn:Num non) (hl:A.length=32) (hA:iu A) (h1:co key=true) (he:(swZ key A non).e=0) (hp:Vd x y false) (ep:bD x y false=EC.smul key.toNat EC.gJ.pt) :
  ∀ w,Mds w→ar w→Rt 13 #[cn A,.agg #[.int .u64 (l0 (swZ key A non).r),.int .u64 (l1 (swZ key A non).r),.int .u64 (l2 (swZ key A non).r),.int .u64 (l3 (swZ key A non).r),.int .u64 (l0 (swZ key A non).s),.int .u64 (l1 (swZ key A non).s),.int .u64 (l2 (swZ key A non).s),.int .u64 (l3 (swZ key A non).s),.bool (swZ key A non).o]] w (.tuple #[P9 x y false,.int .i64 0]):=by
 obtain ⟨X,Y,j,hv,ev,e⟩:=zm key A non
 rw [e] at he ⊢
 have nX:=hv.low.1.num
 cases h2:co non with
 | false =>
  have e2:swR key non A X Y=⟨0,0,false,60⟩:=by unfold swR;rw [h1,h2,Bool.and_false,if_pos rfl]
  rw [e2] at he
  exact absurd he (by decide)
 | true =>
  obtain ⟨n0,n1⟩:=iK h2
  have p0:0<non:=by have:=hn.1;omega
  have hz:ab nN non≠0:=by rw [cO hn.1 n1];exact n0
  have b0:swR key non A X Y=if ¬X<nN then ⟨0,0,false,64⟩ else if X=0∨swS key non (dgN A) X=0 then ⟨0,0,false,65⟩ else if lowN (swS key non (dgN A) X) then ⟨X,swS key non (dgN A) X,oddB Y,0⟩ else ⟨X,ab nN (0-swS key non (dgN A) X),!oddB Y,0⟩:=by
   unfold swR;rw [h1,h2,Bool.and_self,if_neg (by decide)]
  have sl:0≤swS key non (dgN A) X∧swS key non (dgN A) X<nN:=dH
  have hrel:ab nN (swS key non (dgN A) X*non)=ab nN (dgN A+X*key):=by
   unfold swS
   rw [AW hn.1 hz (iB _),fc]
  rw [b0] at he ⊢
  clear b0 e
  generalize swS key non (dgN A) X=s at *
  by_cases c1:X<nN
  ·rw [if_neg (not_not_intro c1)] at he ⊢
   by_cases c2:X=0∨s=0
   ·rw [if_pos c2] at he
    exact absurd he (by decide)
   ·rw [if_neg c2] at he ⊢
    have x1:X≠0:=fun e=>c2 (.inl e)
    have s0:0<s:=by have h:s≠0:=fun e=>c2 (.inr e);omega
    have fr:=rq x1 c1
    have hj:j=false:=by
     cases j with
     | false=>rfl
     | true=>exact absurd hv.1 x1
    subst hj
    obtain ⟨lk,ly⟩:=pb hv
    cases h5:lowN s with
    | true =>
     rw [if_pos rfl]
     exact rS hk hl hA nX fr s0 sl.2 h5 lk (by rw [ly,ev,lH EC.gJ_on hn.1]) hrel hp ep
    | false =>
     rw [if_neg (by decide)]
     obtain ⟨hv',ev'⟩:=um hv
     obtain ⟨_,ly'⟩:=pb hv'
     rw [nU hv] at ly'
     have e2:=lG s0 sl.2
     have lh:lowN (ab nN (0-s))=true:=by rw [sY s0 sl.2,h5];rfl
     exact rS (k:=0-non) (X:=X) (s:=ab nN (0-s)) (o := !oddB Y) hk hl hA nX fr (by rw [e2];have:=sl.2;omega) (by rw [e2];omega) lh lk (by rw [ly',ev',ev,←wa p0 n1];rfl) (by rw [cM,show (0-s)*(0-non)=s*non by rw [Int.zero_sub,Int.zero_sub,Int.neg_mul_neg],hrel]) hp ep
  ·rw [if_pos c1] at he
   exact absurd he (by decide)
theorem wI {key:Int} (hk:Num key) (h1:co key=true):∃ x y,Vd x y false∧bD x y false=EC.smul key.toNat EC.gJ.pt:=by
 obtain ⟨q0,q1⟩:=iK h1
 obtain ⟨x,y,i,hp,ep⟩:=yo (EC.smul_on EC.gJ_on key.toNat)
 cases i with
 | false=>exact ⟨x,y,hp,ep⟩
 | true=>exact absurd ep.symm (CI (by have:=hk.1;omega) q1)
end Go.Proofs.YtjoandmehahfgaaGreatDoor
