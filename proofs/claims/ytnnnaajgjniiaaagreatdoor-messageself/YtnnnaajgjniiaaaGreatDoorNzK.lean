import Derived.Test.YtnnnaajgjniiaaaGreatDoorNzD
import Derived.Test.YtnnnaajgjniiaaaGreatDoorSPad
import Derived.Test.YtnnnaajgjniiaaaGreatDoorTail
import Derived.Laws.OwnMore
import Derived.Test.YtnnnaajgjniiaaaGreatDoorSComp
import Derived.Deep.AppendLies
import Derived.Test.YtnnnaajgjniiaaaGreatDoorQTail
import Derived.Test.YtnnnaajgjniiaaaGreatDoorSBase
import Derived.Test.YtnnnaajgjniiaaaGreatDoorSTx
import Derived.Test.YtnnnaajgjniiaaaGreatDoorCut
import Derived.Test.YtnnnaajgjniiaaaGreatDoorSRLaw
import Derived.Test.YtnnnaajgjniiaaaGreatDoorGet
import Derived.Test.YtnnnaajgjniiaaaGreatDoorFReduce
import Derived.Test.YtnnnaajgjniiaaaGreatDoorHold
import Derived.Deep.LoopGhost
import Derived.Deep.RegionHeld3
import Derived.Test.YtnnnaajgjniiaaaGreatDoorRefNum
import Derived.Test.YtnnnaajgjniiaaaGreatDoorAdd
import Derived.Test.YtnnnaajgjniiaaaGreatDoorFExp
import Derived.Test.YtnnnaajgjniiaaaGreatDoorLen
import Derived.Test.YtnnnaajgjniiaaaGreatDoorFAppK
import Derived.Maps.AppendAt
import Derived.Test.YtnnnaajgjniiaaaGreatDoorESW
import Derived.Laws.EntriesVeiled
import Derived.Test.YtnnnaajgjniiaaaGreatDoorCBkC
set_option maxRecDepth 100000
set_option maxHeartbeats 8000000
namespace Go.Proofs.YtnnnaajgjniiaaaGreatDoor
open Go.RowKit Go.Sort
noncomputable def ny (key:Int) (A:List Int) (wh:Int):Int:=if wh<0∨64≤wh then 0 else if bW key then nzV (bU (stZ key (ac nN (aH A 32)))) wh.toNat else 0
noncomputable def nz (key:Int) (A:List Int) (wh:Int):Int:=if wh<0∨64≤wh then 1 else if bW key then nzE (bU (stZ key (ac nN (aH A 32)))) wh.toNat else 60
theorem sS {key wh:Int} {A:List Int} (hk:Num key) (hA:fJ A) (hl:A.length=32) (w:World) (hm:Mds w) (ht:ShT w) :
  Calls Tryz.prog 16 #[.agg #[.int .u64 (l0 key),.int .u64 (l1 key),.int .u64 (l2 key),.int .u64 (l3 key)],bT A,.int .i64 wh] w fun e w'=>e = .returned (.tuple #[.agg #[.int .u64 (l0 (ny key A wh)),.int .u64 (l1 (ny key A wh)),.int .u64 (l2 (ny key A wh)),.int .u64 (l3 (ny key A wh))],.int .i64 (nz key A wh)])∧Below w.heap.size w w':=by
 unfold ny nz
 by_cases hb:wh<0∨64≤wh
 ·rw [if_pos hb,if_pos hb]
  exact sP hl hb w
 ·rw [if_neg hb,if_neg hb]
  obtain ⟨n,rfl⟩:=Int.eq_ofNat_of_zero_le (show 0≤wh by omega)
  have hn:n<64:=by omega
  have IN:=co hk
  cases hf:bW key with
  | false =>
   rw [hf] at IN
   exact sR hl hn IN w hm ht
  | true =>
   rw [hf] at IN
   rw [if_pos rfl,if_pos rfl,show ((n:Int)).toNat=n from rfl]
   exact vI hl hn rfl IN (fun w hm=>fQ hA hl w hm) rfl rfl w hm ht
theorem xD {s:KvZ} {n:Nat}:Num (nzV (bU s) n):=by
 unfold nzV
 cases h:pkZ (bU s) n 256 with
 | none=>exact ⟨by decide,by decide⟩
 | some x=>exact rh (o7 s) h
theorem pb (key:Int) (A:List Int) (wh:Int):Num (ny key A wh):=by
 unfold ny
 split
 ·exact ⟨by decide,by decide⟩
 ·split
  ·exact xD
  ·exact ⟨by decide,by decide⟩
open Go.RowKit Go.Sort
theorem mJ (key:Int) (A:List Int) (non:Int):∃ R:SwR,∃ X Y j,Vd X Y j∧aS X Y j=EC.smul non.toNat EC.gJ.pt∧R=swR key non A X Y:=by
 obtain ⟨X,Y,j,hv,ev⟩:=uF (EC.smul_on EC.gJ_on non.toNat)
 exact ⟨_,X,Y,j,hv,ev,rfl⟩
noncomputable def swZ (key:Int) (A:List Int) (non:Int):SwR:=Classical.choose (mJ key A non)
theorem vJ (key:Int) (A:List Int) (non:Int):∃ X Y j,Vd X Y j∧aS X Y j=EC.smul non.toNat EC.gJ.pt∧swZ key A non=swR key non A X Y:=Classical.choose_spec (mJ key A non)
theorem yJ {key non:Int} {A:List Int} (hk:Num key) (hn:Num non) (hA:fJ A) (hl:A.length=32) (w:World) (hm:Mds w) (hc:ar w) :
  Calls Tryz.prog 17 #[.agg #[.int .u64 (l0 key),.int .u64 (l1 key),.int .u64 (l2 key),.int .u64 (l3 key)],.agg #[.int .u64 (l0 non),.int .u64 (l1 non),.int .u64 (l2 non),.int .u64 (l3 non)],bT A] w fun e w'=>e = .returned (.tuple #[.agg #[.int .u64 (l0 (swZ key A non).r),.int .u64 (l1 (swZ key A non).r),.int .u64 (l2 (swZ key A non).r),.int .u64 (l3 (swZ key A non).r),.int .u64 (l0 (swZ key A non).s),.int .u64 (l1 (swZ key A non).s),.int .u64 (l2 (swZ key A non).s),.int .u64 (l3 (swZ key A non).s),.bool (swZ key A non).o],.int .i64 (swZ key A non).e])∧Below w.heap.size w w':=by
 obtain ⟨X,Y,j,hv,ev,e⟩:=vJ key A non
 rw [e]
 exact xi hk hn hA hl hv ev w hm hc
theorem xO:Num 0:=⟨by decide,by decide⟩
noncomputable def sgZ (key:Int) (A:List Int) (i:Nat):SwR:=if nz key A i=0 then swZ key A (ny key A i) else ⟨0,0,false,nz key A i⟩
noncomputable def fsZ (R:Nat→SwR):Nat→Option SwR
 | 0=>none
 | n+1=>(fsZ R n).or (if (R n).e=0 then some (R n) else none)
theorem pc {R:Nat→SwR} {n:Nat} {x:SwR} (h:fsZ R n=some x):∀ d,fsZ R (n+d)=some x
 | 0=>h
 | d+1=>by rw [←Nat.add_assoc,fsZ,pc h d];rfl
theorem vK {R:Nat→SwR} {n:Nat} (h:fsZ R n=none) (e:(R n).e=0):fsZ R (n+1)=some (R n):=by rw [fsZ,h,if_pos e];rfl
theorem xE {R:Nat→SwR} {n:Nat} (h:fsZ R n=none) (e:(R n).e≠0):fsZ R (n+1)=none:=by rw [fsZ,h,if_neg e];rfl
noncomputable def jq (R:Nat→SwR):SwR:=(fsZ R 64).getD ⟨0,0,false,65⟩
theorem mK {R:Nat→SwR} {n:Nat} {x:SwR} (h:fsZ R n=some x) (hn:n≤64):jq R=x:=by
 have:=pc h (64-n)
 rw [show n+(64-n)=64 by omega] at this
 rw [jq,this];rfl
theorem mL {R:Nat→SwR} (h:fsZ R 64=none):jq R=⟨0,0,false,65⟩:=by rw [jq,h];rfl
theorem vL {key v f r s e0:Int} {o:Bool} {i bk bd:Nat} {M:List Value} (hl:M.length=32)
  (CN:Hid (∀ w,Mds w→ShT w→Calls Tryz.prog 16 #[.agg #[.int .u64 (l0 key),.int .u64 (l1 key),.int .u64 (l2 key),.int .u64 (l3 key)],.agg M.toArray,.int .i64 (i:Int)] w fun e w'=>e = .returned (.tuple #[.agg #[.int .u64 (l0 v),.int .u64 (l1 v),.int .u64 (l2 v),.int .u64 (l3 v)],.int .i64 f])∧Below w.heap.size w w'))
  (CS:Hid (f=0→∀ w,Mds w→ar w→Calls Tryz.prog 17 #[.agg #[.int .u64 (l0 key),.int .u64 (l1 key),.int .u64 (l2 key),.int .u64 (l3 key)],.agg #[.int .u64 (l0 v),.int .u64 (l1 v),.int .u64 (l2 v),.int .u64 (l3 v)],.agg M.toArray] w fun e w'=>e = .returned (.tuple #[.agg #[.int .u64 (l0 r),.int .u64 (l1 r),.int .u64 (l2 r),.int .u64 (l3 r),.int .u64 (l0 s),.int .u64 (l1 s),.int .u64 (l2 s),.int .u64 (l3 s),.bool o],.int .i64 e0])∧Below w.heap.size w w'))
  (h0:Hid (f≠0→r=0∧s=0∧o=false∧e0=f)) (w:World) (hm:Mds w) (ht:ShT w) (hc:ar w) (hk:ae w bk key) (hd:w.rangeAt bd 0 M) :
  Calls Tryz.prog 15 #[.int .i64 (i:Int),.pointer (some ⟨bk,0,none⟩),.pointer (some ⟨bd,0,none⟩)] w fun e w'=>e = .returned (.tuple #[.agg #[.int .u64 (l0 r),.int .u64 (l1 r),.int .u64 (l2 r),.int .u64 (l3 r),.int .u64 (l0 s),.int .u64 (l1 s),.int .u64 (l2 s),.int .u64 (l3 s),.bool o],.int .i64 e0])∧Below w.heap.size w w':=by
 have il:(Tryz.prog.info? 26).map (·.size)=some M.length:=by rw [hl];kernel_rfl
 have BA:Hid (∀ (V:World) o,Below V.heap.size V (V.alloc o)):=fun V o=>(Below.refl _ _).alloc (Nat.le_refl _) o
 have H0:Hid (Mds w∧ShT w∧ar w∧ae w bk key∧w.rangeAt bd 0 M∧bk<w.heap.size):=⟨hm,ht,hc,hk,hd,World.block_lt_of_cell? w _ hk.1⟩
 have gk:=fun o=>(hk.keep (BA.out w o)).cells
 have rg:=fun o=>f9 hd (BA.out w o)
 clear hm ht hc hk hd hl
 go_enter Tryz.func15,Tryz.ntmps15
 go_wp2_with (refine wpList_load_mid rfl 26 _ rfl bd 0 rfl M _ (rg _) Tryz.underlying26 rfl il ?_)
 refine aa (fun W=>Below w.heap.size w W∧Bk9 W w.heap.size) ⟨BA.out _ _,Bk9.new rfl⟩ ?_
 rintro W ⟨B,hR⟩
 refine (CN.out W (H0.out.1.keep B) (H0.out.2.1.keep B)).mono ?_
 rintro e w2 ⟨rfl,hb⟩
 replace B:=B.trans (hb.mono B.size)
 replace hR:=hR.keep hb
 clear hb gk rg
 clear W
 have lr:=hR.lt
 have o3:w.heap.size≤w.heap.size:=Nat.le_refl _
 by_cases hf:f=0
 ·subst hf
  have CS':Hid (∀ w,Mds w→ar w→Calls Tryz.prog 17 #[.agg #[.int .u64 (l0 key),.int .u64 (l1 key),.int .u64 (l2 key),.int .u64 (l3 key)],.agg #[.int .u64 (l0 v),.int .u64 (l1 v),.int .u64 (l2 v),.int .u64 (l3 v)],.agg M.toArray] w fun e w'=>e = .returned (.tuple #[.agg #[.int .u64 (l0 r),.int .u64 (l1 r),.int .u64 (l2 r),.int .u64 (l3 r),.int .u64 (l0 s),.int .u64 (l1 s),.int .u64 (l2 s),.int .u64 (l3 s),.bool o],.int .i64 e0])∧Below w.heap.size w w'):=CS.out rfl
  have gk:=fun o=>((H0.out.2.2.2.1.keep B).keep (BA.out _ o)).cells
  have gk0:=(H0.out.2.2.2.1.keep B).cells
  have rg:=fun o=>f9 (f9 H0.out.2.2.2.2.1 B) (BA.out _ o)
  have nbk:bk≠w2.heap.size:=by have:=H0.out.2.2.2.2.2;have:=B.size;omega
  have H2:Hid (Below w.heap.size w w2∧Bk9 w2 w.heap.size):=⟨B,hR⟩
  clear B hR CS h0 CN
  go_wp2_with (refine wpList_load_mid rfl 26 _ rfl bd 0 rfl M _ (rg _) Tryz.underlying26 rfl il ?_)
  refine aa (fun W=>Below w2.heap.size w2 W) (BA.out _ _) ?_
  rintro W B2
  have B3:=H2.out.1.trans (B2.mono H2.out.1.size)
  refine (CS'.out W (H0.out.1.keep B3) (H0.out.2.2.1.keep B3)).mono ?_
  rintro e w4 ⟨rfl,hb⟩
  have B4:=B3.trans (hb.mono B3.size)
  have hR4:=(H2.out.2.keep B2).keep hb
  have gR:=hR4.cells
  have fR:=hR4.free
  clear hb B3 B2 hR4 gk gk0 rg nbk CS' H2 il H0
  clear W
  go_wp2
  simp [bodyPost,results,Tryz.results15,go_sem,gR]
  repeat (first|with_reducible exact B4|with_reducible refine Below.setCell ?_ o3 _)
 ·obtain ⟨rfl,rfl,rfl,rfl⟩:=h0.out hf
  obtain ⟨z0,z1,z2,z3⟩:=ap
  have hf1:(e0==0)=false:=by simpa using hf
  have hf2:(e0 != 0)=true:=by simpa using hf
  have gR:=fun o=>(hR.alloc o).cells
  have fR:=fun o=>(hR.alloc o).free
  have gR1:=hR.cells
  have fR1:=hR.free
  have nr:w2.heap.size≠w.heap.size:=by omega
  have nr':=nr.symm
  clear hR CS CN il H0 BA
  go_wp2
  simp [bodyPost,results,Tryz.results15,go_sem, *]
  repeat (first|with_reducible exact B|with_reducible refine Below.alloc ?_ (by first|exact B.size|(simp;exact B.size)) _|with_reducible refine Below.setCell ?_ o3 _)
open Go.RowKit Go.Sort
theorem sU {R:Nat→SwR} {bk bd:Nat} {x:SwR} (hx:jq R=x) (w:World)
  (CL:Hid (∀ (i:Nat) (W:World),Below w.heap.size w W→Calls Tryz.prog 15 #[.int .i64 (i:Int),.pointer (some ⟨bk,0,none⟩),.pointer (some ⟨bd,0,none⟩)] W fun e w'=>e = .returned (.tuple #[.agg #[.int .u64 (l0 (R i).r),.int .u64 (l1 (R i).r),.int .u64 (l2 (R i).r),.int .u64 (l3 (R i).r),.int .u64 (l0 (R i).s),.int .u64 (l1 (R i).s),.int .u64 (l2 (R i).s),.int .u64 (l3 (R i).s),.bool (R i).o],.int .i64 (R i).e])∧Below W.heap.size W w')) :
  Calls Tryz.prog 14 #[.func (.func 15) #[] #[.pointer (some ⟨bk,0,none⟩),.pointer (some ⟨bd,0,none⟩)]] w fun e w'=>e = .returned (.tuple #[.agg #[.int .u64 (l0 x.r),.int .u64 (l1 x.r),.int .u64 (l2 x.r),.int .u64 (l3 x.r),.int .u64 (l0 x.s),.int .u64 (l1 x.s),.int .u64 (l2 x.s),.int .u64 (l3 x.s),.bool x.o],.int .i64 x.e])∧Below w.heap.size w w':=by
 have HX:Hid (jq R=x):=hx
 have o3:w.heap.size≤w.heap.size:=Nat.le_refl _
 clear hx
 obtain ⟨z0,z1,z2,z3⟩:=ap
 go_enter Tryz.func14,Tryz.ntmps14
 go_wp2_with fail
 refine aj (fun W=>Below w.heap.size w W∧Bk9 W w.heap.size) ⟨(Below.refl _ _).alloc (Nat.le_refl _) _,Bk9.new rfl⟩ ?_
 rintro W0 HW
 go_loopg [7] 64 (fun k iv wr=>∃ i:Nat,k=64-i∧i≤64∧iv = .int .i64 (i:Int)∧fsZ R i=none∧Below w.heap.size w wr∧Bk9 wr w.heap.size)
 case atStart=>exact ⟨0,rfl,Nat.zero_le _,rfl,rfl,HW.1,HW.2⟩
 case round =>
  clear HW
  obtain ⟨i,hk,hi,rfl,hp,hB,hR⟩:=hrel
  have HK:Hid (gk=64-i):=hk
  have HP:Hid (fsZ R i=none∧Below w.heap.size w wr∧Bk9 wr w.heap.size):=⟨hp,hB,hR⟩
  clear hk hp hB hR
  by_cases h8:i=64
  ·subst h8
   have gR:=HP.out.2.2.cells
   have fR:=HP.out.2.2.free
   have ex:x=⟨0,0,false,65⟩:=by rw [←HX.out];exact mL HP.out.1
   subst ex
   have B4:=HP.out.2.1
   go_wp2
   simp [bodyPost,results,Tryz.results14,go_sem,gR]
   repeat (first|with_reducible exact B4|with_reducible refine Below.setCell ?_ o3 _)
  ·have hi':(i:Int)<64:=by omega
   have C1:=CL.out i
   have H1:Hid (∀ y,y=R i→y.e=0→jq R=y):=fun y e h=>by rw [e] at h ⊢; exact mK (vK HP.out.1 h) (by omega)
   have H2:Hid ((R i).e≠0→fsZ R (i+1)=none):=fun h=>xE HP.out.1 h
   obtain ⟨y,ey⟩:∃ y,y=R i:=⟨_,rfl⟩
   rw [←ey] at C1 H2
   replace H1:Hid (y.e=0→jq R=y):=H1.out y ey
   clear ey
   go_wp2_with fail
   refine (C1 wr HP.out.2.1).mono ?_
   rintro e w2 ⟨rfl,hb⟩
   have B:=HP.out.2.1.trans (hb.mono HP.out.2.1.size)
   have hR:=HP.out.2.2.keep hb
   clear hb C1
   have lr:=hR.lt
   by_cases he:y.e=0
   ·have ex:x=y:=by rw [←HX.out];exact H1.out he
    subst ex
    have gR:=fun o=>(hR.alloc o).cells
    have fR:=fun o=>(hR.alloc o).free
    have gR1:=hR.cells
    have fR1:=hR.free
    have nr:w2.heap.size≠w.heap.size:=by omega
    have nr':=nr.symm
    clear hR HP H1 H2 HX
    go_wp2
    simp [bodyPost,results,Tryz.results14,go_sem, *]
    repeat (first|with_reducible exact B|with_reducible refine Below.alloc ?_ (by first|exact B.size|(simp;exact B.size)) _|with_reducible refine Below.setCell ?_ o3 _)
   ·have H3:Hid (fsZ R (i+1)=none):=H2.out he
    have he1:(y.e==0)=false:=by simpa using he
    have HF:Hid (Below w.heap.size w w2∧Bk9 w2 w.heap.size):=⟨B,hR⟩
    clear B hR H1 H2
    generalize y.e=f at *
    go_wp2
    go_roundg (64-(i+1))
    case measure=>have:=HK.out;omega
    case rel=>exact ⟨i+1,rfl,by omega,by go_num,H3.out,HF.out.1.alloc HF.out.1.size _,HF.out.2.alloc _⟩
structure SnZ (w W:World) (key:Int) (M:List Value):Prop where
 below:Below w.heap.size w W
 mds:Mds W
 tab:ShT W
 col:ar W
 key:ae W w.heap.size key
 dig:W.rangeAt (w.heap.size+1) 0 M
 res:Bk9 W (w.heap.size+1+1)
theorem SnZ.keep {w W W':World} {key:Int} {M:List Value} (h:SnZ w W key M) (B:Below W.heap.size W W'):SnZ w W' key M:=⟨h.below.trans (B.mono h.below.size),h.mds.keep B,h.tab.keep B,h.col.keep B,h.key.keep B,f9 h.dig B,h.res.keep B⟩
theorem rk {w:World} {key:Int} {M:List Value} {t1 t2 t3:TypeId} (hm:Mds w) (ht:ShT w) (hc:ar w):SnZ w (((w.alloc (.cells #[.int .u64 (l0 key),.int .u64 (l1 key),.int .u64 (l2 key),.int .u64 (l3 key)] t1)).alloc (.cells M.toArray t2)).alloc (.cells #[.int .u64 0,.int .u64 0,.int .u64 0,.int .u64 0,.int .u64 0,.int .u64 0,.int .u64 0,.int .u64 0,.bool false] t3)) key M:=by
 have BA:∀ (V:World) o,Below V.heap.size V (V.alloc o):=fun V o=>(Below.refl _ _).alloc (Nat.le_refl _) o
 refine ⟨?_,((hm.alloc _).alloc _).alloc _,((ht.keep (BA _ _)).keep (BA _ _)).keep (BA _ _),((hc.keep (BA _ _)).keep (BA _ _)).keep (BA _ _),((ae.new _ _ _).keep (BA _ _)).keep (BA _ _),?_,Bk9.new (by simp)⟩
 ·exact (((Below.refl _ _).alloc (Nat.le_refl _) _).alloc (by simp) _).alloc (by simp;omega) _
 ·have:=lI (W:=w.alloc (.cells #[.int .u64 (l0 key),.int .u64 (l1 key),.int .u64 (l2 key),.int .u64 (l3 key)] t1)) (cs:=M) (t:=t2)
  rw [show (w.alloc (.cells #[.int .u64 (l0 key),.int .u64 (l1 key),.int .u64 (l2 key),.int .u64 (l3 key)] t1)).heap.size=w.heap.size+1 by simp] at this
  exact f9 this (BA _ _)
theorem vM {key:Int} {M:List Value} (hl:M.length=32) (IN:Hid (∀ w,Mds w→Calls Tryz.prog 13 #[.agg #[.int .u64 (l0 key),.int .u64 (l1 key),.int .u64 (l2 key),.int .u64 (l3 key)]] w fun e w'=>e = .returned (.bool false)∧Below w.heap.size w w')) (w:World) (hm:Mds w) (ht:ShT w) (hc:ar w) :
  Calls Tryz.prog 5 #[.agg #[.int .u64 (l0 key),.int .u64 (l1 key),.int .u64 (l2 key),.int .u64 (l3 key)],.agg M.toArray] w fun e w'=>e = .returned (.tuple #[.agg #[.int .u64 (l0 0),.int .u64 (l1 0),.int .u64 (l2 0),.int .u64 (l3 0),.int .u64 (l0 0),.int .u64 (l1 0),.int .u64 (l2 0),.int .u64 (l3 0),.bool false],.int .i64 60])∧Below w.heap.size w w':=by
 have HL:Hid (M.length=32):=hl
 clear hl
 obtain ⟨z0,z1,z2,z3⟩:=ap
 go_enter Tryz.func5,Tryz.ntmps5
 go_wp2_with fail
 refine aa (fun W=>SnZ w W key M) (rk hm ht hc) ?_
 clear hm ht hc
 rintro W HW
 with_reducible refine (IN.out _ HW.mds).mono ?_
 rintro e w2 ⟨rfl,hb⟩
 have H2:=HW.keep hb
 clear hb HW
 have gR:=H2.res.cells
 have fR:=H2.res.free
 have B9:=H2.below
 have o3:w.heap.size≤w.heap.size+1+1:=by omega
 clear H2
 generalize w.heap.size+1+1=br at *
 go_wp2
 simp [bodyPost,results,Tryz.results5,go_sem, *]
 repeat (first|with_reducible exact B9|with_reducible refine Below.setCell ?_ o3 _)
theorem xF {R:Nat→SwR} {x:SwR} {key:Int} {M:List Value} (hl:M.length=32) (hx:jq R=x) (IN:Hid (∀ w,Mds w→Calls Tryz.prog 13 #[.agg #[.int .u64 (l0 key),.int .u64 (l1 key),.int .u64 (l2 key),.int .u64 (l3 key)]] w fun e w'=>e = .returned (.bool true)∧Below w.heap.size w w'))
  (CL:Hid (∀ (i bk bd:Nat) (W:World),Mds W→ShT W→ar W→ae W bk key→W.rangeAt bd 0 M→Calls Tryz.prog 15 #[.int .i64 (i:Int),.pointer (some ⟨bk,0,none⟩),.pointer (some ⟨bd,0,none⟩)] W fun e w'=>e = .returned (.tuple #[.agg #[.int .u64 (l0 (R i).r),.int .u64 (l1 (R i).r),.int .u64 (l2 (R i).r),.int .u64 (l3 (R i).r),.int .u64 (l0 (R i).s),.int .u64 (l1 (R i).s),.int .u64 (l2 (R i).s),.int .u64 (l3 (R i).s),.bool (R i).o],.int .i64 (R i).e])∧Below W.heap.size W w'))
  (w:World) (hm:Mds w) (ht:ShT w) (hc:ar w) :
  Calls Tryz.prog 5 #[.agg #[.int .u64 (l0 key),.int .u64 (l1 key),.int .u64 (l2 key),.int .u64 (l3 key)],.agg M.toArray] w fun e w'=>e = .returned (.tuple #[.agg #[.int .u64 (l0 x.r),.int .u64 (l1 x.r),.int .u64 (l2 x.r),.int .u64 (l3 x.r),.int .u64 (l0 x.s),.int .u64 (l1 x.s),.int .u64 (l2 x.s),.int .u64 (l3 x.s),.bool x.o],.int .i64 x.e])∧Below w.heap.size w w':=by
 have HL:Hid (M.length=32∧jq R=x):=⟨hl,hx⟩
 clear hl hx
 go_enter Tryz.func5,Tryz.ntmps5
 go_wp2_with fail
 refine aa (fun W=>SnZ w W key M) (rk hm ht hc) ?_
 clear hm ht hc
 rintro W HW
 with_reducible refine (IN.out _ HW.mds).mono ?_
 rintro e w2 ⟨rfl,hb⟩
 have H2:=HW.keep hb
 clear hb HW IN
 clear W
 go_wp2_with fail
 refine (sU HL.out.2 w2 (fun i W b=>CL.out i _ _ W (H2.mds.keep b) (H2.tab.keep b) (H2.col.keep b) (H2.key.keep b) (f9 H2.dig b))).mono ?_
 rintro e w3 ⟨rfl,hb⟩
 have H3:=H2.keep hb
 have gR:=H3.res.cells
 have fR:=H3.res.free
 have B9:=H3.below
 have o3:w.heap.size≤w.heap.size+1+1:=by omega
 clear H3 H2 hb CL
 clear w2
 generalize w.heap.size+1+1=br at *
 go_wp2
 simp [bodyPost,results,Tryz.results5,go_sem,gR]
 repeat (first|with_reducible exact B9|with_reducible refine Below.setCell ?_ o3 _)
open Go.RowKit Go.Sort
noncomputable def cY (key:Int) (A:List Int):SwR:=if bW key then jq (sgZ key A) else ⟨0,0,false,60⟩
theorem rl {key:Int} {A:List Int} {i:Nat} (h:nz key A i≠0):sgZ key A i=⟨0,0,false,nz key A i⟩:=by unfold sgZ;rw [if_neg h]
theorem vN {key:Int} {A:List Int} {i:Nat} (h:nz key A i=0):sgZ key A i=swZ key A (ny key A i):=by unfold sgZ;rw [if_pos h]
theorem vO {key:Int} {A:List Int} (hk:Num key) (hA:fJ A) (hl:A.length=32) (w:World) (hm:Mds w) (ht:ShT w) (hc:ar w) :
  Calls Tryz.prog 5 #[.agg #[.int .u64 (l0 key),.int .u64 (l1 key),.int .u64 (l2 key),.int .u64 (l3 key)],bT A] w fun e w'=>e = .returned (.tuple #[.agg #[.int .u64 (l0 (cY key A).r),.int .u64 (l1 (cY key A).r),.int .u64 (l2 (cY key A).r),.int .u64 (l3 (cY key A).r),.int .u64 (l0 (cY key A).s),.int .u64 (l1 (cY key A).s),.int .u64 (l2 (cY key A).s),.int .u64 (l3 (cY key A).s),.bool (cY key A).o],.int .i64 (cY key A).e])∧Below w.heap.size w w':=by
 have hM:(A.map fun z=>Value.int .u8 z).length=32:=by rw [List.length_map];exact hl
 have IN:=co hk
 cases hf:bW key with
 | false =>
  rw [hf] at IN
  rw [show cY key A=⟨0,0,false,60⟩ by unfold cY;rw [hf];rfl]
  exact vM hM IN w hm ht hc
 | true =>
  rw [hf] at IN
  rw [show cY key A=jq (sgZ key A) by unfold cY;rw [hf];rfl]
  refine xF hM rfl IN (fun i bk bd W hm ht hc hk' hd=>?_) w hm ht hc
  exact vL hM (fun w hm ht=>sS hk hA hl w hm ht) (fun h w hm hc=>by rw [vN h];exact yJ hk (pb _ _ _) hA hl w hm hc) (fun h=>by rw [rl h];exact ⟨rfl,rfl,rfl,rfl⟩) W hm ht hc hk' hd
open Go.RowKit Go.Sort
theorem pd {key X s k x y:Int} {o:Bool} {A:List Int} (hk:Num key) (hl:A.length=32) (hA:fJ A) (nX:Num X) (fx:bW X=true) (s0:0<s) (s1:s<nN) (lo:lowN s=true) (h2:dA X)
  (eR:aS X (dt o X) false=sm k EC.gJ.pt) (hrel:ac nN (s*k)=ac nN (dgN A+X*key)) (hp:Vd x y false) (ep:aS x y false=EC.smul key.toNat EC.gJ.pt) :
  ∀ w,Mds w→ar w→Calls Tryz.prog 25 #[bT A,.agg #[.int .u64 (l0 X),.int .u64 (l1 X),.int .u64 (l2 X),.int .u64 (l3 X),.int .u64 (l0 s),.int .u64 (l1 s),.int .u64 (l2 s),.int .u64 (l3 s),.bool o]] w fun e w'=>e = .returned (.tuple #[.agg #[.int .u64 (l0 x),.int .u64 (l1 x),.int .u64 (l2 x),.int .u64 (l3 x),.int .u64 (l0 y),.int .u64 (l1 y),.int .u64 (l2 y),.int .u64 (l3 y),.bool false],.int .i64 0])∧Below w.heap.size w w':=by
 have ns:Num s:=⟨by omega,by have:=qO.2;omega⟩
 have chk:ku X s=0:=by unfold ku;rw [fx,oL (by omega) s1,lo];simp
 obtain ⟨x0,x1⟩:=fV fx
 have hz:ac nN X≠0:=by rw [cw nX.1 x1];exact x0
 have onG:=EC.gJ_on
 have hvR:=nk nX h2 o
 have onR:=hvR.on
 have eQ:aS x y false=sm key EC.gJ.pt:=by rw [ep,jk onG hk.1]
 have ej:aS x y false=(EC.smul (mc X A).toNat EC.gJ.pt).add (EC.smul (me X s).toNat (aS X (dt o X) false)):=by
  have b0:0≤mc X A:=(de (x:=ac nN (0-dgN A)*aR nN X)).1
  have c0:0≤me X s:=(de (x:=s*aR nN X)).1
  rw [jk onG b0,jk onR c0,eR,uT onG nX.1 hz hrel (uP nX.1 hz) (uQ nX.1 hz),eQ]
 exact oM (o:=o) nX ns hA hl chk h2 hp ej
theorem vP {key non x y:Int} {A:List Int} (hk:Num key) (hn:Num non) (hl:A.length=32) (hA:fJ A) (h1:bW key=true) (he:(swZ key A non).e=0) (hp:Vd x y false) (ep:aS x y false=EC.smul key.toNat EC.gJ.pt) :
  ∀ w,Mds w→ar w→Calls Tryz.prog 25 #[bT A,.agg #[.int .u64 (l0 (swZ key A non).r),.int .u64 (l1 (swZ key A non).r),.int .u64 (l2 (swZ key A non).r),.int .u64 (l3 (swZ key A non).r),.int .u64 (l0 (swZ key A non).s),.int .u64 (l1 (swZ key A non).s),.int .u64 (l2 (swZ key A non).s),.int .u64 (l3 (swZ key A non).s),.bool (swZ key A non).o]] w fun e w'=>e = .returned (.tuple #[.agg #[.int .u64 (l0 x),.int .u64 (l1 x),.int .u64 (l2 x),.int .u64 (l3 x),.int .u64 (l0 y),.int .u64 (l1 y),.int .u64 (l2 y),.int .u64 (l3 y),.bool false],.int .i64 0])∧Below w.heap.size w w':=by
 obtain ⟨X,Y,j,hv,ev,e⟩:=vJ key A non
 rw [e] at he ⊢
 have nX:=hv.low.1.num
 cases h2:bW non with
 | false =>
  have e2:swR key non A X Y=⟨0,0,false,60⟩:=by unfold swR;rw [h1,h2,Bool.and_false,if_pos rfl]
  rw [e2] at he
  exact absurd he (by decide)
 | true =>
  obtain ⟨n0,n1⟩:=fV h2
  have p0:0<non:=by have:=hn.1;omega
  have hz:ac nN non≠0:=by rw [cw hn.1 n1];exact n0
  have b0:swR key non A X Y=if ¬X<nN then ⟨0,0,false,64⟩ else if X=0∨swS key non (dgN A) X=0 then ⟨0,0,false,65⟩ else if lowN (swS key non (dgN A) X) then ⟨X,swS key non (dgN A) X,oddB Y,0⟩ else ⟨X,ac nN (0-swS key non (dgN A) X),!oddB Y,0⟩:=by
   unfold swR;rw [h1,h2,Bool.and_self,if_neg (by decide)]
  have sl:0≤swS key non (dgN A) X∧swS key non (dgN A) X<nN:=de
  have hrel:ac nN (swS key non (dgN A) X*non)=ac nN (dgN A+X*key):=by
   unfold swS
   rw [xk hn.1 hz (fN _),dW]
  rw [b0] at he ⊢
  clear b0 e
  generalize swS key non (dgN A) X=s at *
  by_cases c1:X<nN
  ·rw [if_neg (not_not_intro c1)] at he ⊢
   by_cases c2:X=0∨s=0
   ·rw [if_pos c2] at he
    exact absurd he (by decide)
   ·rw [if_neg c2] at he ⊢
    have x1:X≠0:=fun e=>c2 (.inl e)
    have s0:0<s:=by have h:s≠0:=fun e=>c2 (.inr e);omega
    have fr:=oL x1 c1
    have hj:j=false:=by
     cases j with
     | false=>rfl
     | true=>exact absurd hv.1 x1
    subst hj
    obtain ⟨lk,ly⟩:=mD hv
    cases h5:lowN s with
    | true =>
     rw [if_pos rfl]
     exact pd hk hl hA nX fr s0 sl.2 h5 lk (by rw [ly,ev,jk EC.gJ_on hn.1]) hrel hp ep
    | false =>
     rw [if_neg (by decide)]
     obtain ⟨hv',ev'⟩:=qZ hv
     obtain ⟨_,ly'⟩:=mD hv'
     rw [lg hv] at ly'
     have e2:=ji s0 sl.2
     have lh:lowN (ac nN (0-s))=true:=by rw [qb s0 sl.2,h5];rfl
     exact pd (k:=0-non) (X:=X) (s:=ac nN (0-s)) (o := !oddB Y) hk hl hA nX fr (by rw [e2];have:=sl.2;omega) (by rw [e2];omega) lh lk (by rw [ly',ev',ev,←sr p0 n1];rfl) (by rw [cu,show (0-s)*(0-non)=s*non by rw [Int.zero_sub,Int.zero_sub,Int.neg_mul_neg],hrel]) hp ep
  ·rw [if_pos c1] at he
   exact absurd he (by decide)
theorem sV {key:Int} (hk:Num key) (h1:bW key=true):∃ x y,Vd x y false∧aS x y false=EC.smul key.toNat EC.gJ.pt:=by
 obtain ⟨q0,q1⟩:=fV h1
 obtain ⟨x,y,i,hp,ep⟩:=uF (EC.smul_on EC.gJ_on key.toNat)
 cases i with
 | false=>exact ⟨x,y,hp,ep⟩
 | true=>exact absurd ep.symm (yw (by have:=hk.1;omega) q1)
end Go.Proofs.YtnnnaajgjniiaaaGreatDoor
