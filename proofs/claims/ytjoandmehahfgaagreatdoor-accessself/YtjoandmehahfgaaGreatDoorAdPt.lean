import Derived.Test.YtjoandmehahfgaaGreatDoorAb
import Derived.Test.YtjoandmehahfgaaGreatDoorAdLast
import Derived.Test.YtjoandmehahfgaaGreatDoorKLent
import Derived.Test.YtjoandmehahfgaaGreatDoorFFermat
import Derived.Test.YtjoandmehahfgaaGreatDoorFList
set_option maxRecDepth 100000
set_option maxHeartbeats 8000000
namespace Go.Proofs.YtjoandmehahfgaaGreatDoor
open Go.RowKit Go.Sort
def KtA (W:World):Prop:=K.Tab W 3 K.turnsN∧K.Lns W 2 K.marksN
theorem KtA.keep {W w1:World} (h:KtA W) (hb:Below W.heap.size W w1):KtA w1:=⟨h.1.keep hb,h.2.keep hb⟩
theorem KtA.alloc {W:World} (h:KtA W) (o:Obj):KtA (W.alloc o):=⟨h.1.alloc o,h.2.alloc o⟩
def oD (l:List Int):Prop:=∀ z∈l,0≤z∧z<256
def bvI (l:List Int):List (BitVec 8):=l.map (BitVec.ofInt 8)
theorem ua (l:List Int):(bvI l).length=l.length:=by simp [bvI]
theorem DD {z:Int} (h0:0≤z) (h1:z<256):K.Y (BitVec.ofInt 8 z)=z:=by
 rw [K.Y_eq,BitVec.toNat_ofInt]
 omega
theorem DE {l:List Int} (h:oD l) {i:Nat} (hi:i<l.length):K.Y ((bvI l).getD i 0)=l.getD i 0:=by
 have hm:=h (l[i]) (List.getElem_mem hi)
 rw [bvI,List.getD,List.getElem?_map,List.getElem?_eq_getElem hi,List.getD,List.getElem?_eq_getElem hi]
 exact DD hm.1 hm.2
theorem qU (n:Int):oD (aK n):=fun z hz=>by
 obtain ⟨t,_,rfl⟩:=List.mem_map.1 hz
 exact ⟨Int.emod_nonneg _ (by decide),Int.emod_lt_of_pos _ (by decide)⟩
theorem oD.app {a b:List Int} (h:oD a) (k:oD b):oD (a++b):=fun z hz=>(List.mem_append.1 hz).elim (h z) (k z)
noncomputable def nw (l:List Int):List Int:=(K.hashL (K.finL 0 (K.absb (List.replicate 25 0) 0 (bvI l)) l.length)).map K.Y
theorem yk (l:List Int):(nw l).length=32:=by simp [nw,K.hashL]
theorem Ei (l:List Int):K.digV 0 (bvI l) = .agg ((nw l).map (Value.int .u8)).toArray:=by
 rw [K.digV,nw,ua,List.map_map]
 rfl
theorem DF {l:List Int} {g o c b:Nat} (hy:oD l) (hl:l.length<1073741824) (hc:l.length≤c) (w:World) (hb:w.cell? ⟨b,0,none⟩=some (.slice (some ⟨g,o,none⟩) l.length c)) (hx:∀ i,i<l.length→w.cell? ⟨g,o+i,none⟩=some (.int .u8 (l.getD i 0))) (hk:KtA w) :
  Rt 17 #[.slice (some ⟨b,0,none⟩) 1 1] w (.agg ((nw l).map (Value.int .u8)).toArray):=by
 have e1:(bvI l).length=l.length:=ua l
 have h:=K.sum_any (PS:=[⟨some ⟨g,o,none⟩,g,o,c,bvI l⟩]) (a:=some ⟨b,0,none⟩) (bp:=b) (op:=0) (cp:=1) (by simp [K.catX,e1];exact hl) (by show 1≤_;omega) (Nat.le_refl _) (.inr rfl) w (fun i hi=>by
  have:i=0:=by simpa using hi
  subst this
  refine ⟨?_,.inr rfl,by show (bvI l).length≤c;omega,fun i hi=>?_⟩
  ·show w.cell? ⟨b,0+0,none⟩=some (.slice (some ⟨g,o,none⟩) (bvI l).length c)
   rw [e1];exact hb
  ·have hi':i<l.length:=by rw [←e1];exact hi
   show w.cell? ⟨g,o+i,none⟩=some (.int .u8 (K.Y ((bvI l).getD i 0)))
   rw [DE hy hi'];exact hx i hi') hk.1 hk.2
 refine h.mono fun e w' ⟨h1,h2⟩=>⟨?_,h2⟩
 rw [h1,←Ei]
 simp [K.catX]
theorem Ej {x y:Int} {i:Bool} (ON:Hid (∀ w,Mds w→Rt 66 #[P9 x y i] w (.bool false))) (w:World) (hm:Mds w) :
  Rt 37 #[P9 x y i] w (.int .i64 50):=by
 go_enter Tryz.func37,Tryz.ntmps37
 go_wp2_with fail
 refine aa (fun W=>Below w.heap.size w W∧Mds W∧Pnt W w.heap.size x y i) ⟨by repeat (first|with_reducible exact Below.refl _ _|with_reducible refine Below.alloc ?_ (by first|omega|(simp;done)|(simp;omega)) _),hm.alloc _,Pnt.new rfl⟩ ?_
 rintro W ⟨B,hD,hP⟩
 with_reducible refine (ON.out _ hD).mono ?_
 rintro e w9 ⟨rfl,hb⟩
 replace B:=B.trans (hb.mono B.size)
 replace hP:=hP.keep hb
 clear hb W hD
 have gP:=hP.cells
 go_wp2
 simp [bodyPost,results,Tryz.results37,go_sem]
 exact B
theorem Ct {x y:Int} {L:List Int} {D:List Value} (hL:L.length=64) (hy:oD L) (eD:Hid (D=((nw L).drop 12).map (Value.int .u8)))
  (EX:Hid (∀ w,Mds w→Calls Tryz.prog 15 #[P9 x y false] w fun e w'=>∃ g cap,e = .returned (.tuple #[.slice (some ⟨g,0,none⟩) 65 cap,.int .i64 0])∧(∀ i,i<64→w'.cell? ⟨g,1+i,none⟩=some (.int .u8 (L.getD i 0)))∧65≤cap∧Below w.heap.size w w')) (w:World) (hm:Mds w) (hk:KtA w) :
  Rt 9 #[P9 x y false] w (.tuple #[.agg D.toArray,.int .i64 0]):=by
 have LL:Hid (L.length=64∧oD L):=⟨hL,hy⟩
 clear hL hy
 go_enter Tryz.func9,Tryz.ntmps9
 go_wp2_with fail
 refine aa (fun W=>Below w.heap.size w W∧Mds W∧KtA W∧Bts W (w.heap.size+1) (List.replicate 20 0)) ⟨by repeat (first|with_reducible exact Below.refl _ _|with_reducible refine Below.alloc ?_ (by first|omega|(simp;done)|(simp;omega)) _),(hm.alloc _).alloc _,(hk.alloc _).alloc _,Bts.new (List.replicate 20 0) _ (by simp)⟩ ?_
 rintro W ⟨B,hD,hT,hR⟩
 with_reducible refine (EX.out _ hD).mono ?_
 rintro e w1 ⟨g,cap,rfl,hc,hcap,hb⟩
 replace B:=B.trans (hb.mono B.size)
 replace hT:=hT.keep hb
 replace hR:=hR.keep (by simp) hb
 clear hb W hD hm hk EX
 have o1:w.heap.size≤w.heap.size+1:=by omega
 generalize w.heap.size+1=br at *
 have nc:(65:Int)≤(cap:Int):=by omega
 have CC:Hid (65≤cap):=hcap
 clear hcap
 go_wp2_with fail
 refine aa (fun W=>Below w.heap.size w W∧KtA W∧Bts W br (List.replicate 20 0)∧W.cell? ⟨w1.heap.size,0,none⟩=some (.slice (some ⟨g,1,none⟩) 64 (cap-1))∧∀ i,i<64→W.cell? ⟨g,1+i,none⟩=some (.int .u8 (L.getD i 0))) ⟨B.alloc B.size _,hT.alloc _,hR.alloc (by simp) _,by simp,fun i hi=>cell_keep ((Below.refl _ _).alloc (Nat.le_refl _) _) (hc i hi)⟩ ?_
 clear B hT hR hc
 rintro W ⟨B,hT,hR,hb0,hc⟩
 generalize w1.heap.size=bs at *
 clear w1
 refine (DF (l:=L) (g:=g) (o:=1) (c:=cap-1) LL.out.2 (by rw [LL.out.1];decide) (by rw [LL.out.1];have:=CC.out;omega) _ (by rw [LL.out.1];exact hb0) (by rw [LL.out.1];exact hc) hT).mono ?_
 rintro e w2 ⟨rfl,hb⟩
 replace B:=B.trans (hb.mono B.size)
 replace hR:=hR.keep (by simp) hb
 clear hb W hT hb0 hc
 have mk:((nw L).map (Value.int .u8)).length=32:=by rw [List.length_map,yk]
 have mo:∀ v∈(nw L).map (Value.int .u8),v.oneCell'=true:=fun v hv=>by obtain ⟨z,_,rfl⟩:=List.mem_map.1 hv;rfl
 have eD':D=((nw L).map (Value.int .u8)).drop 12:=by rw [eD.out,List.map_drop]
 have ED:Hid (D=((nw L).map (Value.int .u8)).drop 12):=eD'
 generalize (nw L).map (Value.int .u8)=M at *
 clear eD' eD
 have MM:Hid (M.length=32∧∀ v∈M,v.oneCell'=true):=⟨mk,mo⟩
 clear mk mo
 go_wp2_with fail
 refine (sb MM.out.1 MM.out.2 _).mono ?_
 rw [←ED.out]
 rintro e w3 ⟨rfl,hb⟩
 replace B:=B.trans (hb.mono B.size)
 replace hR:=hR.keep (by simp) hb
 clear hb w2
 have kD:D.length=20:=by rw [ED.out,List.length_drop,MM.out.1]
 have oc:D.toArray.all (·.oneCell')=true:=all_oneCell_toArray fun v hv=>MM.out.2 v (by rw [ED.out] at hv;exact List.mem_of_mem_drop hv)
 have KD:Hid (D.length=20):=kD
 have sz:D.toArray.size=20:=by simp [kD]
 have tr:=hR.there (k:=D.toArray.size) (by rw [sz];rfl)
 clear kD
 go_wp2_with ((refine wpList_store_mid rfl 26 _ _ rfl br 0 D.toArray rfl rfl tr (by rw [sz];kernel_rfl) oc ?_);(refine aN (fun W=>Below w.heap.size w W∧W.rangeAt br 0 D) (b9 B o1 (by simpa using tr)) ?_);(rintro W ⟨B',hD⟩))
 have ld:=run_loadVar_mid (P:=Tryz.prog) W br 0 26 D _ hD Tryz.underlying26 rfl (by rw [KD.out];kernel_rfl)
 refine bodyPost_ret (v:=.tuple #[.agg D.toArray,.int .i64 0]) ?_ rfl ⟨rfl,B'⟩
 simp [results,Tryz.results9,asAddr,ld]
end Go.Proofs.YtjoandmehahfgaaGreatDoor
