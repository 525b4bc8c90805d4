import Derived.Test.YtjoandmehahfgaaGreatDoorAb
import Derived.Test.YtjoandmehahfgaaGreatDoorAdPt
import Derived.Test.YtjoandmehahfgaaGreatDoorMgB
import Derived.Test.YtjoandmehahfgaaGreatDoorESW
import Derived.Test.YtjoandmehahfgaaGreatDoorGet
import Derived.Test.YtjoandmehahfgaaGreatDoorFExp
import Derived.Test.YtjoandmehahfgaaGreatDoorCLaid
import Derived.Test.YtjoandmehahfgaaGreatDoorNzK
set_option maxRecDepth 100000
set_option maxHeartbeats 8000000
namespace Go.Proofs.YtjoandmehahfgaaGreatDoor
open Go.RowKit Go.Sort
theorem tE {x:Int} (CK:Hid (∀ w,Mds w→Rt 14 #[.agg #[.int .u64 (l0 x),.int .u64 (l1 x),.int .u64 (l2 x),.int .u64 (l3 x),.int .u64 0,.int .u64 0,.int .u64 0,.int .u64 0,.bool false]] w (.int .i64 62))) (w:World) (hm:Mds w) :
  Rt 8 #[U4 x] w (.bool true):=by
 go_enter Tryz.func8,Tryz.ntmps8
 go_wp2_with fail
 refine aa (fun W=>Below w.heap.size w W∧Mds W) ⟨by repeat (first|with_reducible exact Below.refl _ _|with_reducible refine Below.alloc ?_ (by first|omega|(simp;done)|(simp;omega)) _),hm.alloc _⟩ ?_
 rintro W ⟨B,hD⟩
 with_reducible refine (CK.out _ hD).mono ?_
 rintro e w9 ⟨rfl,hb⟩
 replace B:=B.trans (hb.mono B.size)
 clear hb W hD
 go_wp2
 simp [bodyPost,results,Tryz.results8,go_sem]
 exact B
theorem wJ {x:Int} (CK:Hid (∀ w,Mds w→Rt 14 #[.agg #[.int .u64 (l0 x),.int .u64 (l1 x),.int .u64 (l2 x),.int .u64 (l3 x),.int .u64 0,.int .u64 0,.int .u64 0,.int .u64 0,.bool false]] w (.int .i64 61))) (w:World) (hm:Mds w) :
  Rt 8 #[U4 x] w (.bool false):=by
 go_enter Tryz.func8,Tryz.ntmps8
 go_wp2_with fail
 refine aa (fun W=>Below w.heap.size w W∧Mds W) ⟨by repeat (first|with_reducible exact Below.refl _ _|with_reducible refine Below.alloc ?_ (by first|omega|(simp;done)|(simp;omega)) _),hm.alloc _⟩ ?_
 rintro W ⟨B,hD⟩
 with_reducible refine (CK.out _ hD).mono ?_
 rintro e w9 ⟨rfl,hb⟩
 replace B:=B.trans (hb.mono B.size)
 clear hb W hD
 go_wp2
 simp [bodyPost,results,Tryz.results8,go_sem]
 exact B
theorem wK {x:Int} {D:List Value} (eD:Hid (D=(List.replicate 20 (0:Int)).map (Value.int .u8))) (IK:Hid (∀ w,Mds w→Rt 8 #[U4 x] w (.bool false))) (w:World) (hm:Mds w) :
  Rt 4 #[U4 x] w (.tuple #[.agg D.toArray,.int .i64 60]):=by
 go_enter Tryz.func4,Tryz.ntmps4
 go_wp2_with fail
 refine aa (fun W=>Below w.heap.size w W∧Mds W∧Bts W (w.heap.size+1) (List.replicate 20 0)) ⟨by repeat (first|with_reducible exact Below.refl _ _|with_reducible refine Below.alloc ?_ (by first|omega|(simp;done)|(simp;omega)) _),(hm.alloc _).alloc _,Bts.new (List.replicate 20 0) _ (by simp)⟩ ?_
 rintro W ⟨B,hM,hR⟩
 with_reducible refine (IK.out _ hM).mono ?_
 rintro e w9 ⟨rfl,hb⟩
 replace B:=B.trans (hb.mono B.size)
 replace hR:=hR.keep (by simp) hb
 clear hb W hM
 have tr:=hR.there (k:=((List.replicate 20 (0:Int)).map (Value.int .u8)).toArray.size) (by simp)
 have o1:w.heap.size≤w.heap.size+1:=by omega
 have RR:Hid (Bts w9 (w.heap.size+1) (List.replicate 20 0)):=hR
 clear hR
 generalize w.heap.size+1=br at *
 go_wp2_with ((refine wpList_store_mid rfl 26 _ _ rfl br 0 ((List.replicate 20 (0:Int)).map (Value.int .u8)).toArray rfl rfl tr (by kernel_rfl) (aU _) ?_);(refine aN (fun W=>Below w.heap.size w W∧W.rangeAt br 0 D) (by rw [eD.out];exact b9 B o1 (RR.out.there (by simp))) ?_);(rintro W ⟨B',hD⟩))
 have ld:=run_loadVar_mid (P:=Tryz.prog) W br 0 26 D _ hD Tryz.underlying26 rfl (by rw [eD.out];kernel_rfl)
 refine bodyPost_ret (v:=.tuple #[.agg D.toArray,.int .i64 60]) ?_ rfl ⟨rfl,B'⟩
 simp [results,Tryz.results4,asAddr,ld]
theorem zx {k x y e0:Int} {i:Bool} {D:List Value} (kD:D.length=20) (oc:D.toArray.all (·.oneCell')=true)
  (IK:Hid (∀ w,Mds w→Rt 8 #[U4 k] w (.bool true)))
  (MG:Hid (∀ w,Mds w→ar w→Rt 10 #[U4 k] w (P9 x y i)))
  (OP:Hid (∀ w,Mds w→KtA w→Rt 9 #[P9 x y i] w (.tuple #[.agg D.toArray,.int .i64 e0]))) (w:World) (hm:Mds w) (hc:ar w) (hk:KtA w) :
  Rt 4 #[U4 k] w (.tuple #[.agg D.toArray,.int .i64 e0]):=by
 have KD:Hid (D.length=20):=kD
 have sz:D.toArray.size=20:=by simp [kD]
 clear kD
 go_enter Tryz.func4,Tryz.ntmps4
 go_wp2_with fail
 refine aa (fun W=>Below w.heap.size w W∧Mds W∧ar W∧KtA W∧Nm W w.heap.size k∧Bts W (w.heap.size+1) (List.replicate 20 0)) ⟨by repeat (first|with_reducible exact Below.refl _ _|with_reducible refine Below.alloc ?_ (by first|omega|(simp;done)|(simp;omega)) _),(hm.alloc _).alloc _,(hc.alloc _).alloc _,(hk.alloc _).alloc _,(Nm.newb rfl).alloc _,Bts.new (List.replicate 20 0) _ (by simp)⟩ ?_
 rintro W ⟨B,hM,hC,hK,hN,hR⟩
 with_reducible refine (IK.out _ hM).mono ?_
 rintro e w1 ⟨rfl,hb⟩
 replace B:=B.trans (hb.mono B.size)
 replace hM:=hM.keep hb;replace hC:=hC.keep hb;replace hK:=hK.keep hb;replace hN:=hN.keep hb
 replace hR:=hR.keep (by simp) hb
 clear hb W hm hc hk
 have o1:w.heap.size≤w.heap.size+1:=by omega
 generalize w.heap.size+1=br at *
 have gN:=hN.cells
 go_wp2_with fail
 refine aa (fun W=>Below w.heap.size w W∧Mds W∧ar W∧KtA W∧Bts W br (List.replicate 20 0)) ⟨B,hM,hC,hK,hR⟩ ?_
 clear B hM hC hK hN hR gN w1
 rintro W ⟨B,hM,hC,hK,hR⟩
 with_reducible refine (MG.out _ hM hC).mono ?_
 rintro e w1 ⟨rfl,hb⟩
 replace B:=B.trans (hb.mono B.size)
 replace hM:=hM.keep hb;replace hK:=hK.keep hb
 replace hR:=hR.keep (by simp) hb
 clear hb W hC
 go_wp2_with fail
 refine aa (fun W=>Below w.heap.size w W∧Mds W∧KtA W∧Bts W br (List.replicate 20 0)) ⟨B,hM,hK,hR⟩ ?_
 clear B hM hK hR w1
 rintro W ⟨B,hM,hK,hR⟩
 with_reducible refine (OP.out _ hM hK).mono ?_
 rintro e w1 ⟨rfl,hb⟩
 replace B:=B.trans (hb.mono B.size)
 replace hR:=hR.keep (by simp) hb
 clear hb W hM hK
 have tr:=hR.there (k:=D.toArray.size) (by rw [sz];rfl)
 clear hR
 go_wp2_with ((refine wpList_store_mid rfl 26 _ _ rfl br 0 D.toArray rfl rfl tr (by rw [sz];kernel_rfl) oc ?_);(refine aN (fun W=>Below w.heap.size w W∧W.rangeAt br 0 D) (b9 B o1 (by simpa using tr)) ?_);(rintro W ⟨B',hD⟩))
 have ld:=run_loadVar_mid (P:=Tryz.prog) W br 0 26 D _ hD Tryz.underlying26 rfl (by rw [KD.out];kernel_rfl)
 refine bodyPost_ret (v:=.tuple #[.agg D.toArray,.int .i64 e0]) ?_ rfl ⟨rfl,B'⟩
 simp [results,Tryz.results4,asAddr,ld]
def Z20:List Int:=List.replicate 20 0
def ExM (x y:Int) (L:List Int):Prop:=∀ w,Mds w→Calls Tryz.prog 15 #[P9 x y false] w fun e w'=>∃ g cap,e = .returned (.tuple #[.slice (some ⟨g,0,none⟩) 65 cap,.int .i64 0])∧(∀ i,i<64→w'.cell? ⟨g,1+i,none⟩=some (.int .u8 (L.getD i 0)))∧65≤cap∧Below w.heap.size w w'
theorem Br {x y:Int} (hp:Vd x y false):ExM x y (aK x++aK y):=fun w hm=>by
 refine (ry (aX x) (aX y) rfl rfl (fun w hm=>yK (uc hp) w hm) (fun w=>km w) (fun w=>km w) w hm).mono ?_
 rintro e w' ⟨v,rfl,ho,hb⟩
 rcases ho.2 with ⟨e,hx⟩|⟨g,cap,cur,e,_,_,hle,_⟩
 ·exact absurd hx (by decide)
 ·subst e
  refine ⟨g,cap,rfl,fun i hi=>?_,hle,hb⟩
  have h:=ho.cellAt (1+i) (by omega)
  rw [h]
  have hl:(aK x++aK y).length=64:=by rw [List.length_append,aX,aX]
  rw [List.getElem?_map,show ((4:Int) :: aK x)++aK y=4 :: (aK x++aK y) from rfl,Nat.add_comm 1 i,List.getElem?_cons_succ,List.getElem?_eq_getElem (by omega),List.getD,List.getElem?_eq_getElem (by omega)]
  rfl
noncomputable def ql (x y:Int):List Int:=(pP (aK x++aK y)).drop 12
theorem kX (x y:Int):(ql x y).length=20:=by rw [ql,List.length_drop,nD]
theorem DZ {x y:Int} (hv:Vd x y false) (w:World) (hm:Mds w) (hk:KtC w):Rt 9 #[P9 x y false] w (.tuple #[.agg ((ql x y).map (Value.int .u8)).toArray,.int .i64 0]):=by
 have hl:(aK x++aK y).length=64:=by rw [List.length_append,aX,aX]
 have hb:oD (aK x++aK y):=(qU x).app (qU y)
 exact Ct hl hb rfl (Br hv) w hm hk
theorem tF {k:Int} (hn:Num k) (hf:co k=false) (w:World) (hm:Mds w):Rt 4 #[U4 k] w (.tuple #[.agg (Z20.map (Value.int .u8)).toArray,.int .i64 60]):=by
 obtain ⟨z0,z1,z2,z3⟩:=ap
 have CK:=jA (r:=k) (s:=0) (o:=false) hn ⟨by decide,by decide⟩
 ((try unfold Rt at CK);(try unfold U4 at CK);(try unfold P9 at CK);rw [z0,z1,z2,z3,show mW k 0=61 by unfold mW;rw [if_pos hf]] at CK)
 exact wK rfl (fun w hm=>wJ CK w hm) w hm
theorem wL {k x y:Int} (hn:Num k) (hf:co k=true) (hv:Vd x y false) (ep:bD x y false=EC.smul k.toNat EC.gJ.pt) (w:World) (hm:Mds w) (hc:ar w) (hk:KtC w):Rt 4 #[U4 k] w (.tuple #[.agg ((ql x y).map (Value.int .u8)).toArray,.int .i64 0]):=by
 obtain ⟨z0,z1,z2,z3⟩:=ap
 have CK:=jA (r:=k) (s:=0) (o:=false) hn ⟨by decide,by decide⟩
 have f0:co 0=false:=by decide
 ((try unfold Rt at CK);(try unfold U4 at CK);(try unfold P9 at CK);rw [z0,z1,z2,z3,show mW k 0=62 by unfold mW;rw [if_neg (by rw [hf];decide),if_pos f0]] at CK)
 exact zx (by rw [List.length_map];exact kX x y) (aU _) (fun w hm=>tE CK w hm) (fun w hm hc=>o7 hn hv ep w hm hc) (fun w hm hk=>DZ hv w hm hk) w hm hc hk
end Go.Proofs.YtjoandmehahfgaaGreatDoor
