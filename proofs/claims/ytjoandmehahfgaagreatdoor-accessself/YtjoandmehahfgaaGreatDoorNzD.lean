import Derived.Test.YtjoandmehahfgaaGreatDoorAb
import Derived.Test.YtjoandmehahfgaaGreatDoorNzN
import Derived.Test.YtjoandmehahfgaaGreatDoorMul2
import Derived.Test.YtjoandmehahfgaaGreatDoorCLaid
import Derived.Test.YtjoandmehahfgaaGreatDoorGet
import Derived.Laws.EntriesVeiled
set_option maxRecDepth 100000
set_option maxHeartbeats 8000000
namespace Go.Proofs.YtjoandmehahfgaaGreatDoor
open Go.RowKit Go.Sort
theorem Nm.newZ {W:World} {b:Nat} {t:TypeId} {n:Int} (e:b=W.heap.size):Nm (W.alloc (.cells #[.int .u64 (l0 n),.int .u64 (l1 n),.int .u64 (l2 n),.int .u64 (l3 n)] t)) b n:=by
 subst e
 intro i hi
 rw [World.cell?_alloc_mark]
 have:i<4:=by simpa using hi
 rcases (by omega:i=0∨i=1∨i=2∨i=3) with rfl|rfl|rfl|rfl<;>rfl
theorem Da:(S.byts (List.replicate 32 0)).toArray=#[.int .u8 0,.int .u8 0,.int .u8 0,.int .u8 0,.int .u8 0,.int .u8 0,.int .u8 0,.int .u8 0,.int .u8 0,.int .u8 0,.int .u8 0,.int .u8 0,.int .u8 0,.int .u8 0,.int .u8 0,.int .u8 0,.int .u8 0,.int .u8 0,.int .u8 0,.int .u8 0,.int .u8 0,.int .u8 0,.int .u8 0,.int .u8 0,.int .u8 0,.int .u8 0,.int .u8 0,.int .u8 0,.int .u8 0,.int .u8 0,.int .u8 0,.int .u8 0]:=by
 have h:S.Y 0#8=0:=S.Y_zero
 simp [S.byts,List.replicate,h]
theorem ou (dst:Option Tmp) (pos:String) (ty:TypeId) (ρ:Operand→Value) (w:World):(execOp ρ { dst:=dst,op:=Op.alloc 46,type:=ty,pos:=pos,after:=#[],guard:=none }).run Tryz.prog w = .ok (.value (.pointer (some ⟨w.heap.size,0,none⟩))) (w.alloc (.cells (S.byts (List.replicate 32 0)).toArray 46)):=by
 rw [Da]
 simp [execOp,go_sem]
structure FrZ (w W:World) (b5 b6 bk bv:Nat) (L1 L2 K V:List (BitVec 8)):Prop where
 below:Below w.heap.size w W
 tab:ShT W
 d:S.Hsh W b5 L1
 e:S.Hsh W b6 L2
 k:S.Hsh W bk K
 v:S.Hsh W bv V
theorem FrZ.keep {w W W':World} {b5 b6 bk bv:Nat} {L1 L2 K V:List (BitVec 8)} (h:FrZ w W b5 b6 bk bv L1 L2 K V) (hb:Below W.heap.size W W'):FrZ w W' b5 b6 bk bv L1 L2 K V :=
 ⟨h.below.trans (hb.mono h.below.size),h.tab.keep hb,h.d.keep hb,h.e.keep hb,h.k.keep hb,h.v.keep hb⟩
theorem FrZ.stir {w W W':World} {b5 b6 bk bv:Nat} {L1 L2 K V:List (BitVec 8)} {s:KvZ} (h:FrZ w W b5 b6 bk bv L1 L2 K V) (hk:mv W' bk bv s) (hb:BtZ (fun k=>k=bk∨k=bv) W W') (n:b5≠bk∧b5≠bv∧b6≠bk∧b6≠bv∧bk≠bv∧w.heap.size≤bk∧w.heap.size≤bv) (t:(bk≠4∧bk≠5)∧bv≠4∧bv≠5):FrZ w W' b5 b6 bk bv L1 L2 s.k s.v :=
 ⟨h.below.trans (hb.below h.below.size fun k e=>by omega),hb.sht ⟨fun e=>e.elim (fun e=>t.1.1 e.symm) (fun e=>t.2.1 e.symm),fun e=>e.elim (fun e=>t.1.2 e.symm) (fun e=>t.2.2 e.symm)⟩ h.tab,hb.hsh (fun e=>e.elim n.1 n.2.1) h.d,hb.hsh (fun e=>e.elim n.2.2.1 n.2.2.2.1) h.e,hk.1,hk.2⟩
theorem zi {i:Nat} (h:i<32):(List.replicate i (1:BitVec 8)++List.replicate (32-i) 0).set i 1=List.replicate (i+1) 1++List.replicate (32-(i+1)) 0:=by
 rw [List.set_append_right _ _ (by simp),List.length_replicate,Nat.sub_self,show 32-i=(32-(i+1))+1 by omega,List.replicate_succ,List.set_cons_zero,List.replicate_succ' (n:=i),List.append_assoc]
 rfl
theorem zj {x y:Int} {L1 L2:List (BitVec 8)} {M1 M2:List Value} (r1:L1.length=32) (r2:L2.length=32) (e1:Hid (M1=S.byts L1)) (e2:Hid (M2=S.byts L2)) (C1:Hid (∀ w,Rt 38 #[U4 x] w (.agg M1.toArray))) (C2:Hid (∀ w,Rt 38 #[U4 y] w (.agg M2.toArray))) (w:World) (ht:ShT w) :
    Calls Tryz.prog 53 #[U4 x,U4 y] w fun e w'=>∃ bf bs bk bv,e = .returned (.func (.func 85) #[] #[.pointer (some ⟨bf,0,none⟩),.pointer (some ⟨bs,0,none⟩),.pointer (some ⟨bk,0,none⟩),.pointer (some ⟨bv,0,none⟩)])∧NxZ w' bf bs bk bv true (za L1 L2)∧ApZ bf bs bk bv∧(w.heap.size≤bf∧w.heap.size≤bk∧w.heap.size≤bv)∧Below w.heap.size w w':=by
  have T0:Hid (4<w.heap.size∧5<w.heap.size):=ht.lt
  go_enter Tryz.func53,Tryz.ntmps53
  go_wp2_with fail
  refine ah (fun W=>Below w.heap.size w W∧ShT W∧Nm W w.heap.size x∧Nm W (w.heap.size+1) y) ⟨by repeat (first|with_reducible exact Below.refl _ _|with_reducible refine Below.alloc ?_ (by first|omega|(simp;done)|(simp;omega)) _),(ht.keep ((Below.refl _ _).alloc (Nat.le_refl _) _)).keep ((Below.refl _ _).alloc (Nat.le_refl _) _),(Nm.newZ rfl).alloc _,Nm.newZ (by simp)⟩ ?_
  clear ht
  rintro W ⟨B,hT,hX,hY⟩
  refine fq (A:=?AA) 4 (by kernel_rfl) (by kernel_rfl) rfl rfl rfl rfl (ou _ _ _) (ou _ _ _) (fun V hV=>?HH) (fun V V2 w1 hV hw hV2 hw2 hdd=>?TT)
  case HH =>
    have ghX:=(hX.keep hV).grown
    have ghY:=(hY.keep hV).grown
    unfold Gr
    simp only [List.take_succ_cons,List.take_zero]
    repeat
      first
        | go_big_quiet_skip
        | (go_big_quiet_want;go_big_quiet_op;go_big_quiet_on)
        | (go_big_quiet_want
           go_big_quiet_op
           apply Exists.intro
           refine ⟨fun p=>?_,?_⟩
           · (first|(go_at_call 38;with_reducible exact Calls.regrown_of (C1.out _))|(go_at_call 38;with_reducible exact Calls.regrown_of (C2.out _)))
           go_big_quiet_on)
    refine wpQuiet_nil ?_
    exact rfl
  case TT =>
    have hb:=au hV hw
    have h5:=(S.Hsh.new (M:=List.replicate 32 0) (by simp) 46 (W:=V) rfl).keep hw
    have h6:=(S.Hsh.new (M:=List.replicate 32 0) (by simp) 46 (W:=V2) rfl).keep hw2
    have g5:w.heap.size≤V.heap.size:=Nat.le_trans B.size hV.size
    have g6:w.heap.size≤V2.heap.size:=Nat.le_trans B.size hV2.size
    replace B:=B.trans (hb.mono B.size)
    replace hT:=hT.keep hb
    clear hb hw hw2 hV hV2 hX hY W
    generalize V.heap.size=b5 at *
    generalize V2.heap.size=b6 at *
    clear V V2
    have k1:M1.length=32:=by rw [e1.out,S.byts_len];exact r1
    have k2:M2.length=32:=by rw [e2.out,S.byts_len];exact r2
    have sz1:M1.toArray.size=32:=by rw [List.size_toArray];exact k1
    have sz2:M2.toArray.size=32:=by rw [List.size_toArray];exact k2
    have t1:w1.there b5 0 M1.toArray.size:=by rw [sz1];exact h5.there
    have t2:(w1.setCells b5 0 M1).there b6 0 M2.toArray.size:=by rw [sz2];exact World.there_setCells h6.there b5 0 M1
    have oc1:M1.toArray.all (·.oneCell')=true:=by rw [e1.out];exact S.one_byts L1
    have oc2:M2.toArray.all (·.oneCell')=true:=by rw [e2.out];exact S.one_byts L2
    have FF:Hid (Below w.heap.size w ((w1.setCells b5 0 M1).setCells b6 0 M2)∧ShT ((w1.setCells b5 0 M1).setCells b6 0 M2)∧S.Hsh ((w1.setCells b5 0 M1).setCells b6 0 M2) b5 L1∧S.Hsh ((w1.setCells b5 0 M1).setCells b6 0 M2) b6 L2):=by
      rw [e1.out,e2.out]
      have o1:=dJ (M:=L1) h5 r1
      have o2:=dJ (M:=L2) (h6.off o1.2 (Ne.symm hdd)) r2
      have bt:BtZ (fun k=>k=b5∨k=b6) w1 ((w1.setCells b5 0 (S.byts L1)).setCells b6 0 (S.byts L2)):=(BtZ.off (.inl rfl) o1.2).trans (BtZ.off (.inr rfl) o2.2)
      have l1:=T0.out
      exact ⟨B.trans (bt.below B.size (fun k h=>by omega)),bt.sht ⟨fun h=>by omega,fun h=>by omega⟩ hT,o1.1.off o2.2 hdd,o2.1⟩
    clear B h5 h6 hT
    simp only [List.drop_succ_cons,List.drop_zero,Act.put,List.setIfInBounds_toArray,List.set_cons_zero,List.set_cons_succ]
    go_wp2_with (first|refine wpList_store_mid rfl 46 _ _ rfl b5 0 M1.toArray rfl rfl t1 (by rw [sz1];kernel_rfl) oc1 ?_|(refine wpList_store_mid rfl 46 _ _ rfl b6 0 M2.toArray rfl rfl t2 (by rw [sz2];kernel_rfl) oc2 ?_;refine aF (fun W=>Below w.heap.size w W∧ShT W∧S.Hsh W b5 L1∧S.Hsh W b6 L2) FF.out ?_;clear FF t1 t2 oc1 oc2 sz1 sz2;rintro W HW))
    have w5:=HW.2.2.1.lt
    have w6:=HW.2.2.2.lt
    have BA:∀ (V:World) o,Below V.heap.size V (V.alloc o):=fun V o=>(Below.refl _ _).alloc (Nat.le_refl _) o
    refine ah (fun V=>FrZ w V b5 b6 W.heap.size (W.heap.size+1) L1 L2 (List.replicate 32 0) (List.replicate 32 0)) ⟨(HW.1.alloc HW.1.size _).alloc (by simp;have:=HW.1.size;omega) _,(HW.2.1.keep (BA _ _)).keep (BA _ _),(HW.2.2.1.keep (BA _ _)).keep (BA _ _),(HW.2.2.2.keep (BA _ _)).keep (BA _ _),(S.Hsh.zeros _ rfl).keep (BA _ _),S.Hsh.zeros _ (by simp)⟩ ?_
    rintro W2 H2
    have NN:Hid (b5≠W.heap.size∧b5≠W.heap.size+1∧b6≠W.heap.size∧b6≠W.heap.size+1∧W.heap.size≠W.heap.size+1∧w.heap.size≤W.heap.size∧w.heap.size≤W.heap.size+1):=by
      have:=HW.1.size
      exact ⟨by omega,by omega,by omega,by omega,by omega,by omega,by omega⟩
    clear HW w5 w6 BA
    generalize W.heap.size+1=bv at *
    generalize W.heap.size=bk at *
    clear W w1
    go_loopg [16] 32 (fun k iv wr=>∃ i:Nat,k=32-i∧i≤32∧iv = .int .i64 i∧FrZ w wr b5 b6 bk bv L1 L2 (List.replicate 32 0) (List.replicate i 1++List.replicate (32-i) 0))
    case atStart=>exact ⟨0,rfl,by decide,rfl,H2⟩
    case round =>
      clear H2
      obtain ⟨i,hk,hi,rfl,hf⟩:=hrel
      have HK:Hid (gk=32-i):=hk
      have HF:Hid (FrZ w wr b5 b6 bk bv L1 L2 (List.replicate 32 0) (List.replicate i 1++List.replicate (32-i) 0)):=hf
      clear hk hf
      by_cases h8:i=32
      · subst h8
        rw [show List.replicate 32 (1:BitVec 8)++List.replicate (32-32) 0=List.replicate 32 1 from rfl] at HF
        go_wp2_with fail
        refine ah (fun W=>FrZ w W b5 b6 bk bv L1 L2 (⟨List.replicate 32 0,List.replicate 32 1⟩:KvZ).k (⟨List.replicate 32 0,List.replicate 32 1⟩:KvZ).v∧W.cell? ⟨wr.heap.size,0,none⟩=some (.func (.func 83) #[] #[.pointer (some ⟨bk,0,none⟩),.pointer (some ⟨bv,0,none⟩)])) ⟨HF.out.keep ((Below.refl _ _).alloc (Nat.le_refl _) _),by rw [World.cell?_alloc_mark];rfl⟩ ?_
        have BS:Hid (wr.heap.size≠bk∧wr.heap.size≠bv∧bk<wr.heap.size∧bv<wr.heap.size):=by
          have h1:=HF.out.k.lt
          have h2:=HF.out.v.lt
          exact ⟨by omega,by omega,h1,h2⟩
        have BW:Hid (w.heap.size≤wr.heap.size):=HF.out.below.size
        generalize wr.heap.size=bs at *
        clear HF HK
        rintro W H3
        have TN:Hid ((bk≠4∧bk≠5)∧bv≠4∧bv≠5):=by
          have h1:=T0.out
          have h2:=NN.out
          exact ⟨⟨by omega,by omega⟩,by omega,by omega⟩
        refine wp_region_held_drew (S:=fun V=>V.cell? ⟨bs,0,none⟩=some (.func (.func 83) #[] #[.pointer (some ⟨bk,0,none⟩),.pointer (some ⟨bv,0,none⟩)])) (by kernel_rfl) (by exact H3.2) (fun hHeld=>?_)
        refine cW (i:=0) (oi:=_) (v:=.func (.func 83) #[] #[.pointer (some ⟨bk,0,none⟩),.pointer (some ⟨bv,0,none⟩)]) 23 rfl (by kernel_rfl) (by kernel_rfl) (by kernel_rfl) (by kernel_rfl) (fun _ _ _ h=>h) (Or.inl ⟨by kernel_rfl,?_⟩) (by assumption) ?_
        · intro wq hSw
          have _:=hSw
          go_simp
        simp only [Act.put,List.setIfInBounds_toArray,List.set_cons_succ,List.set_cons_zero]
        refine cW (i:=1) (oi:=_) (v:=.slice (some ⟨b5,0,none⟩) 32 32) 24 rfl (by kernel_rfl) (by kernel_rfl) (by kernel_rfl) (by kernel_rfl) (fun _ _ _ h=>h) (Or.inl ⟨by kernel_rfl,?_⟩) (by assumption) ?_
        · intro wq hSw
          have _:=hSw
          go_simp
        simp only [Act.put,List.setIfInBounds_toArray,List.set_cons_succ,List.set_cons_zero]
        refine cW (i:=2) (oi:=_) (v:=.slice (some ⟨b6,0,none⟩) 32 32) 25 rfl (by kernel_rfl) (by kernel_rfl) (by kernel_rfl) (by kernel_rfl) (fun _ _ _ h=>h) (Or.inl ⟨by kernel_rfl,?_⟩) (by assumption) ?_
        · intro wq hSw
          have _:=hSw
          go_simp
        simp only [Act.put,List.setIfInBounds_toArray,List.set_cons_succ,List.set_cons_zero]
        refine wpAnyH_ready (rs:=[3]) (by kernel_rfl) (by simp) ?_
        refine AllReadyH.cons rfl (fun K hK=>?_) AllReadyH.nil
        go_simp
        go_wp2_with fail
        refine d9 (fun U=>Below W.heap.size W U∧S.Prts U W.heap.size 0 [⟨some ⟨b5,0,none⟩,b5,0,32,L1⟩,⟨some ⟨b6,0,none⟩,b6,0,32,L2⟩]) ⟨((Below.refl _ _).alloc (Nat.le_refl _) _).drew,pg (lO rfl (by rw [S.Part.val,r1]) (by rw [S.Part.val,r2]) (cC H3.1.d (Nat.le_refl _)) (cC H3.1.e (Nat.le_refl _))) (Below.refl _ _).drew⟩ ?_
        rintro U ⟨BU,hP2⟩
        refine hK.out _ _ (S.cell_keep BU H3.2) (fun hHeld=>?_)
        clear hK K hHeld
        have H4:=H3.1.keep BU
        have c4:=S.cell_keep BU H3.2
        refine wpAnyH_ready (rs:=[4]) (by kernel_rfl) (by simp) ?_
        refine AllReadyH.cons rfl (fun K hK=>?_) AllReadyH.nil
        go_simp
        refine (ot (s:=(⟨List.replicate 32 0,List.replicate 32 1⟩:KvZ)) (m:=0) (mb:=0) (PS:=[⟨some ⟨b5,0,none⟩,b5,0,32,L1⟩,⟨some ⟨b6,0,none⟩,b6,0,32,L2⟩]) (n:=2) (cp:=2) (a:=some ⟨W.heap.size,0,none⟩) (bp:=W.heap.size) (op:=0) (by rw [S.Y_eq];rfl) rfl (by decide) (.inr ⟨by simp,rfl⟩) (by simp only [S.catX,List.flatMap_cons,List.flatMap_nil,List.append_nil,List.length_append];omega) NN.out.2.2.2.2.1 U ⟨H4.k,H4.v⟩ hP2 H4.tab TN.out).mono ?_
        rintro e U2 ⟨rfl,hkv,hbt⟩
        have ec:S.catX [⟨some ⟨b5,0,none⟩,b5,0,32,L1⟩,⟨some ⟨b6,0,none⟩,b6,0,32,L2⟩]=L1++L2:=by simp [S.catX]
        rw [ec] at hkv
        have H5:=H4.stir hkv hbt NN.out TN.out
        have c5:=hbt.cell (p:=⟨bs,0,none⟩) (fun h=>h.elim BS.out.1 BS.out.2.1) c4
        refine hK.out _ _ c5 (fun hHeld=>?_)
        clear hK K hHeld
        refine wpAnyH_done (by kernel_rfl) ?_ _
        clear H3 H4 c4 hbt hkv ec hP2 BU
        go_wp2_with fail
        refine ah (fun W=>FrZ w W b5 b6 bk bv L1 L2 (dh ⟨List.replicate 32 0,List.replicate 32 1⟩ ([0]++(L1++L2))).k (dh ⟨List.replicate 32 0,List.replicate 32 1⟩ ([0]++(L1++L2))).v∧W.cell? ⟨bs,0,none⟩=some (.func (.func 83) #[] #[.pointer (some ⟨bk,0,none⟩),.pointer (some ⟨bv,0,none⟩)])) ⟨H5,c5⟩ ?_
        clear H5 c5 hHeld
        clear U2 U
        rintro W2 H3
        refine wp_region_held_drew (S:=fun V=>V.cell? ⟨bs,0,none⟩=some (.func (.func 83) #[] #[.pointer (some ⟨bk,0,none⟩),.pointer (some ⟨bv,0,none⟩)])) (by kernel_rfl) (by exact H3.2) (fun hHeld=>?_)
        refine cW (i:=0) (oi:=_) (v:=.func (.func 83) #[] #[.pointer (some ⟨bk,0,none⟩),.pointer (some ⟨bv,0,none⟩)]) 28 rfl (by kernel_rfl) (by kernel_rfl) (by kernel_rfl) (by kernel_rfl) (fun _ _ _ h=>h) (Or.inl ⟨by kernel_rfl,?_⟩) (by assumption) ?_
        · intro wq hSw
          have _:=hSw
          go_simp
        simp only [Act.put,List.setIfInBounds_toArray,List.set_cons_succ,List.set_cons_zero]
        refine cW (i:=1) (oi:=_) (v:=.slice (some ⟨b5,0,none⟩) 32 32) 29 rfl (by kernel_rfl) (by kernel_rfl) (by kernel_rfl) (by kernel_rfl) (fun _ _ _ h=>h) (Or.inl ⟨by kernel_rfl,?_⟩) (by assumption) ?_
        · intro wq hSw
          have _:=hSw
          go_simp
        simp only [Act.put,List.setIfInBounds_toArray,List.set_cons_succ,List.set_cons_zero]
        refine cW (i:=2) (oi:=_) (v:=.slice (some ⟨b6,0,none⟩) 32 32) 30 rfl (by kernel_rfl) (by kernel_rfl) (by kernel_rfl) (by kernel_rfl) (fun _ _ _ h=>h) (Or.inl ⟨by kernel_rfl,?_⟩) (by assumption) ?_
        · intro wq hSw
          have _:=hSw
          go_simp
        simp only [Act.put,List.setIfInBounds_toArray,List.set_cons_succ,List.set_cons_zero]
        refine wpAnyH_ready (rs:=[3]) (by kernel_rfl) (by simp) ?_
        refine AllReadyH.cons rfl (fun K hK=>?_) AllReadyH.nil
        go_simp
        go_wp2_with fail
        refine d9 (fun U=>Below W2.heap.size W2 U∧S.Prts U W2.heap.size 0 [⟨some ⟨b5,0,none⟩,b5,0,32,L1⟩,⟨some ⟨b6,0,none⟩,b6,0,32,L2⟩]) ⟨((Below.refl _ _).alloc (Nat.le_refl _) _).drew,pg (lO rfl (by rw [S.Part.val,r1]) (by rw [S.Part.val,r2]) (cC H3.1.d (Nat.le_refl _)) (cC H3.1.e (Nat.le_refl _))) (Below.refl _ _).drew⟩ ?_
        rintro U ⟨BU,hP2⟩
        refine hK.out _ _ (S.cell_keep BU H3.2) (fun hHeld=>?_)
        clear hK K hHeld
        have H4:=H3.1.keep BU
        have c4:=S.cell_keep BU H3.2
        refine wpAnyH_ready (rs:=[4]) (by kernel_rfl) (by simp) ?_
        refine AllReadyH.cons rfl (fun K hK=>?_) AllReadyH.nil
        go_simp
        refine (ot (s:=(dh ⟨List.replicate 32 0,List.replicate 32 1⟩ ([0]++(L1++L2)))) (m:=1) (mb:=1) (PS:=[⟨some ⟨b5,0,none⟩,b5,0,32,L1⟩,⟨some ⟨b6,0,none⟩,b6,0,32,L2⟩]) (n:=2) (cp:=2) (a:=some ⟨W2.heap.size,0,none⟩) (bp:=W2.heap.size) (op:=0) (by rw [S.Y_eq];rfl) rfl (by decide) (.inr ⟨by simp,rfl⟩) (by simp only [S.catX,List.flatMap_cons,List.flatMap_nil,List.append_nil,List.length_append];omega) NN.out.2.2.2.2.1 U ⟨H4.k,H4.v⟩ hP2 H4.tab TN.out).mono ?_
        rintro e U2 ⟨rfl,hkv,hbt⟩
        have ec:S.catX [⟨some ⟨b5,0,none⟩,b5,0,32,L1⟩,⟨some ⟨b6,0,none⟩,b6,0,32,L2⟩]=L1++L2:=by simp [S.catX]
        rw [ec] at hkv
        have H5:=H4.stir hkv hbt NN.out TN.out
        have c5:=hbt.cell (p:=⟨bs,0,none⟩) (fun h=>h.elim BS.out.1 BS.out.2.1) c4
        refine hK.out _ _ c5 (fun hHeld=>?_)
        clear hK K hHeld
        refine wpAnyH_done (by kernel_rfl) ?_ _
        clear H3 H4 c4 hbt hkv ec hP2 BU
        go_wp2_with fail
        have lk:=H5.k.lt
        have lv:=H5.v.lt
        have ls:=World.block_lt_of_cell? U2 _ c5
        have B9:=(Below.refl U2.heap.size U2).alloc (Nat.le_refl _) (.cells #[.bool true] 4)
        have H6:=H5.keep B9
        have be:za L1 L2=(dh (dh ⟨List.replicate 32 0,List.replicate 32 1⟩ ([0]++(L1++L2))) ([1]++(L1++L2))):=by unfold za;rw [List.append_assoc,List.append_assoc]
        refine bodyPost_ret (v:=.func (.func 85) #[] #[.pointer (some ⟨U2.heap.size,0,none⟩),.pointer (some ⟨bs,0,none⟩),.pointer (some ⟨bk,0,none⟩),.pointer (some ⟨bv,0,none⟩)]) ?_ rfl ⟨U2.heap.size,bs,bk,bv,rfl,⟨by rw [World.cell?_alloc_mark];rfl,by simp [go_sem],S.cell_keep B9 c5,by rw [be];exact ⟨H6.k,H6.v⟩⟩,⟨by have:=World.block_lt_of_cell? U2 _ c5;simp only at this;omega,by omega,by omega,BS.out.1,BS.out.2.1,NN.out.2.2.2.2.1,TN.out.1,TN.out.2,by have h1:=T0.out;have h2:=H5.below.size;exact ⟨by omega,by omega⟩⟩,⟨H5.below.size,NN.out.2.2.2.2.2.1,NN.out.2.2.2.2.2.2⟩,H6.below⟩
        simp [results,Tryz.results53]
      · have hi':(i:Int)<32:=by omega
        have g0:=HF.out.v.2.1 i (by omega)
        have f0:=HF.out.v.2.2 i (by omega)
        have NX:Hid ((List.replicate i (1:BitVec 8)++List.replicate (32-i) 0).set i 1=List.replicate (i+1) 1++List.replicate (32-(i+1)) 0):=zi (by omega)
        generalize (List.replicate i (1:BitVec 8)++List.replicate (32-i) 0).getD i 0=z at *
        go_wp2
        go_roundg (32-(i+1))
        case measure=>have:=HK.out;omega
        case rel =>
          refine ⟨i+1,rfl,by omega,by go_num,?_⟩
          rw [←NX.out]
          obtain ⟨n1,n2,n3,n4,n5,n6,n7⟩:=NN.out
          have o1:=(S.Off.refl bv wr).setCell (i:=i) (.int .u8 1)
          have lt:=T0.out
          have y1:S.Y 1=1:=by rw [S.Y_eq];rfl
          have hs:=HF.out.v.set i (by omega) 1
          rw [y1] at hs
          exact ⟨HF.out.below.setCell n7 _,⟨fun j hj=>o1.cell (by show 4≠bv;omega) (HF.out.tab.1 j hj),fun j hj=>o1.cell (by show 5≠bv;omega) (HF.out.tab.2 j hj)⟩,HF.out.d.off o1 n2,HF.out.e.off o1 n4,HF.out.k.off o1 n5,hs⟩
open Go.RowKit Go.Sort
theorem Bn {P:Program} {a:Act} {op:Oper} (ty:TypeId) (x:Operand) (ho:op.op = .load ty x) (b o:Nat) (hx:a.eval x = .pointer (some ⟨b,o,none⟩)) (cs:List Value) (d:TypeDesc) {w:World} (hc:w.rangeAt b o cs)
  (hu:P.underlying ty=some d) (hd:d.isRow=true) (hi:(P.info? ty).map (·.size)=some cs.length):(execOp a.eval op).run P w = .ok (.value (.agg cs.toArray)) w:=by
 unfold execOp
 simp only [ho,hx,Instr.loadAt,Instr.sureAddr,Sem.run_bind,Sem.run_pure,Result.andThen_ok,run_loadVar_mid w b o ty cs d hc hu hd hi]
theorem tD (n:Int):iu (aK n):=fun i=>by
 by_cases h:i<32
 ·rw [fY n h];exact ⟨Int.emod_nonneg _ (by decide),Int.emod_lt_of_pos _ (by decide)⟩
 ·have:(aK n).getD i 0=0:=by simp [List.getD,List.getElem?_eq_none (show (aK n).length≤i by rw [aX];omega)]
  rw [this];decide
def pbZ (n:Int):List (BitVec 8):=bvZ (aK n)
theorem uz (n:Int):(pbZ n).length=32:=by rw [pbZ,Bi,aX]
theorem rP {n:Int} (w:World):Rt 38 #[U4 n] w (.agg (S.byts (pbZ n)).toArray):=by
 rw [pbZ,y7 (tD n)]
 exact km w
def stZ (key d:Int):KvZ:=za (pbZ key) (pbZ d)
theorem wB {x y:Int} (w:World) (ht:ShT w) :
  Calls Tryz.prog 53 #[U4 x,U4 y] w fun e w'=>∃ bf bs bk bv,e = .returned (.func (.func 85) #[] #[.pointer (some ⟨bf,0,none⟩),.pointer (some ⟨bs,0,none⟩),.pointer (some ⟨bk,0,none⟩),.pointer (some ⟨bv,0,none⟩)])∧NxZ w' bf bs bk bv true (stZ x y)∧ApZ bf bs bk bv∧(w.heap.size≤bf∧w.heap.size≤bk∧w.heap.size≤bv)∧Below w.heap.size w w' :=
 zj (uz x) (uz y) rfl rfl (fun w=>rP w) (fun w=>rP w) w ht
theorem iR {W W':World} {b:Nat} {cs:List Value} (h:W.rangeAt b 0 cs) (B:Below W.heap.size W W'):W'.rangeAt b 0 cs:=fun j v hv=>cell_keep B (h j v hv)
theorem wC {key wh:Int} {A:List Int} (hl:A.length=32) (hb:wh<0∨64≤wh) (w:World) :
  Rt 23 #[U4 key,cn A,.int .i64 wh] w (.tuple #[.agg #[.int .u64 (l0 0),.int .u64 (l1 0),.int .u64 (l2 0),.int .u64 (l3 0)],.int .i64 1]):=by
 have HL:Hid (A.length=32):=hl
 clear hl
 unfold cn
 have z0:l0 0=0∧l1 0=0∧l2 0=0∧l3 0=0:=by decide
 rcases hb with hb|hb
 all_goals
  go_enter Tryz.func23,Tryz.ntmps23
  go_wp2
  simp [bodyPost,results,Tryz.results23,go_sem,z0]
  repeat (first|with_reducible exact Below.refl _ _|with_reducible refine Below.setCell ?_ (by first|omega|(simp;omega)) _|with_reducible refine Below.alloc ?_ (by first|omega|(simp;done)|(simp;omega)) _)
structure NcZ (w W:World) (key:Int) (A:List Int):Prop where
 below:Below w.heap.size w W
 mds:Mds W
 tab:ShT W
 key:ae W w.heap.size key
 dig:W.rangeAt (w.heap.size+1) 0 (A.map fun z=>Value.int .u8 z)
 res:af W (w.heap.size+1+1)
theorem NcZ.keep {w W W':World} {key:Int} {A:List Int} (h:NcZ w W key A) (B:Below W.heap.size W W'):NcZ w W' key A:=⟨h.below.trans (B.mono h.below.size),h.mds.keep B,h.tab.keep B,h.key.keep B,iR h.dig B,h.res.keep B⟩
theorem NcZ.bt {w W W':World} {key:Int} {A:List Int} {P:Nat→Prop} (h:NcZ w W key A) (b:BtZ P W W') (hP:∀ k,P k→w.heap.size+1+1<k) (hT:(4<w.heap.size∧5<w.heap.size)∧1<w.heap.size):NcZ w W' key A:=by
 have np:∀ x,x≤w.heap.size+1+1→¬P x:=fun x hx p=>by have:=hP x p;omega
 refine ⟨h.below.trans (b.below h.below.size fun k p=>by have:=hP k p;omega),b.mds (np _ (by omega)) h.mds,b.sht ⟨np _ (by omega),np _ (by omega)⟩ h.tab,?_,fun j v hv=>b.cell (p:=⟨w.heap.size+1,0+j,none⟩) (np _ (by show w.heap.size+1≤_;omega)) (h.dig j v hv),b.blank (np _ (Nat.le_refl _)) h.res⟩
 exact ⟨b.cell (p:=⟨w.heap.size,0,none⟩) (np _ (by show w.heap.size≤_;omega)) h.key.1,b.cell (p:=⟨w.heap.size,1,none⟩) (np _ (by show w.heap.size≤_;omega)) h.key.2.1,b.cell (p:=⟨w.heap.size,2,none⟩) (np _ (by show w.heap.size≤_;omega)) h.key.2.2.1,b.cell (p:=⟨w.heap.size,3,none⟩) (np _ (by show w.heap.size≤_;omega)) h.key.2.2.2⟩
theorem zk {W W':World} {b g:Nat} {n:Int} (h:ae W b n) (o:S.Off g W W') (ne:b≠g):ae W' b n:=⟨o.cell (p:=⟨b,0,none⟩) ne h.1,o.cell (p:=⟨b,1,none⟩) ne h.2.1,o.cell (p:=⟨b,2,none⟩) ne h.2.2.1,o.cell (p:=⟨b,3,none⟩) ne h.2.2.2⟩
theorem wD {W W':World} {b g:Nat} {cs:List Value} (h:W.rangeAt b 0 cs) (o:S.Off g W W') (ne:b≠g):W'.rangeAt b 0 cs:=fun j v hv=>o.cell (p:=⟨b,0+j,none⟩) ne (h j v hv)
theorem af.put {W:World} {b:Nat} (h:af W b) (n:Int):ae ((((W.setCell ⟨b,0,none⟩ (.int .u64 (l0 n))).setCell ⟨b,1,none⟩ (.int .u64 (l1 n))).setCell ⟨b,2,none⟩ (.int .u64 (l2 n))).setCell ⟨b,3,none⟩ (.int .u64 (l3 n))) b n:=by
 have g:=h.1.all4
 unfold ae
 simp [go_sem,g]
theorem ov {W:World} {cs:List Value} {t:TypeId}:(W.alloc (.cells cs.toArray t)).rangeAt W.heap.size 0 cs:=fun j v hv=>by
 rw [Nat.zero_add,World.cell?_alloc_mark]
 simpa using hv
theorem uA {w:World} {key:Int} {A:List Int} {t1 t2 t3:TypeId} (hm:Mds w) (ht:ShT w):NcZ w (((w.alloc (.cells #[.int .u64 (l0 key),.int .u64 (l1 key),.int .u64 (l2 key),.int .u64 (l3 key)] t1)).alloc (.cells (A.map fun z=>Value.int .u8 z).toArray t2)).alloc (.cells #[.int .u64 0,.int .u64 0,.int .u64 0,.int .u64 0] t3)) key A:=by
 have BA:∀ (V:World) o,Below V.heap.size V (V.alloc o):=fun V o=>(Below.refl _ _).alloc (Nat.le_refl _) o
 refine ⟨?_,((hm.alloc _).alloc _).alloc _,((ht.keep (BA _ _)).keep (BA _ _)).keep (BA _ _),((ae.new _ _ _).keep (BA _ _)).keep (BA _ _),?_,af.new (by simp)⟩
 ·exact (((Below.refl _ _).alloc (Nat.le_refl _) _).alloc (by simp) _).alloc (by simp;omega) _
 ·have:=ov (W:=w.alloc (.cells #[.int .u64 (l0 key),.int .u64 (l1 key),.int .u64 (l2 key),.int .u64 (l3 key)] t1)) (cs:=A.map fun z=>Value.int .u8 z) (t:=t2)
  rw [show (w.alloc (.cells #[.int .u64 (l0 key),.int .u64 (l1 key),.int .u64 (l2 key),.int .u64 (l3 key)] t1)).heap.size=w.heap.size+1 by simp] at this
  exact iR this (BA _ _)
theorem wE {key:Int} {wh:Nat} {A:List Int} (hl:A.length=32) (hw:wh<64) (IN:Hid (∀ w,Mds w→Rt 20 #[U4 key] w (.bool false))) (w:World) (hm:Mds w) (ht:ShT w) :
  Rt 23 #[U4 key,cn A,.int .i64 (wh:Int)] w (.tuple #[.agg #[.int .u64 (l0 0),.int .u64 (l1 0),.int .u64 (l2 0),.int .u64 (l3 0)],.int .i64 60]):=by
 have HL:Hid (A.length=32):=hl
 clear hl
 unfold cn
 have z0:l0 0=0∧l1 0=0∧l2 0=0∧l3 0=0:=by decide
 have w1:(wh:Int)<64:=by omega
 go_enter Tryz.func23,Tryz.ntmps23
 go_wp2_with fail
 refine aa (fun W=>NcZ w W key A) (uA hm ht) ?_
 clear hm ht
 rintro W HW
 with_reducible refine (IN.out _ HW.mds).mono ?_
 rintro e w2 ⟨rfl,hb⟩
 have H2:=HW.keep hb
 clear hb HW
 have gR0:=H2.res.1.all4
 have fR0:=H2.res.2.all4
 have B9:=H2.below
 clear H2
 go_wp2
 simp [bodyPost,results,Tryz.results23,go_sem,gR0,z0]
 repeat (first|with_reducible exact B9|with_reducible refine Below.setCell ?_ (by first|omega|(simp;omega)) _)
theorem zl {key d v f:Int} {wh:Nat} {A:List Int} {M:List Value} (hl:A.length=32) (hw:wh<64) (eM:M=A.map fun z=>Value.int .u8 z) (IN:Hid (∀ w,Mds w→Rt 20 #[U4 key] w (.bool true)))
  (ND:Hid (∀ w,Mds w→Rt 35 #[.agg M.toArray] w (U4 d)))
  (hv:nzV (cP (stZ key d)) wh=v) (hf:nzE (cP (stZ key d)) wh=f) (w:World) (hm:Mds w) (ht:ShT w) :
  Rt 23 #[U4 key,.agg M.toArray,.int .i64 (wh:Int)] w (.tuple #[U4 v,.int .i64 f]):=by
 have HL:Hid (M.length=32):=by rw [eM,List.length_map];exact hl
 have HV:Hid (nzV (cP (stZ key d)) wh=v∧nzE (cP (stZ key d)) wh=f∧wh<64):=⟨hv,hf,hw⟩
 have TL:Hid ((4<w.heap.size∧5<w.heap.size)∧1<w.heap.size):=⟨ht.lt,hm.lt⟩
 have w1:(wh:Int)<64:=by omega
 have NC:∀ t1 t2 t3,NcZ w (((w.alloc (.cells #[.int .u64 (l0 key),.int .u64 (l1 key),.int .u64 (l2 key),.int .u64 (l3 key)] t1)).alloc (.cells M.toArray t2)).alloc (.cells #[.int .u64 0,.int .u64 0,.int .u64 0,.int .u64 0] t3)) key A:=fun t1 t2 t3=>by rw [eM];exact uA hm ht
 have EM:Hid (M=A.map fun z=>Value.int .u8 z):=eM
 clear hl hv hf hm ht hw eM
 go_enter Tryz.func23,Tryz.ntmps23
 go_wp2_with fail
 refine aa (fun W=>NcZ w W key A) (NC _ _ _) ?_
 clear NC
 rintro W HW
 with_reducible refine (IN.out _ HW.mds).mono ?_
 rintro e w2 ⟨rfl,hb⟩
 have H2:=HW.keep hb
 clear hb HW IN
 clear W
 go_wp2_with fail
 have il:(Tryz.prog.info? 47).map (·.size)=some M.length:=by rw [HL.out];kernel_rfl
 have DG:Hid (∀ {V:World},NcZ w V key A→V.rangeAt (w.heap.size+1) 0 M):=fun {V} h=>by rw [EM.out];exact h.dig
 refine wp_region_held_drew (S:=fun V=>ae V w.heap.size key∧V.rangeAt (w.heap.size+1) 0 M) (by kernel_rfl) (by have H3:NcZ w w2.drew key A:=H2.keep (Below.refl _ _).drew;exact ⟨H3.key,DG.out H3⟩) (fun hHeld=>?_)
 refine cW (i:=0) (oi:=_) (v:=U4 key) 19 rfl (by kernel_rfl) (by kernel_rfl) (by kernel_rfl) (by kernel_rfl) (fun _ _ _ h=>h) (Or.inl ⟨by kernel_rfl,?_⟩) (by assumption) ?_
 ·intro wq hSw
  have gk:=hSw.1.cells
  go_simp
 simp only [Act.put,List.setIfInBounds_toArray,List.set_cons_succ,List.set_cons_zero]
 refine cW (i:=1) (oi:=_) (v:=.agg M.toArray) 20 rfl (by kernel_rfl) (by kernel_rfl) (by kernel_rfl) (by kernel_rfl) (fun _ _ _ h=>h) (Or.inl ⟨by kernel_rfl,?_⟩) (by assumption) ?_
 ·intro wq hSw
  exact Bn 47 _ rfl (w.heap.size+1) 0 rfl M _ hSw.2 Tryz.underlying47 rfl il
 simp only [Act.put,List.setIfInBounds_toArray,List.set_cons_succ,List.set_cons_zero]
 refine cW (i:=4) (oi:=_) (v:=.int .i64 (wh:Int)) 23 rfl (by kernel_rfl) (by kernel_rfl) (by kernel_rfl) (by kernel_rfl) (fun _ _ _ h=>h) (Or.inl ⟨by kernel_rfl,?_⟩) (by assumption) ?_
 ·intro wq hSw
  have _:=hSw
  go_simp
 simp only [Act.put,List.setIfInBounds_toArray,List.set_cons_succ,List.set_cons_zero]
 refine wpAnyH_ready (rs:=[2]) (by kernel_rfl) (by simp) ?_
 refine AllReadyH.cons rfl (fun K hK=>?_) AllReadyH.nil
 go_simp
 have H3:NcZ w w2.drew key A:=H2.keep (Below.refl _ _).drew
 with_reducible refine (ND.out _ H3.mds).mono ?_
 rintro e y1 ⟨rfl,hb⟩
 have H4:=H3.keep hb
 refine hK.out _ _ ⟨H4.key,DG.out H4⟩ (fun hHeld=>?_)
 clear hK K hb H3 H2
 refine wpAnyH_ready (rs:=[3]) (by kernel_rfl) (by simp) ?_
 refine AllReadyH.cons rfl (fun K hK=>?_) AllReadyH.nil
 go_simp
 refine (wB y1 H4.tab).mono ?_
 rintro e y2 ⟨bf,bs,bk,bv,rfl,hnx,hap,hge,hb⟩
 have H5:=H4.keep hb
 have LW:Hid (w.heap.size+1+1<y1.heap.size):=H4.res.1.lt (by simp)
 refine hK.out _ _ ⟨H5.key,DG.out H5⟩ (fun hHeld=>?_)
 clear hK K hb
 refine wpAnyH_ready (rs:=[5]) (by kernel_rfl) (by simp) ?_
 refine AllReadyH.cons rfl (fun K hK=>?_) AllReadyH.nil
 go_simp
 have hmp:MpZ bf bk bv:=mK (by have:=TL.out;have:=LW.out;omega) (by have:=TL.out;have:=LW.out;omega) (by have:=TL.out;have:=LW.out;omega)
 refine (tC (s:=stZ key d) (Bj _ _) HV.out.2.2 y2 hnx hap hmp H5.tab H5.mds).mono ?_
 rw [HV.out.1,HV.out.2.1]
 rintro e y3 ⟨rfl,hbt⟩
 have H6:=H5.bt hbt (fun k h=>by rcases h with rfl|rfl|rfl<;>(have:=LW.out;omega)) TL.out
 refine hK.out _ _ ⟨H6.key,DG.out H6⟩ (fun hHeld=>?_)
 clear hK K hbt H5 H4 hmp hnx hap hge
 refine cW (i:=6) (oi:=_) (v:=U4 v) 25 rfl (by kernel_rfl) (by kernel_rfl) (by kernel_rfl) (by kernel_rfl) (fun _ _ _ h=>h) (Or.inl ⟨by kernel_rfl,?_⟩) (by assumption) ?_
 ·intro wq hSw
  have _:=hSw
  go_simp
 simp only [Act.put,List.setIfInBounds_toArray,List.set_cons_succ,List.set_cons_zero]
 refine cW (i:=7) (oi:=_) (v:=.int .i64 f) 26 rfl (by kernel_rfl) (by kernel_rfl) (by kernel_rfl) (by kernel_rfl) (fun _ _ _ h=>h) (Or.inl ⟨by kernel_rfl,?_⟩) (by assumption) ?_
 ·intro wq hSw
  have _:=hSw
  go_simp
 simp only [Act.put,List.setIfInBounds_toArray,List.set_cons_succ,List.set_cons_zero]
 have gR0:=H6.res.1.all4
 have fR0:=H6.res.2.all4
 refine wpAnyH_ready (rs:=[8]) (by kernel_rfl) (by simp) ?_
 refine AllReadyH.cons rfl (fun K hK=>?_) AllReadyH.nil
 go_simp
 go_wp2_with fail
 have SR:=H6.res.put v
 have o4:=fun v0 v1 v2 v3=>((((S.Off.refl (w.heap.size+1+1) y3).setCell (i:=0) v0).setCell (i:=1) v1).setCell (i:=2) v2).setCell (i:=3) v3
 have b4:=fun v0 v1 v2 v3=>(o4 v0 v1 v2 v3).below (B:=w.heap.size) H6.below.size (by omega)
 have k4:=fun v0 v1 v2 v3=>zk H6.key (o4 v0 v1 v2 v3) (by omega)
 have r4:=fun v0 v1 v2 v3=>wD (DG.out H6) (o4 v0 v1 v2 v3) (by omega)
 refine d9 (fun V=>(ae V w.heap.size key∧V.rangeAt (w.heap.size+1) 0 M)∧ae V (w.heap.size+1+1) v∧Below w.heap.size w V) ⟨⟨k4 _ _ _ _,r4 _ _ _ _⟩,SR,H6.below.trans (b4 _ _ _ _)⟩ ?_
 clear SR o4 b4 k4 r4 gR0 fR0
 rintro V ⟨HS,hR,BV⟩
 refine hK.out _ _ HS (fun hHeld=>?_)
 clear hK K
 refine wpAnyH_ready (rs:=[9]) (by kernel_rfl) (by simp) ?_
 refine AllReadyH.cons rfl (fun K hK=>?_) AllReadyH.nil
 go_simp
 refine hK.out _ _ HS (fun hHeld=>?_)
 clear hK K
 refine wpAnyH_done (by kernel_rfl) ?_ _
 have gR:=hR.cells
 go_wp2
 simp [bodyPost,results,Tryz.results23,go_sem,gR]
 exact BV
end Go.Proofs.YtjoandmehahfgaaGreatDoor
