import Derived.Test.YtjoandmehahfgaaGreatDoorAb
import Derived.Test.YtjoandmehahfgaaGreatDoorAxS
import Derived.Test.YtjoandmehahfgaaGreatDoorESW
import Derived.Test.YtjoandmehahfgaaGreatDoorNzN
set_option maxRecDepth 100000
set_option maxHeartbeats 8000000
namespace Go.Proofs.YtjoandmehahfgaaGreatDoor
open Go.RowKit Go.Sort
def auZ:List Value:=[.int .u64 0,.int .u64 0,.int .u64 0,.int .u64 0]++(List.replicate 20 (.int .u8 0)++[.int .u64 0,.int .u64 0,.int .u64 0,.int .u64 0,.int .u64 0,.int .u64 0,.int .u64 0,.int .u64 0,.int .u64 0,.int .u64 0])
theorem dM:auZ.length=34:=rfl
theorem ib:auZ.toArray.all (·.oneCell')=true:=by kernel_rfl
theorem kU (w:World):(zeroValue 28).run Tryz.prog w = .ok (.agg auZ.toArray) w:=by
 have h:(Tryz.prog.info? 28).map (·.zero)=some (some (.agg auZ.toArray)):=by kernel_rfl
 obtain ⟨i,hi,hz⟩:=Option.map_eq_some_iff.1 h
 simp [zeroValue,typeInfo,go_sem,hi,hz]
theorem eV:Tryz.prog.built 28 []=some auZ.toArray:=by kernel_rfl
theorem ic {W:World} {b:Nat} {Z:List Value} {t:TypeId} (e:b=W.heap.size):(W.alloc (.cells Z.toArray t)).there b 0 Z.toArray.size:=by subst e;exact bB rfl rfl
theorem pj {key:Int} {M:List Value} (m24:M[24]?=some (.int .u64 18446744073709551615)) (w:World) :
  Rt 5 #[.agg M.toArray,U4 key] w (.tuple #[.agg auZ.toArray,.int .i64 141]):=by
 have zh:=kU
 have bz:=eV
 have on:=ib
 have lz:=dM
 generalize auZ=Z at *
 have iz:(Tryz.prog.info? 28).map (·.size)=some Z.toArray.size:=by rw [List.size_toArray,lz];exact bP
 have iz':(Tryz.prog.info? 28).map (·.size)=some Z.length:=by rw [lz];exact bP
 have B0:∀ o1 o2 o3,Below w.heap.size w (((w.alloc o1).alloc o2).alloc o3):=fun o1 o2 o3=>(((Below.refl _ _).alloc (Nat.le_refl _) _).alloc (by simp) _).alloc (by simp;omega) _
 have BH:Hid (∀ o1 o2 o3,Below w.heap.size w (((w.alloc o1).alloc o2).alloc o3)):=B0
 have T0:∀ o1 o2,(((w.alloc o1).alloc o2).alloc (.cells Z.toArray 28)).there (w.heap.size+1+1) 0 Z.toArray.size:=fun o1 o2=>ic (by simp)
 have TH:Hid (∀ o1 o2,(((w.alloc o1).alloc o2).alloc (.cells Z.toArray 28)).there (w.heap.size+1+1) 0 Z.toArray.size):=T0
 have LZ:Hid (Z.length=34∧(Tryz.prog.info? 28).map (·.size)=some Z.toArray.size∧(Tryz.prog.info? 28).map (·.size)=some Z.length):=⟨lz,iz,iz'⟩
 have o3:w.heap.size≤w.heap.size+1+1:=by omega
 clear lz iz iz' B0 T0
 go_enter Tryz.func5,Tryz.ntmps5
 go_wp2_with (refine wpList_store_mid rfl 28 _ _ rfl (w.heap.size+1+1) 0 Z.toArray rfl rfl (TH.out _ _) LZ.out.2.1 on ?_;refine aN (fun W'=>Below w.heap.size w W'∧W'.rangeAt (w.heap.size+1+1) 0 Z) (b9 (BH.out _ _ _) o3 (by simpa using TH.out _ _)) ?_;rintro W' ⟨B',hD⟩)
 have ld:=run_loadVar_mid (P:=Tryz.prog) W' (w.heap.size+1+1) 0 28 Z _ hD Tryz.underlying28 rfl LZ.out.2.2
 refine bodyPost_ret (v:=.tuple #[.agg Z.toArray,.int .i64 141]) ?_ rfl ⟨rfl,B'⟩
 simp [results,Tryz.results5,asAddr,ld]
theorem ae.newA {W:World} {b:Nat} {n:Int} {t:TypeId} (e:b=W.heap.size):ae (W.alloc (.cells #[.int .u64 (l0 n),.int .u64 (l1 n),.int .u64 (l2 n),.int .u64 (l3 n)] t)) b n:=by subst e;exact ae.new _ _ _
theorem dZ {W W':World} {b o n:Nat} (h:W.there b o n) (lt:b<W.heap.size) (B:Below W.heap.size W W'):W'.there b o n:=fun j hj=>⟨by
 rw [World.cell?_of_block (w:=W) (a:=⟨b,o+j,none⟩) (B.block b lt)];exact (h j hj).1,by
 rw [World.frozen?_of_block (w:=W) (a:=⟨b,o+j,none⟩) (B.block b lt)];exact (h j hj).2⟩
theorem pk {c n p r0 s0 key r s e0:Int} {A:List Int} {o:Bool} {D:List Value} (hA:A.length=20) (nn:¬n=18446744073709551615) (ne:¬e0=0) (w:World)
    (AD:Hid (∀ W,KtC W→Rt 12 #[.agg (auM c A n p r0 s0).toArray] W (.agg D.toArray)))
    (SG:Hid (∀ W,Mds W→ShT W→ar W→Rt 11 #[U4 key,.agg D.toArray] W (.tuple #[P9 r s o,.int .i64 e0]))) (hm:Mds w) (ht:ShT w) (hc:ar w) (hk:KtC w) :
    Rt 5 #[.agg (auM c A n p r0 s0).toArray,U4 key] w (.tuple #[.agg auZ.toArray,.int .i64 e0]):=by
  have m24:(auM c A n p r0 s0)[24]?=some (.int .u64 n):=dt hA 0
  have ML:Hid ((auM c A n p r0 s0).length=34):=ia hA
  have FO:Hid (∀ (W:World) b,W.rangeAt b 0 (auM c A n p r0 s0)→AuF W b (auM c A n p r0 s0) n p r0 s0):=fun W b h=>AuF.of hA h
  clear hA
  generalize auM c A n p r0 s0=M at *
  have zh:=kU
  have bz:=eV
  have on:=ib
  have lz:=dM
  generalize auZ=Z at *
  have iz:(Tryz.prog.info? 28).map (·.size)=some Z.toArray.size:=by rw [List.size_toArray,lz];exact bP
  have iz':(Tryz.prog.info? 28).map (·.size)=some Z.length:=by rw [lz];exact bP
  have LZ:Hid (Z.length=34∧(Tryz.prog.info? 28).map (·.size)=some Z.toArray.size∧(Tryz.prog.info? 28).map (·.size)=some Z.length):=⟨lz,iz,iz'⟩
  clear lz iz iz'
  go_enter Tryz.func5,Tryz.ntmps5
  go_wp2_with fail
  have BA:∀ (V:World) o,Below V.heap.size V (V.alloc o):=fun V o=>(Below.refl _ _).alloc (Nat.le_refl _) o
  refine ah (fun W=>Below w.heap.size w W∧(Mds W∧ShT W∧ar W∧KtC W)∧(AuF W w.heap.size M n p r0 s0∧w.heap.size<W.heap.size)∧ae W (w.heap.size+1) key∧W.there (w.heap.size+1+1) 0 Z.toArray.size∧w.heap.size+1+1<W.heap.size) ⟨(((Below.refl _ _).alloc (Nat.le_refl _) _).alloc (by simp) _).alloc (by simp;omega) _,⟨((hm.alloc _).alloc _).alloc _,((ht.keep (BA _ _)).keep (BA _ _)).keep (BA _ _),((hc.alloc _).alloc _).alloc _,((hk.alloc _).alloc _).alloc _⟩,⟨((FO.out _ _ dR).keep (by simp) (BA _ _)).keep (by simp;omega) (BA _ _),by simp;omega⟩,(ae.newA (by simp)).keep (BA _ _),ic (by simp),by simp⟩ ?_
  rintro W ⟨B,⟨hM,hT,hC,hK⟩,hF,hH,hR⟩
  clear hm ht hc hk m24 FO BA
  have o3:w.heap.size≤w.heap.size+1+1:=by omega
  have FH:Hid (AuF W w.heap.size M n p r0 s0∧w.heap.size<W.heap.size):=hF
  have RH:Hid (W.there (w.heap.size+1+1) 0 Z.toArray.size∧w.heap.size+1+1<W.heap.size):=hR
  clear hF hR
  generalize w.heap.size+1+1=br at *
  generalize w.heap.size+1=bk at *
  refine cX (A:=?AA1) 7 8 6 (by kernel_rfl) (by kernel_rfl) (fun _ _ _ _ _ h=>h) (by kernel_rfl) rfl rfl (kJ _ _ _) (fun V hV=>?HH1) (fun V w1 hV hw=>?TT1)
  case HH1 =>
    have gS:=(hH.keep hV).grown
    have LM:Hid (∀ d os,(grow (redrawn V d) os).rangeAt w.heap.size 0 M):=fun d os=>aE (aE FH.out.1.all hV FH.out.2) (below_regrown V d os) (Nat.lt_of_lt_of_le FH.out.2 hV.size)
    have GG:Hid (∀ d os,Mds (grow (redrawn V d) os)∧ShT (grow (redrawn V d) os)∧ar (grow (redrawn V d) os)∧KtC (grow (redrawn V d) os)):=fun d os=>⟨(hM.keep hV).keep (below_regrown V d os),(hT.keep hV).keep (below_regrown V d os),(hC.keep hV).keep (below_regrown V d os),(hK.keep hV).keep (below_regrown V d os)⟩
    unfold Gr
    simp only [List.take_succ_cons,List.take_zero]
    repeat
      first
        | go_big_quiet_skip
        | (go_big_quiet_want;refine fE 28 _ rfl w.heap.size 0 rfl M _ (fun W' ⟨p,e⟩=>by subst e;exact LM.out p.d p.os) Tryz.underlying28 rfl (by rw [ML.out];exact bP) ?_;simp only [Act.put,List.setIfInBounds_toArray,List.set_cons_zero,List.set_cons_succ];go_big_quiet_on)
        | (go_big_quiet_want;go_big_quiet_op;go_big_quiet_on)
        | (go_big_quiet_want
           go_big_quiet_op
           apply Exists.intro
           refine ⟨fun p=>?_,?_⟩
           · (first|(go_at_call 12;with_reducible exact Calls.regrown_of (AD.out _ (GG.out p.d p.os).2.2.2))|(go_at_call 11;with_reducible exact Calls.regrown_of (SG.out _ (GG.out p.d p.os).1 (GG.out p.d p.os).2.1 (GG.out p.d p.os).2.2.1)))
           go_big_quiet_on)
    refine wpQuiet_nil ?_
    exact rfl
  case TT1 =>
    have hb:=au hV hw
    have hN:=(Bk9.new rfl).keep hw
    have hq:Below W.heap.size W (put9 w1 V.heap.size r s o):=bL hb hV.size
    have FF:Hid (Below w.heap.size w (put9 w1 V.heap.size r s o)∧(put9 w1 V.heap.size r s o).there br 0 Z.toArray.size):=⟨B.trans (hq.mono B.size),dZ RH.out.1 RH.out.2 hq⟩
    clear hb hw hV hC FH hq B hM hK hT hH RH
    clear W AD SG ML
    generalize V.heap.size=bp at *
    clear V
    have gN:=hN.cells;have qN:=hN.free
    simp only [List.drop_succ_cons,List.drop_zero,Act.put,List.setIfInBounds_toArray,List.set_cons_zero,List.set_cons_succ]
    rename_i KX hKX
    have HX:Hid _:=hKX
    clear hKX
    go_wp2_with fail
    refine HX.out _ _ ?_
    refine ah (fun W=>Below w.heap.size w W∧W.there br 0 Z.toArray.size) FF.out ?_
    clear HX FF gN qN hN KX w1
    rintro W ⟨B,hR⟩
    have RR:Hid (W.there br 0 Z.toArray.size):=hR
    have BB:Hid (Below w.heap.size w W):=B
    clear B hR
    refine wp_seq_k fun K4 h4=>?_
    have H4:Hid _:=h4
    clear h4
    go_wp2_with (refine wpList_store_mid rfl 28 _ _ rfl br 0 Z.toArray rfl rfl RR.out LZ.out.2.1 on ?_;refine aN (fun W'=>Below w.heap.size w W'∧W'.rangeAt br 0 Z) (b9 BB.out o3 (by simpa using RR.out)) ?_;rintro W' ⟨B',hD⟩)
    have ld:=run_loadVar_mid (P:=Tryz.prog) W' br 0 28 Z _ hD Tryz.underlying28 rfl LZ.out.2.2
    refine bodyPost_ret (v:=.tuple #[.agg Z.toArray,.int .i64 e0]) ?_ rfl ⟨rfl,B'⟩
    simp [results,Tryz.results5,asAddr,ld]
open Go.RowKit Go.Sort
theorem jI {W:World} {b o:Nat} {X Y:List Value} (h:W.rangeAt b o X) (g:W.rangeAt b (o+X.length) Y):W.rangeAt b o (X++Y):=fun j v hv=>by
 by_cases c:j<X.length
 ·exact h j v (by rwa [List.getElem?_append_left c] at hv)
 ·rw [List.getElem?_append_right (by omega)] at hv
  have:=g _ v hv
  rwa [show o+X.length+(j-X.length)=o+j by omega] at this
theorem d5 {W:World} {b o:Nat} {X Y:List Value} (h:W.rangeAt b o (X++Y)):W.rangeAt b o X:=fun j v hv=>h j v (by
 rw [List.getElem?_append_left (by have:=(List.getElem?_eq_some_iff.1 hv).1;omega)];exact hv)
theorem fJ {W:World} {b o:Nat} {X Y:List Value} (h:W.rangeAt b o (X++Y)):W.rangeAt b (o+X.length) Y:=fun j v hv=>by
 rw [show o+X.length+j=o+(X.length+j) by omega]
 exact h _ v (by rw [List.getElem?_append_right (by omega),show X.length+j-X.length=j by omega];exact hv)
def dK (x:Int):List Value:=[.int .u64 (l0 x),.int .u64 (l1 x),.int .u64 (l2 x),.int .u64 (l3 x)]
def auH (c:Int) (A:List Int) (n:Int):List Value:=dK c++(A.map (Value.int .u8)++[.int .u64 n])
theorem uy {c:Int} {A:List Int} {n p r s:Int}:auM c A n p r s=auH c A n++([.int .u64 p]++(dK r++dK s)):=by simp [auM,auH,dK]
structure AuP (W:World) (b:Nat) (c:Int) (A:List Int) (n p r s:Int):Prop where
 h:W.rangeAt b 0 (auH c A n)
 p:W.rangeAt b 25 [.int .u64 p]
 r:W.rangeAt b 26 (dK r)
 s:W.rangeAt b 30 (dK s)
theorem kW {c:Int} {A:List Int} {n:Int} (hA:A.length=20):(auH c A n).length=25:=by simp [auH,dK,hA]
theorem AuP.of {W:World} {b:Nat} {c:Int} {A:List Int} {n p r s:Int} (hA:A.length=20) (h:W.rangeAt b 0 (auM c A n p r s)):AuP W b c A n p r s:=by
 rw [uy] at h
 have h1:=fJ h
 rw [kW hA] at h1
 have h2:=fJ h1
 exact ⟨d5 h,d5 h1,d5 h2,fJ h2⟩
theorem AuP.all {W:World} {b:Nat} {c:Int} {A:List Int} {n p r s:Int} (h:AuP W b c A n p r s) (hA:A.length=20):W.rangeAt b 0 (auM c A n p r s):=by
 rw [uy]
 exact jI h.h (by rw [kW hA];exact jI h.p (jI h.r h.s))
theorem AuP.putR {W:World} {b:Nat} {c:Int} {A:List Int} {n p r s:Int} (hA:A.length=20) (h:AuP W b c A n p r s) (ht:W.there b 0 34) (r':Int):AuP (W.setCells b 26 (dK r')) b c A n p r' s :=
 ⟨World.rangeAt_setCells_apart h.h _ _ _ (.inr (.inl (by rw [kW hA];omega))),World.rangeAt_setCells_apart h.p _ _ _ (.inr (.inl (by simp))),World.rangeAt_setCells_same _ _ _ _ (fun j hj=>by rw [show 26+j=0+(26+j) by omega];exact ht (26+j) (by simp [dK] at hj;omega)),World.rangeAt_setCells_apart h.s _ _ _ (.inr (.inr (by simp [dK])))⟩
theorem AuP.putS {W:World} {b:Nat} {c:Int} {A:List Int} {n p r s:Int} (hA:A.length=20) (h:AuP W b c A n p r s) (ht:W.there b 0 34) (s':Int):AuP (W.setCells b 30 (dK s')) b c A n p r s' :=
 ⟨World.rangeAt_setCells_apart h.h _ _ _ (.inr (.inl (by rw [kW hA];omega))),World.rangeAt_setCells_apart h.p _ _ _ (.inr (.inl (by simp))),World.rangeAt_setCells_apart h.r _ _ _ (.inr (.inl (by simp [dK]))),World.rangeAt_setCells_same _ _ _ _ (fun j hj=>by rw [show 30+j=0+(30+j) by omega];exact ht (30+j) (by simp [dK] at hj;omega))⟩
theorem AuP.putP {W:World} {b:Nat} {c:Int} {A:List Int} {n p r s:Int} (hA:A.length=20) (h:AuP W b c A n p r s) (ht:W.there b 0 34) (p':Int):AuP (W.setCells b 25 [.int .u64 p']) b c A n p' r s :=
 ⟨World.rangeAt_setCells_apart h.h _ _ _ (.inr (.inl (by rw [kW hA];omega))),World.rangeAt_setCells_same _ _ _ _ (fun j hj=>by rw [show 25+j=0+(25+j) by omega];exact ht (25+j) (by simp at hj;omega)),World.rangeAt_setCells_apart h.r _ _ _ (.inr (.inr (by simp))),World.rangeAt_setCells_apart h.s _ _ _ (.inr (.inr (by simp)))⟩
theorem Bm {W W':World} {b k:Nat} (h:W.there b 0 k) (lt:b<W.heap.size) (B:Below W.heap.size W W') (e:k=34):W'.there b 0 34:=by subst e;exact dZ h lt B
theorem ml {W:World} {b k m:Nat} (h:W.there b 0 34) (e:k+m≤34):W.there b k m:=fun j hj=>by
 rw [show k+j=0+(k+j) by omega]
 exact h (k+j) (by omega)
structure SaG (w U:World) (br bp z:Nat) (c:Int) (A:List Int) (n p r s x y:Int) (o:Bool):Prop where
 B:Below w.heap.size w U
 hR:U.there br 0 z
 hN:Pnt U bp x y o
 hF:AuP U w.heap.size c A n p r s
 hT:U.there w.heap.size 0 34
theorem SaG.drew {w U:World} {br bp z:Nat} {c:Int} {A:List Int} {n p r s x y:Int} {o:Bool} (h:SaG w U br bp z c A n p r s x y o):SaG w U.drew br bp z c A n p r s x y o :=
 ⟨h.B.drew,h.hR,h.hN,⟨h.hF.h,h.hF.p,h.hF.r,h.hF.s⟩,h.hT⟩
theorem SaG.putR {w U:World} {br bp z:Nat} {c:Int} {A:List Int} {n p r s x y:Int} {o:Bool} (h:SaG w U br bp z c A n p r s x y o) (hA:A.length=20) (ne:w.heap.size≠bp) (r':Int):SaG w (U.setCells w.heap.size 26 (dK r')) br bp z c A n p r' s x y o :=
 ⟨below_setCells (Nat.le_refl _) _ _ _ h.B,World.there_setCells h.hR _ _ _,Cl.cells_put h.hN ne _ _,h.hF.putR hA h.hT r',World.there_setCells h.hT _ _ _⟩
theorem SaG.putS {w U:World} {br bp z:Nat} {c:Int} {A:List Int} {n p r s x y:Int} {o:Bool} (h:SaG w U br bp z c A n p r s x y o) (hA:A.length=20) (ne:w.heap.size≠bp) (s':Int):SaG w (U.setCells w.heap.size 30 (dK s')) br bp z c A n p r s' x y o :=
 ⟨below_setCells (Nat.le_refl _) _ _ _ h.B,World.there_setCells h.hR _ _ _,Cl.cells_put h.hN ne _ _,h.hF.putS hA h.hT s',World.there_setCells h.hT _ _ _⟩
theorem SaG.putP {w U:World} {br bp z:Nat} {c:Int} {A:List Int} {n p r s x y:Int} {o:Bool} (h:SaG w U br bp z c A n p r s x y o) (hA:A.length=20) (ne:w.heap.size≠bp) (p':Int):SaG w (U.setCell ⟨w.heap.size,25,none⟩ (.int .u64 p')) br bp z c A n p' r s x y o :=
 have k:SaG w (U.setCells w.heap.size 25 [.int .u64 p']) br bp z c A n p' r s x y o:=⟨below_setCells (Nat.le_refl _) _ _ _ h.B,World.there_setCells h.hR _ _ _,Cl.cells_put h.hN ne _ _,h.hF.putP hA h.hT p',World.there_setCells h.hT _ _ _⟩
 k
theorem SaG.par {w U:World} {br bp z:Nat} {c:Int} {A:List Int} {n p r s x y:Int} {o:Bool} (h:SaG w U br bp z c A n p r s x y o):U.cell? ⟨w.heap.size,25,none⟩=some (.int .u64 p):=h.hF.p 0 _ rfl
theorem SaG.free {w U:World} {br bp z:Nat} {c:Int} {A:List Int} {n p r s x y:Int} {o:Bool} (h:SaG w U br bp z c A n p r s x y o):U.frozen? ⟨w.heap.size,25,none⟩=false:=by
 have:=(h.hT 25 (by decide)).2
 rwa [Nat.zero_add] at this
theorem jg {W:World} {b k m:Nat} (h:W.there b 0 k) (e:k=m):W.there b 0 m:=by subst e;exact h
theorem DX {k:Nat} (h:k=34):(Tryz.prog.info? 28).map (·.size)=some k:=by subst h;exact bP
theorem qj {c:Int} {A:List Int} {n p r s:Int}:(auM c A n p r s).toArray.all (·.oneCell')=true:=by
 simp only [List.all_toArray,auM,List.all_append,Bool.and_eq_true]
 refine ⟨by simp [Value.oneCell'],?_,by simp [Value.oneCell']⟩
 rw [List.all_eq_true]
 intro x hx
 obtain ⟨y,_,rfl⟩:=List.mem_map.1 hx
 rfl
theorem rO {c n p r0 s0 key r s q:Int} {A:List Int} {o:Bool} {D:List Value} (hA:A.length=20) (nn:¬n=18446744073709551615) (hq:(o=false∧q=0)∨(o=true∧q=1)) (w:World)
    (AD:Hid (∀ W,KtC W→Rt 12 #[.agg (auM c A n p r0 s0).toArray] W (.agg D.toArray)))
    (SG:Hid (∀ W,Mds W→ShT W→ar W→Rt 11 #[U4 key,.agg D.toArray] W (.tuple #[P9 r s o,.int .i64 0]))) (hm:Mds w) (ht:ShT w) (hc:ar w) (hk:KtC w) :
    Rt 5 #[.agg (auM c A n p r0 s0).toArray,U4 key] w (.tuple #[.agg (auM c A n q r s).toArray,.int .i64 0]):=by
  have m24:(auM c A n p r0 s0)[24]?=some (.int .u64 n):=dt hA 0
  have ML:Hid ((auM c A n p r0 s0).length=34):=ia hA
  have FO:Hid (∀ (W:World) b,W.rangeAt b 0 (auM c A n p r0 s0)→AuF W b (auM c A n p r0 s0) n p r0 s0):=fun W b h=>AuF.of hA h
  have PO:Hid (∀ (W:World) b,W.rangeAt b 0 (auM c A n p r0 s0)→AuP W b c A n p r0 s0):=fun W b h=>AuP.of hA h
  have JO:Hid (∀ (W:World) b q r s,AuP W b c A n q r s→W.rangeAt b 0 (auM c A n q r s)):=fun W b q r s h=>h.all hA
  have LO:Hid (∀ q r s,(auM c A n q r s).length=34):=fun q r s=>ia hA
  have XO:Hid (∀ q,(auM c A n q r s).toArray.all (·.oneCell')=true):=fun q=>qj
  have AL:Hid (A.length=20):=hA
  clear hA
  generalize auM c A n p r0 s0=M at PO AD m24 ML FO ⊢
  have zh:=kU
  have bz:=eV
  have on:=ib
  have lz:=dM
  generalize auZ=Z at *
  have iz:(Tryz.prog.info? 28).map (·.size)=some Z.toArray.size:=by rw [List.size_toArray,lz];exact bP
  have iz':(Tryz.prog.info? 28).map (·.size)=some Z.length:=by rw [lz];exact bP
  have LZ:Hid (Z.length=34∧(Tryz.prog.info? 28).map (·.size)=some Z.toArray.size∧(Tryz.prog.info? 28).map (·.size)=some Z.length):=⟨lz,iz,iz'⟩
  clear lz iz iz'
  go_enter Tryz.func5,Tryz.ntmps5
  go_wp2_with fail
  have BA:∀ (V:World) o,Below V.heap.size V (V.alloc o):=fun V o=>(Below.refl _ _).alloc (Nat.le_refl _) o
  refine ah (fun W=>Below w.heap.size w W∧(Mds W∧ShT W∧ar W∧KtC W)∧(AuF W w.heap.size M n p r0 s0∧w.heap.size<W.heap.size∧W.there w.heap.size 0 M.toArray.size)∧ae W (w.heap.size+1) key∧W.there (w.heap.size+1+1) 0 Z.toArray.size∧w.heap.size+1+1<W.heap.size) ⟨(((Below.refl _ _).alloc (Nat.le_refl _) _).alloc (by simp) _).alloc (by simp;omega) _,⟨((hm.alloc _).alloc _).alloc _,((ht.keep (BA _ _)).keep (BA _ _)).keep (BA _ _),((hc.alloc _).alloc _).alloc _,((hk.alloc _).alloc _).alloc _⟩,⟨((FO.out _ _ dR).keep (by simp) (BA _ _)).keep (by simp;omega) (BA _ _),by simp;omega,dZ (dZ (ic rfl) (by simp) (BA _ _)) (by simp;omega) (BA _ _)⟩,(ae.newA (by simp)).keep (BA _ _),ic (by simp),by simp⟩ ?_
  rintro W ⟨B,⟨hM,hT,hC,hK⟩,hF,hH,hR⟩
  clear hm ht hc hk m24 FO BA
  have o3:w.heap.size≤w.heap.size+1+1:=by omega
  have FH:Hid (AuF W w.heap.size M n p r0 s0∧w.heap.size<W.heap.size∧W.there w.heap.size 0 M.toArray.size):=hF
  have RH:Hid (W.there (w.heap.size+1+1) 0 Z.toArray.size∧w.heap.size+1+1<W.heap.size):=hR
  clear hF hR
  generalize w.heap.size+1+1=br at *
  generalize w.heap.size+1=bk at *
  refine cX (A:=?AA1) 7 8 6 (by kernel_rfl) (by kernel_rfl) (fun _ _ _ _ _ h=>h) (by kernel_rfl) rfl rfl (kJ _ _ _) (fun V hV=>?HH1) (fun V w1 hV hw=>?TT1)
  case HH1 =>
    have gS:=(hH.keep hV).grown
    have LM:Hid (∀ d os,(grow (redrawn V d) os).rangeAt w.heap.size 0 M):=fun d os=>aE (aE FH.out.1.all hV FH.out.2.1) (below_regrown V d os) (Nat.lt_of_lt_of_le FH.out.2.1 hV.size)
    have GG:Hid (∀ d os,Mds (grow (redrawn V d) os)∧ShT (grow (redrawn V d) os)∧ar (grow (redrawn V d) os)∧KtC (grow (redrawn V d) os)):=fun d os=>⟨(hM.keep hV).keep (below_regrown V d os),(hT.keep hV).keep (below_regrown V d os),(hC.keep hV).keep (below_regrown V d os),(hK.keep hV).keep (below_regrown V d os)⟩
    unfold Gr
    simp only [List.take_succ_cons,List.take_zero]
    repeat
      first
        | go_big_quiet_skip
        | (go_big_quiet_want;refine fE 28 _ rfl w.heap.size 0 rfl M _ (fun W' ⟨p,e⟩=>by subst e;exact LM.out p.d p.os) Tryz.underlying28 rfl (by rw [ML.out];exact bP) ?_;simp only [Act.put,List.setIfInBounds_toArray,List.set_cons_zero,List.set_cons_succ];go_big_quiet_on)
        | (go_big_quiet_want;go_big_quiet_op;go_big_quiet_on)
        | (go_big_quiet_want
           go_big_quiet_op
           apply Exists.intro
           refine ⟨fun p=>?_,?_⟩
           · (first|(go_at_call 12;with_reducible exact Calls.regrown_of (AD.out _ (GG.out p.d p.os).2.2.2))|(go_at_call 11;with_reducible exact Calls.regrown_of (SG.out _ (GG.out p.d p.os).1 (GG.out p.d p.os).2.1 (GG.out p.d p.os).2.2.1)))
           go_big_quiet_on)
    refine wpQuiet_nil ?_
    exact rfl
  case TT1 =>
    have hb:=au hV hw
    have hN:=(Bk9.new rfl).keep hw
    have hq:Below W.heap.size W (put9 w1 V.heap.size r s o):=bL hb hV.size
    have FF:Hid (Below w.heap.size w (put9 w1 V.heap.size r s o)∧(put9 w1 V.heap.size r s o).there br 0 Z.toArray.size∧Pnt (put9 w1 V.heap.size r s o) V.heap.size r s o∧AuP (put9 w1 V.heap.size r s o) w.heap.size c A n p r0 s0∧(put9 w1 V.heap.size r s o).there w.heap.size 0 34):=⟨B.trans (hq.mono B.size),dZ RH.out.1 RH.out.2 hq,hN.put9 r s o,PO.out _ _ (aE FH.out.1.all hq FH.out.2.1),Bm FH.out.2.2 FH.out.2.1 hq (by rw [List.size_toArray,ML.out])⟩
    have nbp:Hid (w.heap.size≠V.heap.size):=by have:=FH.out.2.1;have:=hV.size;exact (by omega:w.heap.size≠V.heap.size)
    clear hb hw hV hC FH hq B hM hK hT hH RH
    clear W AD SG ML
    generalize V.heap.size=bp at *
    clear V
    have gN:=hN.cells;have qN:=hN.free
    simp only [List.drop_succ_cons,List.drop_zero,Act.put,List.setIfInBounds_toArray,List.set_cons_zero,List.set_cons_succ]
    rename_i KX hKX
    have HX:Hid _:=hKX
    clear hKX
    go_wp2_with fail
    refine HX.out _ _ ?_
    refine ah (fun W=>Below w.heap.size w W∧W.there br 0 Z.toArray.size∧Pnt W bp r s o∧AuP W w.heap.size c A n p r0 s0∧W.there w.heap.size 0 34) FF.out ?_
    clear HX FF gN qN hN KX w1
    rintro W GW0
    have GW:Hid _:=GW0
    clear GW0
    refine wp_seq_k fun K4 h4=>?_
    have H4:Hid _:=h4
    clear h4
    go_wp2_with fail
    refine H4.out _ _ ?_
    clear H4 K4
    refine wp_seq_k fun K6 h6=>?_
    have H6:Hid _:=h6
    clear h6
    go_wp2_with fail
    have GS:Hid (SaG w W br bp Z.toArray.size c A n p r0 s0 r s o):=⟨GW.out.1,GW.out.2.1,GW.out.2.2.1,GW.out.2.2.2.1,GW.out.2.2.2.2⟩
    clear GW
    have Y0:Hid _:=GS.out.drew
    clear GS
    refine wp_region_held_drew (S:=fun U=>Pnt U bp r s o) (by kernel_rfl) Y0.out.hN (fun hHeld=>?_)
    refine an (i:=0) (oi:=_) (v:=.pointer (some ⟨bp,0,none⟩)) 23 rfl (by kernel_rfl) (by kernel_rfl) (by kernel_rfl) (by kernel_rfl) (fun _ _ _ h=>h) (Or.inl ⟨by kernel_rfl,?_⟩) (by assumption) ?_
    · intro wq hSw
      have gk:=hSw
      go_simp
    simp only [Act.put,List.setIfInBounds_toArray,List.set_cons_succ,List.set_cons_zero]
    refine an (i:=1) (oi:=_) (v:=U4 r) 24 rfl (by kernel_rfl) (by kernel_rfl) (by kernel_rfl) (by kernel_rfl) (fun _ _ _ h=>h) (Or.inl ⟨by kernel_rfl,?_⟩) (by assumption) ?_
    · intro wq hSw
      have gk:=Pnt.cells hSw
      go_simp
    simp only [Act.put,List.setIfInBounds_toArray,List.set_cons_succ,List.set_cons_zero]
    refine an (i:=2) (oi:=_) (v:=.pointer (some ⟨bp,4,none⟩)) 25 rfl (by kernel_rfl) (by kernel_rfl) (by kernel_rfl) (by kernel_rfl) (fun _ _ _ h=>h) (Or.inl ⟨by kernel_rfl,?_⟩) (by assumption) ?_
    · intro wq hSw
      have gk:=hSw
      go_simp
    simp only [Act.put,List.setIfInBounds_toArray,List.set_cons_succ,List.set_cons_zero]
    refine an (i:=3) (oi:=_) (v:=U4 s) 26 rfl (by kernel_rfl) (by kernel_rfl) (by kernel_rfl) (by kernel_rfl) (fun _ _ _ h=>h) (Or.inl ⟨by kernel_rfl,?_⟩) (by assumption) ?_
    · intro wq hSw
      have gk:=Pnt.cells hSw
      go_simp
    simp only [Act.put,List.setIfInBounds_toArray,List.set_cons_succ,List.set_cons_zero]
    refine an (i:=4) (oi:=_) (v:=.pointer (some ⟨w.heap.size,26,none⟩)) 27 rfl (by kernel_rfl) (by kernel_rfl) (by kernel_rfl) (by kernel_rfl) (fun _ _ _ h=>h) (Or.inl ⟨by kernel_rfl,?_⟩) (by assumption) ?_
    · intro wq hSw
      have gk:=hSw
      go_simp
    simp only [Act.put,List.setIfInBounds_toArray,List.set_cons_succ,List.set_cons_zero]
    clear hHeld
    refine wpAnyH_ready (rs:=[5]) (by kernel_rfl) (by simp) ?_
    refine AllReadyH.cons rfl (fun K hK=>?_) AllReadyH.nil
    refine (if_pos (by kernel_rfl)).mpr ?_
    refine wp_store_mid 24 _ _ rfl w.heap.size 26 (dK r).toArray rfl rfl (ml Y0.out.hT (by simp [dK])) (by kernel_rfl) (by simp [dK,Value.oneCell']) ?_
    have Y1:Hid _:=Y0.out.putR AL.out nbp.out r
    refine hK.out _ _ Y1.out.hN (fun hHeld=>?_)
    clear hK K Y0
    refine an (i:=6) (oi:=_) (v:=.pointer (some ⟨w.heap.size,30,none⟩)) 28 rfl (by kernel_rfl) (by kernel_rfl) (by kernel_rfl) (by kernel_rfl) (fun _ _ _ h=>h) (Or.inl ⟨by kernel_rfl,?_⟩) (by assumption) ?_
    · intro wq hSw
      have gk:=hSw
      go_simp
    simp only [Act.put,List.setIfInBounds_toArray]
    clear hHeld
    refine wpAnyH_ready (rs:=[7]) (by kernel_rfl) (by simp) ?_
    refine AllReadyH.cons rfl (fun K hK=>?_) AllReadyH.nil
    refine (if_pos (by kernel_rfl)).mpr ?_
    refine wp_store_mid 24 _ _ rfl w.heap.size 30 (dK s).toArray rfl rfl (ml Y1.out.hT (by simp [dK])) (by kernel_rfl) (by simp [dK,Value.oneCell']) ?_
    have Y2:Hid _:=Y1.out.putS AL.out nbp.out s
    refine hK.out _ _ Y2.out.hN (fun hHeld=>?_)
    clear hK K Y1
    refine an (i:=8) (oi:=_) (v:=.pointer (some ⟨w.heap.size,25,none⟩)) 29 rfl (by kernel_rfl) (by kernel_rfl) (by kernel_rfl) (by kernel_rfl) (fun _ _ _ h=>h) (Or.inl ⟨by kernel_rfl,?_⟩) (by assumption) ?_
    · intro wq hSw
      have gk:=hSw
      go_simp
    simp only [Act.put]
    clear hHeld
    refine wpAnyH_ready (rs:=[9]) (by kernel_rfl) (by simp) ?_
    refine AllReadyH.cons rfl (fun K hK=>?_) AllReadyH.nil
    have g25:=Y2.out.par
    have f25:=Y2.out.free
    go_simp
    have Y3:Hid _:=Y2.out.putP AL.out nbp.out 0
    go_wp2_with fail
    refine uj (fun U=>SaG w U br bp Z.toArray.size c A n 0 r s r s o) Y3.out ?_
    clear Y3 Y2 g25 f25
    rintro U hU
    have HU:Hid _:=hU
    refine hK.out _ _ hU.hN (fun hHeld=>?_)
    clear hK K hHeld hU
    refine wpAnyH_done (by kernel_rfl) ?_ _
    go_wp2_with fail
    refine H6.out _ _ ?_
    clear H6 K6
    rcases hq with ⟨rfl,rfl⟩|⟨rfl,rfl⟩
    · have g:=HU.out.hN.cells
      refine wp_seq_k fun K7 h7=>?_
      have H7:Hid _:=h7
      clear h7
      go_wp2_with fail
      refine H7.out _ _ ?_
      clear H7 K7 g
      have RA:Hid _:=JO.out _ _ 0 r s HU.out.hF
      have RB:Hid _:=jg HU.out.hR (show Z.toArray.size=(auM c A n 0 r s).toArray.size by rw [List.size_toArray,List.size_toArray,LZ.out.1,LO.out])
      have RX:Hid _:=XO.out 0
      have RB0:Hid _:=HU.out.B
      have RS:Hid ((auM c A n 0 r s).length=34):=LO.out 0 r s
      have RI:Hid ((Tryz.prog.info? 28).map (·.size)=some (auM c A n 0 r s).toArray.size):=DX (by rw [List.size_toArray];exact RS.out)
      have RL:Hid _:=b9 (D:=(auM c A n 0 r s)) RB0.out o3 (jg RB.out List.size_toArray)
      clear HU JO XO LO LZ PO
      go_wp2_with (first
        | refine wpList_load_mid rfl 28 _ rfl w.heap.size 0 rfl (auM c A n 0 r s) _ RA.out Tryz.underlying28 rfl (by rw [RS.out];exact bP) ?_
        | (refine wpList_store_mid rfl 28 _ _ rfl br 0 (auM c A n 0 r s).toArray rfl rfl RB.out RI.out RX.out ?_;refine aN (fun W'=>Below w.heap.size w W'∧W'.rangeAt br 0 (auM c A n 0 r s)) RL.out ?_;rintro W' ⟨B',hD⟩))
      have ld:=run_loadVar_mid (P:=Tryz.prog) W' br 0 28 (auM c A n 0 r s) _ hD Tryz.underlying28 rfl (by rw [RS.out];exact bP)
      refine bodyPost_ret (v:=.tuple #[.agg (auM c A n 0 r s).toArray,.int .i64 0]) ?_ rfl ⟨rfl,B'⟩
      simp [results,Tryz.results5,asAddr,ld]
    · have g:=HU.out.hN.cells
      have g25:=HU.out.par
      have f25:=HU.out.free
      have Y3:Hid _:=HU.out.putP AL.out nbp.out 1
      refine wp_seq_k fun K7 h7=>?_
      have H7:Hid _:=h7
      clear h7
      go_wp2_with fail
      refine H7.out _ _ ?_
      clear H7 K7 g g25 f25
      refine ah (fun U=>SaG w U br bp Z.toArray.size c A n 1 r s r s true) Y3.out ?_
      clear Y3 HU U
      rintro U hU
      have HU:Hid _:=hU
      clear hU
      have RA:Hid _:=JO.out _ _ 1 r s HU.out.hF
      have RB:Hid _:=jg HU.out.hR (show Z.toArray.size=(auM c A n 1 r s).toArray.size by rw [List.size_toArray,List.size_toArray,LZ.out.1,LO.out])
      have RX:Hid _:=XO.out 1
      have RB0:Hid _:=HU.out.B
      have RS:Hid ((auM c A n 1 r s).length=34):=LO.out 1 r s
      have RI:Hid ((Tryz.prog.info? 28).map (·.size)=some (auM c A n 1 r s).toArray.size):=DX (by rw [List.size_toArray];exact RS.out)
      have RL:Hid _:=b9 (D:=(auM c A n 1 r s)) RB0.out o3 (jg RB.out List.size_toArray)
      clear HU JO XO LO LZ PO
      go_wp2_with (first
        | refine wpList_load_mid rfl 28 _ rfl w.heap.size 0 rfl (auM c A n 1 r s) _ RA.out Tryz.underlying28 rfl (by rw [RS.out];exact bP) ?_
        | (refine wpList_store_mid rfl 28 _ _ rfl br 0 (auM c A n 1 r s).toArray rfl rfl RB.out RI.out RX.out ?_;refine aN (fun W'=>Below w.heap.size w W'∧W'.rangeAt br 0 (auM c A n 1 r s)) RL.out ?_;rintro W' ⟨B',hD⟩))
      have ld:=run_loadVar_mid (P:=Tryz.prog) W' br 0 28 (auM c A n 1 r s) _ hD Tryz.underlying28 rfl (by rw [RS.out];exact bP)
      refine bodyPost_ret (v:=.tuple #[.agg (auM c A n 1 r s).toArray,.int .i64 0]) ?_ rfl ⟨rfl,B'⟩
      simp [results,Tryz.results5,asAddr,ld]
end Go.Proofs.YtjoandmehahfgaaGreatDoor
