import Derived.Test.YtnnnaajgjniiaaaGreatDoorAb
import Derived.Test.YtnnnaajgjniiaaaGreatDoorNzD
import Derived.Test.YtnnnaajgjniiaaaGreatDoorSRHa
import Derived.Test.YtnnnaajgjniiaaaGreatDoorENum
import Derived.Test.YtnnnaajgjniiaaaGreatDoorFApp
import Derived.Maps.AppendAt
import Derived.Test.YtnnnaajgjniiaaaGreatDoorESW
import Derived.Laws.EntriesVeiled
set_option maxRecDepth 100000
set_option maxHeartbeats 8000000
namespace Go.Proofs.YtnnnaajgjniiaaaGreatDoor
open Go.RowKit Go.Sort
theorem uA {n:Int} (w:World):Rt 110 #[U4 n] w (.agg (S.byts (pbZ n)).toArray):=by
 rw [pbZ,qe (mA n)]
 exact wn w
theorem zx {W:World} {t:TypeId} {M:List (BitVec 8)} (hl:M.length=32):(W.alloc (.cells (S.byts (List.replicate 32 0)).toArray t)).there W.heap.size 0 (S.byts M).toArray.size∧Below W.heap.size W ((W.alloc (.cells (S.byts (List.replicate 32 0)).toArray t)).setCells W.heap.size 0 (S.byts M))∧S.Hsh ((W.alloc (.cells (S.byts (List.replicate 32 0)).toArray t)).setCells W.heap.size 0 (S.byts M)) W.heap.size M:=by
 have h:=S.Hsh.new (M:=List.replicate 32 0) (by simp) t (W:=W) rfl
 have o:=cU (M:=M) h hl
 have b:=(Below.refl W.heap.size W).alloc (Nat.le_refl _) (.cells (S.byts (List.replicate 32 0)).toArray t)
 have sz:(S.byts M).toArray.size=32:=by simp [S.byts_len,hl]
 refine ⟨by rw [sz];exact h.there,b.trans (o.2.below (by simp) (Nat.le_refl _)),o.1⟩
theorem uB {ka a:Option Addr} {kb ko kc bp op cp n m:Nat} {X:List (BitVec 8)} {PS:List S.Part} (hm:X.length=m) (hn:PS.length=n) (hl:X.length<1073740000) (hc:X.length≤kc) (hka:S.At ka kb ko X) (hs:(S.catX PS).length<1073730000) (hb:PS.length≤1073730000) (ha:PS=[]∨a=some ⟨bp,op,none⟩) (w:World) (hX:S.Byo w kb ko X) (hP:S.Prts w bp op PS) :
  Calls Tryz.prog 66 #[.slice ka m kc,.slice a n cp] w fun e w'=>∃ g,e = .returned (.slice (some ⟨g,0,none⟩) 32 32)∧S.Hsh w' g (S.hmacL X (S.catX PS))∧w.heap.size≤g∧Below w.heap.size w w':=by
 have CH:=S.rhmac_any (cp:=cp) hl hc hka hs hb ha w hX hP
 rw [hm,hn] at CH
 obtain ⟨N,eN⟩:∃ N,N=S.hmacL X (S.catX PS):=⟨_,rfl⟩
 rw [←eN] at CH ⊢
 have lN:Hid (N.length=32):=by show N.length=32;rw [eN,dB]
 clear eN hm hn hl hc hka hs hb ha hX hP
 have sz:(S.byts N).toArray.size=32:=by simp [S.byts_len,lN.out]
 have oc:=S.one_byts N
 obtain ⟨M,eM⟩:∃ M,M=S.byts N:=⟨_,rfl⟩
 rw [←eM] at CH sz oc
 have EM:Hid (M=S.byts N):=eM
 clear eM
 go_enter Tryz.func66,Tryz.ntmps66
 go_wp2_with fail
 refine CH.mono ?_
 clear CH
 rintro e w1 ⟨rfl,hb⟩
 have HB:Hid (Below w.heap.size w w1):=hb
 have NW:=fun t=>zx (W:=w1) (t:=t) lN.out
 rw [←EM.out] at NW
 have th:=fun t=>(NW t).1
 have FF:Hid (∀ t,Below w.heap.size w ((w1.alloc (.cells (S.byts (List.replicate 32 0)).toArray t)).setCells w1.heap.size 0 M)∧S.Hsh ((w1.alloc (.cells (S.byts (List.replicate 32 0)).toArray t)).setCells w1.heap.size 0 M) w1.heap.size N∧w.heap.size≤w1.heap.size):=fun t=>⟨hb.trans ((NW t).2.1.mono hb.size),(NW t).2.2,hb.size⟩
 rw [rF] at th FF
 clear NW hb
 go_wp2_with ((refine wpList_store_mid rfl 26 _ _ rfl w1.heap.size 0 M.toArray rfl rfl (th _) (by rw [sz];kernel_rfl) oc ?_);(refine aA (fun W=>Below w.heap.size w W∧S.Hsh W w1.heap.size N∧w.heap.size≤w1.heap.size) (FF.out _) ?_);clear FF th sz oc;rintro W HW)
 refine bodyPost_ret (v:=.slice (some ⟨w1.heap.size,0,none⟩) 32 32) ?_ rfl ⟨w1.heap.size,rfl,HW.2.1,HW.2.2,HW.1⟩
 simp [results,Tryz.results66]
theorem qs {x:Int} (w:World) :
  Calls Tryz.prog 64 #[U4 x] w fun e w'=>∃ g,e = .returned (.slice (some ⟨g,0,none⟩) 32 32)∧S.Hsh w' g (pbZ x)∧w.heap.size≤g∧Below w.heap.size w w':=by
 have CH:=uA (n:=x)
 obtain ⟨N,eN⟩:∃ N,N=pbZ x:=⟨_,rfl⟩
 rw [←eN] at CH ⊢
 have lN:Hid (N.length=32):=by show N.length=32;rw [eN,jE]
 clear eN
 have sz:(S.byts N).toArray.size=32:=by simp [S.byts_len,lN.out]
 have oc:=S.one_byts N
 obtain ⟨M,eM⟩:∃ M,M=S.byts N:=⟨_,rfl⟩
 rw [←eM] at CH sz oc
 have EM:Hid (M=S.byts N):=eM
 clear eM
 go_enter Tryz.func64,Tryz.ntmps64
 go_wp2_with fail
 refine aa (fun W=>Below w.heap.size w W) ((Below.refl _ _).alloc (Nat.le_refl _) _) ?_
 rintro W0 B0
 refine (CH W0).mono ?_
 clear CH
 rintro e w1 ⟨rfl,hb⟩
 replace hb:=B0.trans (hb.mono B0.size)
 clear B0 W0
 have HB:Hid (Below w.heap.size w w1):=hb
 have NW:=fun t=>zx (W:=w1) (t:=t) lN.out
 rw [←EM.out] at NW
 have th:=fun t=>(NW t).1
 have FF:Hid (∀ t,Below w.heap.size w ((w1.alloc (.cells (S.byts (List.replicate 32 0)).toArray t)).setCells w1.heap.size 0 M)∧S.Hsh ((w1.alloc (.cells (S.byts (List.replicate 32 0)).toArray t)).setCells w1.heap.size 0 M) w1.heap.size N∧w.heap.size≤w1.heap.size):=fun t=>⟨hb.trans ((NW t).2.1.mono hb.size),(NW t).2.2,hb.size⟩
 rw [rF] at th FF
 clear NW hb
 go_wp2_with ((refine wpList_store_mid rfl 25 _ _ rfl w1.heap.size 0 M.toArray rfl rfl (th _) (by rw [sz];kernel_rfl) oc ?_);(refine aA (fun W=>Below w.heap.size w W∧S.Hsh W w1.heap.size N∧w.heap.size≤w1.heap.size) (FF.out _) ?_);clear FF th sz oc;rintro W HW)
 refine bodyPost_ret (v:=.slice (some ⟨w1.heap.size,0,none⟩) 32 32) ?_ rfl ⟨w1.heap.size,rfl,HW.2.1,HW.2.2,HW.1⟩
 simp [results,Tryz.results64]
open Go.RowKit Go.Sort
structure TvZ (w W:World) (b0 g1 g2:Nat) (L1 L2:List (BitVec 8)) (vv kk:Value) (V K:List (BitVec 8)):Prop where
 B:Below w.heap.size w W
 d:S.Hsh W g1 L1
 e:S.Hsh W g2 L2
 l1:g1<b0
 l2:g2<b0
 hi:b0≤W.heap.size
 lw:w.heap.size≤b0
 v:S.Own b0 W vv V
 k:S.Own b0 W kk K
 vk:∀ b,vv.ownBlock=some b→kk.ownBlock≠some b
theorem TvZ.push {w W W':World} {b0 g1 g2:Nat} {L1 L2:List (BitVec 8)} {vv kk vv':Value} {V K:List (BitVec 8)} {x:BitVec 8} {z:Obj} (t:TvZ w W b0 g1 g2 L1 L2 vv kk V K) (hown:W'.ownsRow b0 5 1 vv' (V.length+1) (S.byts V++[.int .u8 (S.Y x)]))
  (hg:(W.alloc z).grownBy W' vv.ownBlock) (hblk:vv'.ownBlock=vv.ownBlock∨vv'.ownBlock=some (W.alloc z).heap.size):TvZ w W' b0 g1 g2 L1 L2 vv' kk (V++[x]) K:=by
 have ltv:∀ b,vv.ownBlock=some b→b0≤b∧b<W.heap.size:=fun b hb=>t.v.row.lt b hb
 have ltk:∀ b,kk.ownBlock=some b→b0≤b∧b<W.heap.size:=fun b hb=>t.k.row.lt b hb
 have sz:(W.alloc z).heap.size=W.heap.size+1:=by simp
 have hB:=t.B.alloc t.B.size z
 refine ⟨hB.grown hg (by have:=t.B.size;omega) (fun k hk=>by have:=ltv k hk;have:=t.lw;omega),(t.d.alloc z).sameH (hg.block g1 (by have:=t.l1;have:=t.hi;omega) (fun e=>by have:=ltv _ e.symm;have:=t.l1;omega)),(t.e.alloc z).sameH (hg.block g2 (by have:=t.l2;have:=t.hi;omega) (fun e=>by have:=ltv _ e.symm;have:=t.l2;omega)),t.l1,t.l2,by have:=hg.size;have:=t.hi;omega,t.lw,?_,(t.k.allocH z).keptH hg (fun b hb e=>t.vk b e hb),?_⟩
 ·rw [S.Own,List.length_append,←S.byts_snoc];exact hown
 ·intro b hb e
  rcases hblk with h|h
  ·exact t.vk b (by rw [←h];exact hb) e
  ·rw [h] at hb;have:=Option.some.inj hb;have:=ltk b e;omega
theorem TvZ.swap {w W:World} {b0 g1 g2:Nat} {L1 L2:List (BitVec 8)} {vv kk:Value} {V K:List (BitVec 8)} (t:TvZ w W b0 g1 g2 L1 L2 vv kk V K):TvZ w W b0 g1 g2 L1 L2 kk vv K V :=
 ⟨t.B,t.d,t.e,t.l1,t.l2,t.hi,t.lw,t.k,t.v,fun b hb e=>t.vk b e hb⟩
theorem qt (n:Nat) (x:BitVec 8):List.replicate n x++[x]=List.replicate (n+1) x:=(List.replicate_succ' (n:=n) (a:=x)).symm
theorem mH {W:World} {p q r s:S.Part} {v1 v2 v3 v4:Value} {g:Nat} {ty:TypeId} (e:g=W.heap.size) (e1:v1=p.val) (e2:v2=q.val) (e3:v3=r.val) (e4:v4=s.val) (hp:p.ok W) (hq:q.ok W) (hr:r.ok W) (hs:s.ok W):S.Prts (W.alloc (.cells #[v1,v2,v3,v4] ty)) g 0 [p,q,r,s]:=by
 subst e;subst e1;subst e2;subst e3;subst e4
 intro i hi
 have i2:i<4:=by simpa using hi
 have B:∀ o,Below W.heap.size W (W.alloc o):=fun o=>(Below.refl _ _).alloc (Nat.le_refl _) o
 rcases (by omega:i=0∨i=1∨i=2∨i=3) with rfl|rfl|rfl|rfl
 ·exact ⟨by rw [Nat.zero_add,World.cell?_alloc_mark];rfl,okZ hp (B _)⟩
 ·exact ⟨by rw [Nat.zero_add,World.cell?_alloc_mark];rfl,okZ hq (B _)⟩
 ·exact ⟨by rw [Nat.zero_add,World.cell?_alloc_mark];rfl,okZ hr (B _)⟩
 ·exact ⟨by rw [Nat.zero_add,World.cell?_alloc_mark];rfl,okZ hs (B _)⟩
structure CdZ (w W:World) (g1 g2:Nat) (L1 L2:List (BitVec 8)) (fk fv:Bool) (pk pv:S.Part):Prop where
 B:Below w.heap.size w W
 d:S.Hsh W g1 L1
 e:S.Hsh W g2 L2
 k:pk.ok W
 v:pv.ok W
 kh:fk=true→S.Hsh W pk.b pk.X
 vh:fv=true→S.Hsh W pv.b pv.X
theorem CdZ.keep {w W W':World} {g1 g2:Nat} {L1 L2:List (BitVec 8)} {fk fv:Bool} {pk pv:S.Part} (h:CdZ w W g1 g2 L1 L2 fk fv pk pv) (b:Below W.heap.size W W'):CdZ w W' g1 g2 L1 L2 fk fv pk pv:=⟨h.B.trans (b.mono h.B.size),h.d.keep b,h.e.keep b,okZ h.k b,okZ h.v b,fun e=>(h.kh e).keep b,fun e=>(h.vh e).keep b⟩
def ptZ (g:Nat) (X:List (BitVec 8)):S.Part:=⟨some ⟨g,0,none⟩,g,0,32,X⟩
theorem dM {W:World} {g:Nat} {X:List (BitVec 8)} (h:S.Hsh W g X):(ptZ g X).ok W:=bH h (Nat.le_refl _)
theorem iL {g:Nat} {X:List (BitVec 8)} (h:X.length=32):(ptZ g X).val = .slice (some ⟨g,0,none⟩) 32 32:=by show Value.slice (some ⟨g,0,none⟩) X.length 32=_;rw [h]
theorem c9 {pk:S.Part} {a:Option Addr} {bp op cp n:Nat} {PS:List S.Part} (hk:pk.X.length=32) (hn:PS.length=n) (hs:(S.catX PS).length<1000000) (n8:n≤8) (ha:PS=[]∨a=some ⟨bp,op,none⟩) (w:World) (h:pk.ok w) (hP:S.Prts w bp op PS) :
  Calls Tryz.prog 66 #[.slice pk.a 32 pk.c,.slice a n cp] w fun e w'=>∃ g,e = .returned (.slice (some ⟨g,0,none⟩) 32 32)∧S.Hsh w' g (S.hmacL pk.X (S.catX PS))∧w.heap.size≤g∧Below w.heap.size w w' :=
 uB hk hn (by omega) h.2.1 h.1 (by omega) (by omega) ha w h.2.2 hP
structure LpZ (w W:World) (gk gv:Nat) (lv:Value) (K V:List (BitVec 8)) (L:List Int):Prop where
 B:Below w.heap.size w W
 k:S.Hsh W gk K
 v:S.Hsh W gv V
 l:ik w.heap.size W lv L
 nk:lv.ownBlock≠some gk
 nv:lv.ownBlock≠some gv
theorem ik.keepZ {B:Nat} {W W':World} {v:Value} {L:List Int} (h:ik B W v L) (hb:Below W.heap.size W W'):ik B W' v L:=h.keep hb
theorem LpZ.keep {w W W':World} {gk gv:Nat} {lv:Value} {K V:List (BitVec 8)} {L:List Int} (h:LpZ w W gk gv lv K V L) (b:Below W.heap.size W W'):LpZ w W' gk gv lv K V L:=⟨h.B.trans (b.mono h.B.size),h.k.keep b,h.v.keep b,h.l.keepZ b,h.nk,h.nv⟩
theorem LpZ.newk {w W W':World} {gk gv g:Nat} {lv:Value} {K V X:List (BitVec 8)} {L:List Int} (h:LpZ w W gk gv lv K V L) (b:Below W.heap.size W W') (hx:S.Hsh W' g X) (ge:W.heap.size≤g):LpZ w W' g gv lv X V L:=by
 have t:=h.keep b
 exact ⟨t.B,hx,t.v,t.l,fun e=>by have:=(h.l.row.lt g e).2;omega,t.nv⟩
theorem LpZ.newv {w W W':World} {gk gv g:Nat} {lv:Value} {K V X:List (BitVec 8)} {L:List Int} (h:LpZ w W gk gv lv K V L) (b:Below W.heap.size W W') (hx:S.Hsh W' g X) (ge:W.heap.size≤g):LpZ w W' gk g lv K X L:=by
 have t:=h.keep b
 exact ⟨t.B,t.k,hx,t.l,t.nk,fun e=>by have:=(h.l.row.lt g e).2;omega⟩
theorem LpZ.push {w W W':World} {gk gv:Nat} {lv lv':Value} {K V:List (BitVec 8)} {L:List Int} {y:Int} (h:LpZ w W gk gv lv K V L) (hown:W'.ownsRow w.heap.size 24 4 lv' (L.length+1) (eY L++[.int .u64 (l0 y),.int .u64 (l1 y),.int .u64 (l2 y),.int .u64 (l3 y)])) (hg:W.grownBy W' lv.ownBlock) (hblk:lv'.ownBlock=lv.ownBlock∨lv'.ownBlock=some W.heap.size):LpZ w W' gk gv lv' K V (L++[y]):=by
 have lk:=h.k.lt
 have lv:=h.v.lt
 refine ⟨h.B.grown hg h.B.size (fun k hk=>(h.l.row.lt k hk).1),h.k.sameH (hg.block gk lk (fun e=>h.nk e.symm)),h.v.sameH (hg.block gv lv (fun e=>h.nv e.symm)),by rw [ik,List.length_append,←mF];exact hown,fun e=>?_,fun e=>?_⟩
 ·rcases hblk with q|q
  ·exact h.nk (q ▸ e)
  ·rw [q] at e;have:=Option.some.inj e;omega
 ·rcases hblk with q|q
  ·exact h.nv (q ▸ e)
  ·rw [q] at e;have:=Option.some.inj e;omega
theorem zy {W:World} {g:Nat} {V:List (BitVec 8)} (h:S.Hsh W g V):Rt 67 #[.slice (some ⟨g,0,none⟩) 32 32] W (.tuple #[U4 (aS (ivZ V) 32),.int .i64 0]):=by
 have h32:(ivZ V).length=32:=by rw [kY];exact h.1
 have:=ng (ob:=0) (cb:=32) (jD V) (by omega) W (rB h)
 rw [h32] at this
 exact this
theorem ke (C:Nat→Int) (i:Nat):(List.range i).map C++[C i]=(List.range (i+1)).map C:=by rw [List.range_succ,List.map_append];rfl
theorem rJ {W:World} {g gv:Nat} {V:List (BitVec 8)} {ty ty2:TypeId} (e:g=W.heap.size+1) (h:S.Hsh W gv V):S.Prts ((W.alloc (.cells #[.int .u8 0] ty)).alloc (.cells #[.slice (some ⟨gv,0,none⟩) 32 32,.slice (some ⟨W.heap.size,0,none⟩) 1 1] ty2)) g 0 [ptZ gv V,⟨some ⟨W.heap.size,0,none⟩,W.heap.size,0,1,[0]⟩] :=
 iH (by rw [e];simp) (iL h.1).symm rfl (okZ (dM h) ((Below.refl _ _).alloc (Nat.le_refl _) _)) (fJ (mb:=0) S.Y_zero)
theorem uC {key d:Int} {n:Nat} {M:List Value} (hl:M.length=32) (hn:n≤256) (ND:Hid (∀ w,Rt 65 #[.agg M.toArray] w (U4 d))) (w:World) :
  Calls Tryz.prog 35 #[U4 key,.agg M.toArray,.int .i64 (n:Int)] w fun e w'=>∃ v,e = .returned v∧ik w.heap.size w' v ((List.range n).map (aT (stZ key d)))∧Below w.heap.size w w':=by
 have HL:Hid (M.length=32∧n≤256):=⟨hl,hn⟩
 have n6:(n:Int)≤256:=by omega
 have il:(Tryz.prog.info? 26).map (·.size)=some M.length:=by rw [hl];kernel_rfl
 obtain ⟨i0,hi,hz0,hz1,hz2⟩:=info_parts S.info_byte
 have HZ:Hid (Tryz.prog.info? 5=some i0∧i0.zero=some (.int .u8 0)∧i0.size=1∧i0.bytes=1):=⟨hi,hz0,hz1,hz2⟩
 clear hi hz0 hz1 hz2
 obtain ⟨i1,hi,hz0,hz1,hz2⟩:=info_parts wC
 have HY:Hid (Tryz.prog.info? 24=some i1∧i1.zero=some (.agg #[.int .u64 0,.int .u64 0,.int .u64 0,.int .u64 0])∧i1.size=4∧i1.bytes=32):=⟨hi,hz0,hz1,hz2⟩
 clear hi hz0 hz1 hz2 hl hn
 obtain ⟨L1,eL1⟩:∃ L,L=pbZ key:=⟨_,rfl⟩
 obtain ⟨L2,eL2⟩:∃ L,L=pbZ d:=⟨_,rfl⟩
 have LL:Hid (L1=pbZ key∧L2=pbZ d∧L1.length=32∧L2.length=32):=⟨eL1,eL2,by rw [eL1,jE],by rw [eL2,jE]⟩
 clear eL1 eL2
 go_enter Tryz.func35,Tryz.ntmps35
 go_wp2_with fail
 have BA:∀ (V:World) o,Below V.heap.size V (V.alloc o):=fun V o=>(Below.refl _ _).alloc (Nat.le_refl _) o
 refine aa (fun W=>Below w.heap.size w W∧W.rangeAt (w.heap.size+1) 0 M) ⟨((Below.refl _ _).alloc (Nat.le_refl _) _).alloc (by simp) _,by have h:=dC (W:=w.alloc (.cells #[.int .u64 (l0 key),.int .u64 (l1 key),.int .u64 (l2 key),.int .u64 (l3 key)] 24)) (cs:=M) (t:=26);simpa using h⟩ ?_
 clear BA
 rintro W0 ⟨B0,hr0⟩
 refine (qs (x:=key) W0).mono ?_
 rw [←LL.out.1]
 rintro e W1 ⟨g1,rfl,hd,ge1,hb⟩
 have rg:=cV hr0 hb
 have B1:=B0.trans (hb.mono B0.size)
 have H1:Hid (Below w.heap.size w W1∧S.Hsh W1 g1 L1):=⟨B1,hd⟩
 clear hb hr0 B0 ge1 hd B1
 clear W0
 go_wp2_with (refine wpList_load_mid rfl 26 _ rfl (w.heap.size+1) 0 rfl M _ rg Tryz.underlying26 rfl il ?_)
 refine (ND.out _).mono ?_
 rintro e W2 ⟨rfl,hb⟩
 have H2:Hid (Below w.heap.size w W2∧S.Hsh W2 g1 L1):=⟨H1.out.1.trans (hb.mono H1.out.1.size),H1.out.2.keep hb⟩
 clear hb H1 rg il
 clear W1
 go_wp2_with fail
 refine (qs (x:=d) W2).mono ?_
 rw [←LL.out.2.1]
 rintro e W3 ⟨g2,rfl,he,ge2,hb⟩
 have H3:Hid (TvZ w W3 W3.heap.size g1 g2 L1 L2 (.slice none 0 0) (.slice none 0 0) [] []):=by
  have h1:=H2.out.2.keep hb
  have h2:=H2.out.1.trans (hb.mono H2.out.1.size)
  exact ⟨h2,h1,he,h1.lt,he.lt,Nat.le_refl _,h2.size,S.own_nil,S.own_nil,fun b e=>nomatch e⟩
 clear hb he ge2 H2
 clear W2
 go_wp2_with fail
 obtain ⟨b0,eb0⟩:∃ b,b=W3.heap.size:=⟨_,rfl⟩
 rw [←eb0] at H3
 clear eb0
 go_loopg [9,10,11] 32 (fun q vv kk iv wr=>∃ i:Nat,q=32-i∧i≤32∧iv = .int .i64 (i:Int)∧TvZ w wr b0 g1 g2 L1 L2 vv kk (List.replicate i 1) (List.replicate i 0))
 case atStart=>exact ⟨0,rfl,Nat.zero_le _,rfl,H3.out⟩
 case round =>
  clear H3
  obtain ⟨i,hk,hi,rfl,hT⟩:=hrel
  have HK:Hid (gk=32-i):=hk
  have HT:Hid (TvZ w wr b0 g1 g2 L1 L2 u9 u10 (List.replicate i 1) (List.replicate i 0)):=hT
  clear hk hT
  by_cases h8:i=32
  ·subst h8
   obtain ⟨av,gv0,cv,rfl,zv,yv,lv⟩:=HT.out.v.liesH
   obtain ⟨ak,gk0,ck,rfl,zk,yk,lk⟩:=HT.out.k.liesH
   have BA:Hid (∀ (V:World) o,Below V.heap.size V (V.alloc o)):=fun V o=>(Below.refl _ _).alloc (Nat.le_refl _) o
   have HC:Hid (CdZ w wr g1 g2 L1 L2 false false (⟨ak,gk0,0,ck,List.replicate 32 0⟩:S.Part) (⟨av,gv0,0,cv,List.replicate 32 1⟩:S.Part)):=⟨HT.out.B,HT.out.d,HT.out.e,⟨zk,lk,yk⟩,⟨zv,lv,yv⟩,(fun e=>nomatch e),(fun e=>nomatch e)⟩
   rw [List.length_replicate,List.length_replicate]
   clear zv yv lv zk yk lk HT HK HZ
   go_wp2_with fail
   refine aa (fun U=>CdZ w U g1 g2 L1 L2 false false (⟨ak,gk0,0,ck,List.replicate 32 0⟩:S.Part) (⟨av,gv0,0,cv,List.replicate 32 1⟩:S.Part)∧S.Prts U (wr.heap.size+1) 0 [(⟨av,gv0,0,cv,List.replicate 32 1⟩:S.Part),⟨some ⟨wr.heap.size,0,none⟩,wr.heap.size,0,1,[0]⟩,⟨some ⟨g1,0,none⟩,g1,0,32,L1⟩,⟨some ⟨g2,0,none⟩,g2,0,32,L2⟩]) ⟨(HC.out.keep (BA.out _ _)).keep (BA.out _ _),mH (by simp) rfl rfl (by rw [S.Part.val,LL.out.2.2.1]) (by rw [S.Part.val,LL.out.2.2.2]) (okZ HC.out.v (BA.out _ _)) (fJ (mb:=0) (by rw [S.Y_eq];rfl)) (okZ (bH HC.out.d (Nat.le_refl _)) (BA.out _ _)) (okZ (bH HC.out.e (Nat.le_refl _)) (BA.out _ _))⟩ ?_
   rintro U ⟨HU,hP⟩
   have cx:S.catX [(⟨av,gv0,0,cv,List.replicate 32 1⟩:S.Part),⟨some ⟨wr.heap.size,0,none⟩,wr.heap.size,0,1,[0]⟩,⟨some ⟨g1,0,none⟩,g1,0,32,L1⟩,⟨some ⟨g2,0,none⟩,g2,0,32,L2⟩]=(⟨List.replicate 32 0,List.replicate 32 1⟩:KvZ).v++([0]++(L1++L2)):=by simp [S.catX]
   have hc:=c9 (pk:=(⟨ak,gk0,0,ck,List.replicate 32 0⟩:S.Part)) (a:=some ⟨wr.heap.size+1,0,none⟩) (bp:=wr.heap.size+1) (op:=0) (cp:=4) (n:=4) (PS:=[(⟨av,gv0,0,cv,List.replicate 32 1⟩:S.Part),⟨some ⟨wr.heap.size,0,none⟩,wr.heap.size,0,1,[0]⟩,⟨some ⟨g1,0,none⟩,g1,0,32,L1⟩,⟨some ⟨g2,0,none⟩,g2,0,32,L2⟩]) (by show (List.replicate 32 (0:BitVec 8)).length=32;rfl) rfl (by rw [cx];have:=LL.out;have h32:=(show (List.replicate 32 (1:BitVec 8)).length=32 from rfl);simp only [List.length_append,List.length_cons,List.length_nil];omega) (by decide) (.inr rfl) U HU.k hP
   rw [cx] at hc
   refine hc.mono ?_
   clear hc cx hP
   rintro e W4 ⟨g3,rfl,hk,hge,hb⟩
   have HC':Hid (CdZ w W4 g1 g2 L1 L2 true false (ptZ g3 (aK (⟨List.replicate 32 0,List.replicate 32 1⟩:KvZ) ([0]++(L1++L2))).k) (⟨av,gv0,0,cv,List.replicate 32 1⟩:S.Part)):=by
    have h:=HU.keep hb
    exact ⟨h.B,h.d,h.e,dM hk,h.v,fun _=>hk,h.vh⟩
   clear hk hge hb HU HC
   clear U
   go_wp2_with fail
   refine aa (fun U=>CdZ w U g1 g2 L1 L2 true false (ptZ g3 (aK (⟨List.replicate 32 0,List.replicate 32 1⟩:KvZ) ([0]++(L1++L2))).k) (⟨av,gv0,0,cv,List.replicate 32 1⟩:S.Part)∧S.Prts U W4.heap.size 0 [(⟨av,gv0,0,cv,List.replicate 32 1⟩:S.Part)]) ⟨HC'.out.keep (BA.out _ _),cZ rfl rfl HC'.out.v⟩ ?_
   rintro U ⟨HU,hP⟩
   have cx:S.catX [(⟨av,gv0,0,cv,List.replicate 32 1⟩:S.Part)]=(⟨List.replicate 32 0,List.replicate 32 1⟩:KvZ).v:=by simp [S.catX]
   have hc:=c9 (pk:=(ptZ g3 (aK (⟨List.replicate 32 0,List.replicate 32 1⟩:KvZ) ([0]++(L1++L2))).k)) (a:=some ⟨W4.heap.size,0,none⟩) (bp:=W4.heap.size) (op:=0) (cp:=1) (n:=1) (PS:=[(⟨av,gv0,0,cv,List.replicate 32 1⟩:S.Part)]) (dH _ _).1 rfl (by rw [cx];have h32:=(show (⟨List.replicate 32 0,List.replicate 32 1⟩:KvZ).v.length=32 from rfl);omega) (by decide) (.inr rfl) U HU.k hP
   rw [cx] at hc
   refine hc.mono ?_
   clear hc cx hP
   rintro e W5 ⟨g4,rfl,hk,hge,hb⟩
   have HC:Hid (CdZ w W5 g1 g2 L1 L2 true true (ptZ g3 (aK (⟨List.replicate 32 0,List.replicate 32 1⟩:KvZ) ([0]++(L1++L2))).k) (ptZ g4 (aK (⟨List.replicate 32 0,List.replicate 32 1⟩:KvZ) ([0]++(L1++L2))).v)):=by
    have h:=HU.keep hb
    exact ⟨h.B,h.d,h.e,h.k,dM hk,h.kh,fun _=>hk⟩
   clear hk hge hb HU HC'
   clear U
   go_wp2_with fail
   refine aa (fun U=>CdZ w U g1 g2 L1 L2 true true (ptZ g3 (aK (⟨List.replicate 32 0,List.replicate 32 1⟩:KvZ) ([0]++(L1++L2))).k) (ptZ g4 (aK (⟨List.replicate 32 0,List.replicate 32 1⟩:KvZ) ([0]++(L1++L2))).v)∧S.Prts U (W5.heap.size+1) 0 [(ptZ g4 (aK (⟨List.replicate 32 0,List.replicate 32 1⟩:KvZ) ([0]++(L1++L2))).v),⟨some ⟨W5.heap.size,0,none⟩,W5.heap.size,0,1,[1]⟩,⟨some ⟨g1,0,none⟩,g1,0,32,L1⟩,⟨some ⟨g2,0,none⟩,g2,0,32,L2⟩]) ⟨(HC.out.keep (BA.out _ _)).keep (BA.out _ _),mH (by simp) (iL (dH _ _).2).symm rfl (by rw [S.Part.val,LL.out.2.2.1]) (by rw [S.Part.val,LL.out.2.2.2]) (okZ HC.out.v (BA.out _ _)) (fJ (mb:=1) (by rw [S.Y_eq];rfl)) (okZ (bH HC.out.d (Nat.le_refl _)) (BA.out _ _)) (okZ (bH HC.out.e (Nat.le_refl _)) (BA.out _ _))⟩ ?_
   rintro U ⟨HU,hP⟩
   have cx:S.catX [(ptZ g4 (aK (⟨List.replicate 32 0,List.replicate 32 1⟩:KvZ) ([0]++(L1++L2))).v),⟨some ⟨W5.heap.size,0,none⟩,W5.heap.size,0,1,[1]⟩,⟨some ⟨g1,0,none⟩,g1,0,32,L1⟩,⟨some ⟨g2,0,none⟩,g2,0,32,L2⟩]=(aK (⟨List.replicate 32 0,List.replicate 32 1⟩:KvZ) ([0]++(L1++L2))).v++([1]++(L1++L2)):=by simp [S.catX,ptZ]
   have hc:=c9 (pk:=(ptZ g3 (aK (⟨List.replicate 32 0,List.replicate 32 1⟩:KvZ) ([0]++(L1++L2))).k)) (a:=some ⟨W5.heap.size+1,0,none⟩) (bp:=W5.heap.size+1) (op:=0) (cp:=4) (n:=4) (PS:=[(ptZ g4 (aK (⟨List.replicate 32 0,List.replicate 32 1⟩:KvZ) ([0]++(L1++L2))).v),⟨some ⟨W5.heap.size,0,none⟩,W5.heap.size,0,1,[1]⟩,⟨some ⟨g1,0,none⟩,g1,0,32,L1⟩,⟨some ⟨g2,0,none⟩,g2,0,32,L2⟩]) (dH _ _).1 rfl (by rw [cx];have:=LL.out;have h32:=(show (aK (⟨List.replicate 32 0,List.replicate 32 1⟩:KvZ) ([0]++(L1++L2))).v.length=32 from (dH _ _).2);simp only [List.length_append,List.length_cons,List.length_nil];omega) (by decide) (.inr rfl) U HU.k hP
   rw [cx] at hc
   refine hc.mono ?_
   clear hc cx hP
   rintro e W6 ⟨g5,rfl,hk,hge,hb⟩
   have HC':Hid (CdZ w W6 g1 g2 L1 L2 true true (ptZ g5 (aK (aK (⟨List.replicate 32 0,List.replicate 32 1⟩:KvZ) ([0]++(L1++L2))) ([1]++(L1++L2))).k) (ptZ g4 (aK (⟨List.replicate 32 0,List.replicate 32 1⟩:KvZ) ([0]++(L1++L2))).v)):=by
    have h:=HU.keep hb
    exact ⟨h.B,h.d,h.e,dM hk,h.v,fun _=>hk,h.vh⟩
   clear hk hge hb HU HC
   clear U
   go_wp2_with fail
   refine aa (fun U=>CdZ w U g1 g2 L1 L2 true true (ptZ g5 (aK (aK (⟨List.replicate 32 0,List.replicate 32 1⟩:KvZ) ([0]++(L1++L2))) ([1]++(L1++L2))).k) (ptZ g4 (aK (⟨List.replicate 32 0,List.replicate 32 1⟩:KvZ) ([0]++(L1++L2))).v)∧S.Prts U W6.heap.size 0 [(ptZ g4 (aK (⟨List.replicate 32 0,List.replicate 32 1⟩:KvZ) ([0]++(L1++L2))).v)]) ⟨HC'.out.keep (BA.out _ _),cZ rfl (iL (dH _ _).2).symm HC'.out.v⟩ ?_
   rintro U ⟨HU,hP⟩
   have cx:S.catX [(ptZ g4 (aK (⟨List.replicate 32 0,List.replicate 32 1⟩:KvZ) ([0]++(L1++L2))).v)]=(aK (⟨List.replicate 32 0,List.replicate 32 1⟩:KvZ) ([0]++(L1++L2))).v:=by simp [S.catX,ptZ]
   have hc:=c9 (pk:=(ptZ g5 (aK (aK (⟨List.replicate 32 0,List.replicate 32 1⟩:KvZ) ([0]++(L1++L2))) ([1]++(L1++L2))).k)) (a:=some ⟨W6.heap.size,0,none⟩) (bp:=W6.heap.size) (op:=0) (cp:=1) (n:=1) (PS:=[(ptZ g4 (aK (⟨List.replicate 32 0,List.replicate 32 1⟩:KvZ) ([0]++(L1++L2))).v)]) (dH _ _).1 rfl (by rw [cx];have h32:=(show (aK (⟨List.replicate 32 0,List.replicate 32 1⟩:KvZ) ([0]++(L1++L2))).v.length=32 from (dH _ _).2);omega) (by decide) (.inr rfl) U HU.k hP
   rw [cx] at hc
   refine hc.mono ?_
   clear hc cx hP
   rintro e W7 ⟨g6,rfl,hk,hge,hb⟩
   have HC:Hid (CdZ w W7 g1 g2 L1 L2 true true (ptZ g5 (aK (aK (⟨List.replicate 32 0,List.replicate 32 1⟩:KvZ) ([0]++(L1++L2))) ([1]++(L1++L2))).k) (ptZ g6 (aK (aK (⟨List.replicate 32 0,List.replicate 32 1⟩:KvZ) ([0]++(L1++L2))) ([1]++(L1++L2))).v)):=by
    have h:=HU.keep hb
    exact ⟨h.B,h.d,h.e,h.k,dM hk,h.kh,fun _=>hk⟩
   clear hk hge hb HU HC'
   clear U
   have be:stZ key d=(aK (aK (⟨List.replicate 32 0,List.replicate 32 1⟩:KvZ) ([0]++(L1++L2))) ([1]++(L1++L2))):=by unfold stZ um;rw [←LL.out.1,←LL.out.2.1,List.append_assoc,List.append_assoc]
   rw [←be] at HC
   clear be
   obtain ⟨st,est⟩:∃ s,s=stZ key d:=⟨_,rfl⟩
   rw [←est] at HC
   have EST:Hid (st=stZ key d):=est
   have LS:Hid (LpZ w W7 g5 g6 (.slice none 0 0) (kvZ st 0).k (kvZ st 0).v ((List.range 0).map (aT st))):=⟨HC.out.B,HC.out.kh rfl,HC.out.vh rfl,ik.none _ _,(fun e=>nomatch e),(fun e=>nomatch e)⟩
   clear est HC
   go_wp2_with fail
   go_loopg [9,10,12,13] n (fun q vv kk lv iv wr=>∃ (i gk gv:Nat),q=n-i∧i≤n∧vv = .slice (some ⟨gv,0,none⟩) 32 32∧kk = .slice (some ⟨gk,0,none⟩) 32 32∧iv = .int .i64 (i:Int)∧LpZ w wr gk gv lv (kvZ st i).k (kvZ st i).v ((List.range i).map (aT st)))
   case atStart=>exact ⟨0,g5,g6,rfl,Nat.zero_le _,rfl,rfl,rfl,LS.out⟩
   case round =>
    clear LS
    obtain ⟨i,gk',gv',hk,hi,rfl,rfl,rfl,hT⟩:=hrel
    have HK:Hid (gk=n-i):=hk
    have HT:Hid (LpZ w wr gk' gv' u12 (kvZ st i).k (kvZ st i).v ((List.range i).map (aT st))):=hT
    clear hk hT
    by_cases h8:i=n
    ·subst h8
     go_wp2_with fail
     refine bodyPost_ret (v:=u12) ?_ rfl ⟨u12,rfl,by rw [←EST.out];exact HT.out.l,HT.out.B⟩
     simp [results,Tryz.results35]
    ·have hi':(i:Int)<n:=by omega
     by_cases h0:i=0
     ·subst h0
      go_wp2_with fail
      have hc:=c9 (pk:=ptZ gk' (kvZ st 0).k) (a:=some ⟨wr.heap.size,0,none⟩) (bp:=wr.heap.size) (op:=0) (cp:=1) (n:=1) (PS:=[ptZ gv' (kvZ st 0).v]) HT.out.k.1 rfl (by simp only [S.catX,ptZ,List.flatMap_cons,List.flatMap_nil,List.append_nil];have:=HT.out.v.1;omega) (by decide) (.inr rfl)
      refine aa (fun U=>LpZ w U gk' gv' u12 (kvZ st 0).k (kvZ st 0).v ((List.range 0).map (aT st))∧S.Prts U wr.heap.size 0 [ptZ gv' (kvZ st 0).v]) ⟨HT.out.keep (BA.out _ _),cZ rfl (iL HT.out.v.1).symm (dM HT.out.v)⟩ ?_
      rintro U ⟨HU,hP⟩
      refine (hc U (dM HU.k) hP).mono ?_
      rw [show S.catX [ptZ gv' (kvZ st 0).v]=(kvZ st 0).v by simp [S.catX,ptZ],show (ptZ gk' (kvZ st 0).k).X=(kvZ st 0).k from rfl]
      clear hc hP
      rintro e W8 ⟨g8,rfl,hk,hge,hb⟩
      have HA:Hid (LpZ w W8 gk' g8 u12 (kvZ st 0).k (S.hmacL (kvZ st 0).k (kvZ st 0).v) ((List.range 0).map (aT st))):=HU.newv hb hk hge
      clear hk hge hb HU HT
      clear U
      have HP:Hid (LpZ w W8 gk' g8 u12 (kvZ st (0+1)).k (kvZ st (0+1)).v ((List.range 0).map (aT st))):=by rw [mu];exact HA.out
      clear HA
      go_wp2_with fail
      refine (zy HP.out.v).mono ?_
      rw [show aS (ivZ (kvZ st (0+1)).v) 32=aT st 0 from rfl]
      rintro e Wy ⟨rfl,hb⟩
      have HQ:Hid (LpZ w Wy gk' g8 u12 (kvZ st (0+1)).k (kvZ st (0+1)).v ((List.range 0).map (aT st))):=HP.out.keep hb
      clear hb HP
      obtain ⟨y,ey⟩:∃ y,y=aT st 0:=⟨_,rfl⟩
      rw [←ey]
      have EY:Hid (y=aT st 0):=ey
      clear ey
      have LP:Hid (((List.range 0).map (aT st)).length≤256):=by show ((List.range 0).map (aT st)).length≤256;rw [List.length_map,List.length_range];omega
      go_wp2_with (at_builtin;(refine wpList_append_own_at _ rfl _ _ 68 rfl w.heap.size 24 i1 (.agg #[.int .u64 0,.int .u64 0,.int .u64 0,.int .u64 0]) 4 32 Tryz.underlying68 HY.out.1 HY.out.2.1 HY.out.2.2.1 HY.out.2.2.2 rfl (by decide) u12 _ _ rfl ((HQ.out.l.row.alloc _).alloc _) ⟨Wy.heap.size+1,0,none⟩ 1 1 [.int .u64 (l0 y),.int .u64 (l1 y),.int .u64 (l2 y),.int .u64 (l3 y)] rfl rfl (mG _ _ _ _ _ _ (by simp)) (qr y) (by unfold maxLen;have:=LP.out;omega) (by have:=LP.out;omega) (by have:=HQ.out.B.size;simp;omega) ?_);intro v3 w3 hown hgrow hnil hblk;have T3:Hid (LpZ w w3 gk' g8 v3 (kvZ st (0+1)).k (kvZ st (0+1)).v ((List.range 0).map (aT st)++[y])):=((HQ.out.keep (BA.out _ _)).keep (BA.out _ _)).push hown hgrow hblk;clear hown hgrow hnil hblk)
      go_roundg (n-(0+1))
      case measure=>have:=HK.out;omega
      case rel =>
       refine ⟨0+1,gk',g8,rfl,by omega,rfl,rfl,by go_num,?_⟩
       rw [←ke,←EY.out]
       exact T3.out
     ·have hp:(0:Int)<(i:Int):=by omega
      go_wp2_with fail
      have cx:S.catX [ptZ gv' (kvZ st i).v,⟨some ⟨wr.heap.size,0,none⟩,wr.heap.size,0,1,[0]⟩]=(kvZ st i).v++[0]:=by simp [S.catX,ptZ]
      have hc:=c9 (pk:=ptZ gk' (kvZ st i).k) (a:=some ⟨wr.heap.size+1,0,none⟩) (bp:=wr.heap.size+1) (op:=0) (cp:=2) (n:=2) (PS:=[ptZ gv' (kvZ st i).v,⟨some ⟨wr.heap.size,0,none⟩,wr.heap.size,0,1,[0]⟩]) HT.out.k.1 rfl (by rw [cx,List.length_append];have:=HT.out.v.1;simp only [List.length_cons,List.length_nil];omega) (by decide) (.inr rfl)
      refine aa (fun U=>LpZ w U gk' gv' u12 (kvZ st i).k (kvZ st i).v ((List.range i).map (aT st))∧S.Prts U (wr.heap.size+1) 0 [ptZ gv' (kvZ st i).v,⟨some ⟨wr.heap.size,0,none⟩,wr.heap.size,0,1,[0]⟩]) ⟨(HT.out.keep (BA.out _ _)).keep (BA.out _ _),rJ rfl HT.out.v⟩ ?_
      rintro U ⟨HU,hP⟩
      refine (hc U (dM HU.k) hP).mono ?_
      rw [cx,show (ptZ gk' (kvZ st i).k).X=(kvZ st i).k from rfl]
      clear hc hP cx
      rintro e W8 ⟨g8,rfl,hk,hge,hb⟩
      have HA:Hid (LpZ w W8 g8 gv' u12 (S.hmacL (kvZ st i).k ((kvZ st i).v++[0])) (kvZ st i).v ((List.range i).map (aT st))):=HU.newk hb hk hge
      clear hk hge hb HU HT
      clear U
      go_wp2_with fail
      have hc:=c9 (pk:=ptZ g8 (S.hmacL (kvZ st i).k ((kvZ st i).v++[0]))) (a:=some ⟨W8.heap.size,0,none⟩) (bp:=W8.heap.size) (op:=0) (cp:=1) (n:=1) (PS:=[ptZ gv' (kvZ st i).v]) HA.out.k.1 rfl (by simp only [S.catX,ptZ,List.flatMap_cons,List.flatMap_nil,List.append_nil];have:=HA.out.v.1;omega) (by decide) (.inr rfl)
      refine aa (fun U=>LpZ w U g8 gv' u12 (S.hmacL (kvZ st i).k ((kvZ st i).v++[0])) (kvZ st i).v ((List.range i).map (aT st))∧S.Prts U W8.heap.size 0 [ptZ gv' (kvZ st i).v]) ⟨HA.out.keep (BA.out _ _),cZ rfl (iL HA.out.v.1).symm (dM HA.out.v)⟩ ?_
      rintro U ⟨HU,hP⟩
      refine (hc U (dM HU.k) hP).mono ?_
      rw [show S.catX [ptZ gv' (kvZ st i).v]=(kvZ st i).v by simp [S.catX,ptZ],show (ptZ g8 (S.hmacL (kvZ st i).k ((kvZ st i).v++[0]))).X=(S.hmacL (kvZ st i).k ((kvZ st i).v++[0])) from rfl]
      clear hc hP
      rintro e W9 ⟨g9,rfl,hk,hge,hb⟩
      have HB:Hid (LpZ w W9 g8 g9 u12 (S.hmacL (kvZ st i).k ((kvZ st i).v++[0])) (S.hmacL (S.hmacL (kvZ st i).k ((kvZ st i).v++[0])) (kvZ st i).v) ((List.range i).map (aT st))):=HU.newv hb hk hge
      clear hk hge hb HU HA
      clear U
      go_wp2_with fail
      have hc:=c9 (pk:=ptZ g8 (S.hmacL (kvZ st i).k ((kvZ st i).v++[0]))) (a:=some ⟨W9.heap.size,0,none⟩) (bp:=W9.heap.size) (op:=0) (cp:=1) (n:=1) (PS:=[ptZ g9 (S.hmacL (S.hmacL (kvZ st i).k ((kvZ st i).v++[0])) (kvZ st i).v)]) HB.out.k.1 rfl (by simp only [S.catX,ptZ,List.flatMap_cons,List.flatMap_nil,List.append_nil];have:=HB.out.v.1;omega) (by decide) (.inr rfl)
      refine aa (fun U=>LpZ w U g8 g9 u12 (S.hmacL (kvZ st i).k ((kvZ st i).v++[0])) (S.hmacL (S.hmacL (kvZ st i).k ((kvZ st i).v++[0])) (kvZ st i).v) ((List.range i).map (aT st))∧S.Prts U W9.heap.size 0 [ptZ g9 (S.hmacL (S.hmacL (kvZ st i).k ((kvZ st i).v++[0])) (kvZ st i).v)]) ⟨HB.out.keep (BA.out _ _),cZ rfl (iL HB.out.v.1).symm (dM HB.out.v)⟩ ?_
      rintro U ⟨HU,hP⟩
      refine (hc U (dM HU.k) hP).mono ?_
      rw [show S.catX [ptZ g9 (S.hmacL (S.hmacL (kvZ st i).k ((kvZ st i).v++[0])) (kvZ st i).v)]=(S.hmacL (S.hmacL (kvZ st i).k ((kvZ st i).v++[0])) (kvZ st i).v) by simp [S.catX,ptZ],show (ptZ g8 (S.hmacL (kvZ st i).k ((kvZ st i).v++[0]))).X=(S.hmacL (kvZ st i).k ((kvZ st i).v++[0])) from rfl]
      clear hc hP
      rintro e WA ⟨ga,rfl,hk,hge,hb⟩
      have HD:Hid (LpZ w WA g8 ga u12 (S.hmacL (kvZ st i).k ((kvZ st i).v++[0])) (S.hmacL (S.hmacL (kvZ st i).k ((kvZ st i).v++[0])) (S.hmacL (S.hmacL (kvZ st i).k ((kvZ st i).v++[0])) (kvZ st i).v)) ((List.range i).map (aT st))):=HU.newv hb hk hge
      clear hk hge hb HU HB
      clear U
      have HP:Hid (LpZ w WA g8 ga u12 (kvZ st (i+1)).k (kvZ st (i+1)).v ((List.range i).map (aT st))):=by rw [mu,show xi st i=aK (kvZ st i) [0] from if_neg h0];exact HD.out
      clear HD
      go_wp2_with fail
      refine (zy HP.out.v).mono ?_
      rw [show aS (ivZ (kvZ st (i+1)).v) 32=aT st i from rfl]
      rintro e Wy ⟨rfl,hb⟩
      have HQ:Hid (LpZ w Wy g8 ga u12 (kvZ st (i+1)).k (kvZ st (i+1)).v ((List.range i).map (aT st))):=HP.out.keep hb
      clear hb HP
      obtain ⟨y,ey⟩:∃ y,y=aT st i:=⟨_,rfl⟩
      rw [←ey]
      have EY:Hid (y=aT st i):=ey
      clear ey
      have LP:Hid (((List.range i).map (aT st)).length≤256):=by show ((List.range i).map (aT st)).length≤256;rw [List.length_map,List.length_range];omega
      go_wp2_with (at_builtin;(refine wpList_append_own_at _ rfl _ _ 68 rfl w.heap.size 24 i1 (.agg #[.int .u64 0,.int .u64 0,.int .u64 0,.int .u64 0]) 4 32 Tryz.underlying68 HY.out.1 HY.out.2.1 HY.out.2.2.1 HY.out.2.2.2 rfl (by decide) u12 _ _ rfl ((HQ.out.l.row.alloc _).alloc _) ⟨Wy.heap.size+1,0,none⟩ 1 1 [.int .u64 (l0 y),.int .u64 (l1 y),.int .u64 (l2 y),.int .u64 (l3 y)] rfl rfl (mG _ _ _ _ _ _ (by simp)) (qr y) (by unfold maxLen;have:=LP.out;omega) (by have:=LP.out;omega) (by have:=HQ.out.B.size;simp;omega) ?_);intro v3 w3 hown hgrow hnil hblk;have T3:Hid (LpZ w w3 g8 ga v3 (kvZ st (i+1)).k (kvZ st (i+1)).v ((List.range i).map (aT st)++[y])):=((HQ.out.keep (BA.out _ _)).keep (BA.out _ _)).push hown hgrow hblk;clear hown hgrow hnil hblk)
      go_roundg (n-(i+1))
      case measure=>have:=HK.out;omega
      case rel =>
       refine ⟨i+1,g8,ga,rfl,by omega,rfl,rfl,by go_num,?_⟩
       rw [←ke,←EY.out]
       exact T3.out
  ·have hi':(i:Int)<32:=by omega
   have y1:Hid (S.Y 1=1):=by show S.Y 1=1;rw [S.Y_eq];rfl
   have y0:Hid (S.Y 0=0):=S.Y_zero
   go_wp2_with first|((at_builtin;(refine wpList_append_own_at _ rfl _ _ 36 rfl b0 5 i0 (.int .u8 0) 1 1 Tryz.underlying36 HZ.out.1 HZ.out.2.1 HZ.out.2.2.1 HZ.out.2.2.2 rfl (by decide) u9 _ _ rfl (HT.out.v.row.alloc _) ⟨wr.heap.size,0,none⟩ 1 1 [.int .u8 1] rfl rfl (cell_one_new _ _ _) (fun u hu=>by simp at hu;subst hu;rfl) (by unfold maxLen;rw [List.length_replicate];omega) (by rw [List.length_replicate];omega) (by have:=HT.out.hi;simp;omega) ?_);intro v' w4 hown hgrow hnil hblk;(have HT1:Hid (TvZ w w4 b0 g1 g2 L1 L2 v' u10 (List.replicate i 1++[1]) (List.replicate i 0)):=HT.out.push (by rw [y1.out];exact hown) hgrow hblk);clear hown hgrow hnil hblk))|((at_builtin;(refine wpList_append_own_at _ rfl _ _ 36 rfl b0 5 i0 (.int .u8 0) 1 1 Tryz.underlying36 HZ.out.1 HZ.out.2.1 HZ.out.2.2.1 HZ.out.2.2.2 rfl (by decide) u10 _ _ rfl (HT1.out.k.row.alloc _) ⟨w4.heap.size,0,none⟩ 1 1 [.int .u8 0] rfl rfl (cell_one_new _ _ _) (fun u hu=>by simp at hu;subst hu;rfl) (by unfold maxLen;rw [List.length_replicate];omega) (by rw [List.length_replicate];omega) (by have:=HT1.out.hi;simp;omega) ?_);intro k' w5 hown hgrow hnil hblk;(have HT2:Hid (TvZ w w5 b0 g1 g2 L1 L2 v' k' (List.replicate i 1++[1]) (List.replicate i 0++[0])):=(HT1.out.swap.push (x:=0) (by rw [y0.out];exact hown) hgrow hblk).swap);clear hown hgrow hnil hblk))
   go_roundg (32-(i+1))
   case measure=>have:=HK.out;omega
   case rel =>
    refine ⟨i+1,rfl,by omega,by go_num,?_⟩
    rw [←qt,←qt]
    exact HT2.out
open Go.RowKit Go.Sort
theorem qu {C:Nat→Int} {wh n g o c:Nat} {a:Option Addr} (hC:∀ i,Num (C i)) (hw:wh<64) (hn:n≤256) (ha:At4 a g o ((List.range n).map C)) (w:World) (hN:Nms w g o ((List.range n).map C)) :
  Rt 36 #[.slice a n c,.int .i64 (wh:Int)] w (.tuple #[U4 ((pkZ C wh n).getD 0),.bool (pkZ C wh n).isSome]):=by
 have w64:(wh:Int)<64:=by omega
 have n6:(n:Int)≤256:=by omega
 have gt:∀ i,i<n→((List.range n).map C).getD i 0=C i:=fun i hi=>by simp [List.getD,hi]
 have HC:Hid ((∀ i,Num (C i))∧n≤256∧wh<64):=⟨hC,hn,hw⟩
 have KD:Hid (∀ W,Below w.heap.size w W→∀ i,i<n→a=some ⟨g,o,none⟩∧W.cell? ⟨g,o+i*4,none⟩=some (.int .u64 (l0 (C i)))∧W.cell? ⟨g,o+i*4+1,none⟩=some (.int .u64 (l1 (C i)))∧W.cell? ⟨g,o+i*4+2,none⟩=some (.int .u64 (l2 (C i)))∧W.cell? ⟨g,o+i*4+3,none⟩=some (.int .u64 (l3 (C i)))):=fun W hb i hi=>by
  have:=(hN.keep hb) i (by simpa using hi)
  rw [gt i hi] at this
  refine ⟨ha.resolve_left (fun e=>?_),this⟩
  have:=congrArg List.length e
  simp at this
  omega
 have z0:l0 0=0∧l1 0=0∧l2 0=0∧l3 0=0:=by decide
 clear hC hw hn ha hN gt
 go_enter Tryz.func36,Tryz.ntmps36
 go_wp2_with fail
 refine af (fun W=>Below w.heap.size w W∧ac W w.heap.size) ⟨(Below.refl _ _).alloc (Nat.le_refl _) _,ac.new rfl⟩ ?_
 rintro W0 HW
 go_loopg [1,6] n (fun q hv iv wr=>∃ i:Nat,q=n-i∧i≤n∧hv = .int .i64 ((wh:Int)-(db C i:Nat))∧iv = .int .i64 (i:Int)∧db C i≤wh∧pkZ C wh i=none∧Below w.heap.size w wr∧ac wr w.heap.size)
 case atStart=>exact ⟨0,rfl,Nat.zero_le _,by simp [db],rfl,Nat.zero_le _,rfl,HW.1,HW.2⟩
 case round =>
  clear HW
  obtain ⟨i,hk,hi,rfl,rfl,hc,hp,hB,hR⟩:=hrel
  have HK:Hid (gk=n-i∧i≤n):=⟨hk,hi⟩
  have HP:Hid (pkZ C wh i=none∧Below w.heap.size w wr∧ac wr w.heap.size):=⟨hp,hB,hR⟩
  clear hk hp hB hR
  by_cases h8:i=n
  ·subst h8
   have gR0:=HP.out.2.2.1.all4
   have fR0:=HP.out.2.2.2.all4
   go_wp2
   have e1:(pkZ C wh i).getD 0=0:=by rw [HP.out.1];rfl
   have e2:(pkZ C wh i).isSome=false:=by rw [HP.out.1];rfl
   have fin:=fun v0 v1 v2 v3=>((((S.Off.refl w.heap.size wr).setCell (i:=0) v0).setCell (i:=1) v1).setCell (i:=2) v2).setCell (i:=3) v3
   have fb:=fun v0 v1 v2 v3=>HP.out.2.1.trans ((fin v0 v1 v2 v3).below (B:=w.heap.size) HP.out.2.1.size (Nat.le_refl _))
   simp [bodyPost,results,Tryz.results36,go_sem,gR0,e1,e2,z0]
   exact fb _ _ _ _
  ·have hi':(i:Int)<(n:Int):=by omega
   obtain ⟨rfl,gA⟩:=KD.out wr HP.out.2.1 i (by omega)
   have IN:=fj (HC.out.1 i)
   have CN:Hid (db C (i+1)=if cM (C i) then db C i+1 else db C i):=rfl
   cases hf:cM (C i) with
   | false =>
    rw [hf] at IN
    have FN:Hid (cM (C i)=false∧db C i≤wh):=⟨hf,hc⟩
    go_wp2_with fail
    with_reducible refine (IN.out _).mono ?_
    rintro e w2 ⟨rfl,hb⟩
    have F2:Hid (Below w.heap.size w w2∧ac w2 w.heap.size):=⟨HP.out.2.1.trans (hb.mono HP.out.2.1.size),HP.out.2.2.keep hb⟩
    clear hb IN hf gA
    go_wp2
    go_roundg (n-(i+1))
    case measure=>have:=HK.out;omega
    case rel =>
     refine ⟨i+1,rfl,by omega,?_,by go_num,?_,nJ HP.out.1 FN.out.1,F2.out⟩
     ·rw [CN.out,FN.out.1];rfl
     ·rw [CN.out,FN.out.1];exact FN.out.2
   | true =>
    rw [hf] at IN
    have FN:Hid (cM (C i)=true∧db C i≤wh):=⟨hf,hc⟩
    go_wp2_with fail
    with_reducible refine (IN.out _).mono ?_
    rintro e w2 ⟨rfl,hb⟩
    have F2:Hid (Below w.heap.size w w2∧ac w2 w.heap.size):=⟨HP.out.2.1.trans (hb.mono HP.out.2.1.size),HP.out.2.2.keep hb⟩
    have gB:=(KD.out w2 F2.out.1 i (by omega)).2
    clear hb IN hf gA
    by_cases he:db C i=wh
    ·have HE:Hid (pkZ C wh (i+1)=some (C i)):=qf HP.out.1 FN.out.1 he
     have he':((wh:Int)-(db C i:Nat))=0:=by omega
     have gR0:=F2.out.2.1.all4
     have fR0:=F2.out.2.2.all4
     clear CN
     generalize db C i=ct at *
     go_wp2
     have hm:=mw HE.out (n-(i+1))
     rw [show i+1+(n-(i+1))=n by omega] at hm
     have e1:(pkZ C wh n).getD 0=C i:=by rw [hm];rfl
     have e2:(pkZ C wh n).isSome=true:=by rw [hm];rfl
     have fin:=fun v0 v1 v2 v3=>((((S.Off.refl w.heap.size w2).setCell (i:=0) v0).setCell (i:=1) v1).setCell (i:=2) v2).setCell (i:=3) v3
     have fb:=fun v0 v1 v2 v3=>F2.out.1.trans ((fin v0 v1 v2 v3).below (B:=w.heap.size) F2.out.1.size (Nat.le_refl _))
     simp [bodyPost,results,Tryz.results36,go_sem,gR0,e1,e2]
     exact fb _ _ _ _
    ·have HE:Hid (pkZ C wh (i+1)=none):=nM HP.out.1 he
     have he':¬((wh:Int)-(db C i:Nat))=0:=by omega
     clear gB
     obtain ⟨ct,ect⟩:∃ ct,ct=db C i:=⟨_,rfl⟩
     rw [←ect] at he he' hc ⊢
     rw [←ect] at CN FN
     clear ect
     go_wp2
     go_roundg (n-(i+1))
     case measure=>have:=HK.out;omega
     case rel =>
      refine ⟨i+1,rfl,by omega,?_,by go_num,?_,HE.out,F2.out⟩
      ·rw [CN.out,FN.out.1]
       go_num
      ·rw [CN.out,FN.out.1]
       show ct+1≤wh
       omega
open Go.RowKit Go.Sort
theorem rL {key wh:Int} {A:List Int} (hl:A.length=32) (hb:wh<0∨64≤wh) (w:World) :
  Rt 19 #[U4 key,aO A,.int .i64 wh] w (.tuple #[.agg #[.int .u64 (l0 0),.int .u64 (l1 0),.int .u64 (l2 0),.int .u64 (l3 0)],.int .i64 1]):=by
 have HL:Hid (A.length=32):=hl
 clear hl
 unfold aO
 have z0:l0 0=0∧l1 0=0∧l2 0=0∧l3 0=0:=by decide
 rcases hb with hb|hb
 all_goals
  go_enter Tryz.func19,Tryz.ntmps19
  go_wp2
  simp [bodyPost,results,Tryz.results19,go_sem,z0]
  repeat (first|with_reducible exact Below.refl _ _|with_reducible refine Below.setCell ?_ (by first|omega|(simp;omega)) _|with_reducible refine Below.alloc ?_ (by first|omega|(simp;done)|(simp;omega)) _)
structure NrZ (w W:World) (key:Int) (M:List Value):Prop where
 below:Below w.heap.size w W
 key:ab W w.heap.size key
 dig:W.rangeAt (w.heap.size+1) 0 M
 res:ac W (w.heap.size+1+1)
theorem NrZ.keep {w W W':World} {key:Int} {M:List Value} (h:NrZ w W key M) (B:Below W.heap.size W W'):NrZ w W' key M:=⟨h.below.trans (B.mono h.below.size),h.key.keep B,cV h.dig B,h.res.keep B⟩
theorem sH {w:World} {key:Int} {M:List Value} {t1 t2 t3:TypeId}:NrZ w (((w.alloc (.cells #[.int .u64 (l0 key),.int .u64 (l1 key),.int .u64 (l2 key),.int .u64 (l3 key)] t1)).alloc (.cells M.toArray t2)).alloc (.cells #[.int .u64 0,.int .u64 0,.int .u64 0,.int .u64 0] t3)) key M:=by
 have BA:∀ (V:World) o,Below V.heap.size V (V.alloc o):=fun V o=>(Below.refl _ _).alloc (Nat.le_refl _) o
 refine ⟨?_,((ab.new _ _ _).keep (BA _ _)).keep (BA _ _),?_,ac.new (by simp)⟩
 ·exact (((Below.refl _ _).alloc (Nat.le_refl _) _).alloc (by simp) _).alloc (by simp;omega) _
 ·have:=dC (W:=w.alloc (.cells #[.int .u64 (l0 key),.int .u64 (l1 key),.int .u64 (l2 key),.int .u64 (l3 key)] t1)) (cs:=M) (t:=t2)
  rw [show (w.alloc (.cells #[.int .u64 (l0 key),.int .u64 (l1 key),.int .u64 (l2 key),.int .u64 (l3 key)] t1)).heap.size=w.heap.size+1 by simp] at this
  exact cV this (BA _ _)
theorem ac.zeroZ {W:World} {b:Nat} (h:ac W b):Var W b 0:=by
 have g:=h.1.all4
 exact ⟨⟨g.1,g.2.1,g.2.2.1,g.2.2.2⟩,h.2⟩
theorem rN {key:Int} {wh:Nat} {M:List Value} (hl:M.length=32) (hw:wh<64) (IN:Hid (∀ w,Rt 18 #[U4 key] w (.bool false))) (w:World) :
  Rt 19 #[U4 key,.agg M.toArray,.int .i64 (wh:Int)] w (.tuple #[.agg #[.int .u64 (l0 0),.int .u64 (l1 0),.int .u64 (l2 0),.int .u64 (l3 0)],.int .i64 60]):=by
 have HL:Hid (M.length=32):=hl
 clear hl
 have z0:l0 0=0∧l1 0=0∧l2 0=0∧l3 0=0:=by decide
 have w1:(wh:Int)<64:=by omega
 go_enter Tryz.func19,Tryz.ntmps19
 go_wp2_with fail
 refine aa (fun W=>NrZ w W key M) sH ?_
 rintro W HW
 with_reducible refine (IN.out _).mono ?_
 rintro e w2 ⟨rfl,hb⟩
 have H2:=HW.keep hb
 clear hb HW
 have gR0:=H2.res.1.all4
 have fR0:=H2.res.2.all4
 have B9:=H2.below
 clear H2
 go_wp2
 simp [bodyPost,results,Tryz.results19,go_sem,gR0,z0]
 repeat (first|with_reducible exact B9|with_reducible refine Below.setCell ?_ (by first|omega|(simp;omega)) _)
theorem uD {key d v f:Int} {wh:Nat} {M:List Value} (hl:M.length=32) (hw:wh<64) (IN:Hid (∀ w,Rt 18 #[U4 key] w (.bool true)))
  (ND:Hid (∀ w,Rt 65 #[.agg M.toArray] w (U4 d)))
  (hv:nzV (aT (stZ key d)) wh=v) (hf:nzE (aT (stZ key d)) wh=f) (w:World) :
  Rt 19 #[U4 key,.agg M.toArray,.int .i64 (wh:Int)] w (.tuple #[U4 v,.int .i64 f]):=by
 have il:(Tryz.prog.info? 26).map (·.size)=some M.length:=by rw [hl];kernel_rfl
 have w1:(wh:Int)<64:=by omega
 have z0:l0 0=0∧l1 0=0∧l2 0=0∧l3 0=0:=by decide
 obtain ⟨C,eC⟩:∃ C,C=aT (stZ key d):=⟨_,rfl⟩
 have HC:Hid (C=aT (stZ key d)∧(∀ i,Num (C i))∧M.length=32∧wh<64∧nzV C wh=v∧nzE C wh=f):=⟨eC,by rw [eC];exact mv _,hl,hw,by rw [eC];exact hv,by rw [eC];exact hf⟩
 have CD:Hid (∀ (n:Nat) (W:World),n≤256→Calls Tryz.prog 35 #[U4 key,.agg M.toArray,.int .i64 (n:Int)] W fun e w'=>∃ v,e = .returned v∧ik W.heap.size w' v ((List.range n).map C)∧Below W.heap.size W w'):=fun n W hn=>by rw [eC];exact uC hl hn ND W
 clear eC hl hw hv hf ND
 go_enter Tryz.func19,Tryz.ntmps19
 go_wp2_with fail
 refine aa (fun W=>NrZ w W key M) sH ?_
 rintro W HW
 with_reducible refine (IN.out _).mono ?_
 rintro e w2 ⟨rfl,hb⟩
 have H2:=HW.keep hb
 clear hb HW IN
 clear W
 have gk:=H2.key.cells
 have rg:=H2.dig
 go_wp2_with (refine wpList_load_mid rfl 26 _ rfl (w.heap.size+1) 0 rfl M _ rg Tryz.underlying26 rfl il ?_)
 have c1:=CD.out (wh+1) w2 (by have:=HC.out;omega)
 rw [show ((wh+1:Nat):Int)=(wh:Int)+1 by omega] at c1
 refine c1.mono ?_
 clear c1
 rintro e w3 ⟨lv,rfl,ho,hb⟩
 have H3:=H2.keep hb
 clear hb H2 gk rg
 obtain ⟨a,g,c,elv,ha,hN,hge⟩:=ho.lies
 rw [List.length_map,List.length_range] at elv
 subst elv
 clear ho hge
 clear w2
 go_wp2_with fail
 refine (qu HC.out.2.1 HC.out.2.2.2.1 (by have:=HC.out;omega) ha w3 hN).mono ?_
 rintro e w4 ⟨rfl,hb⟩
 have H4:=H3.keep hb
 clear hb H3 ha hN
 clear w3
 cases hp:pkZ C wh (wh+1) with
 | some x =>
  obtain ⟨e1,e2⟩:=oV hp (by have:=HC.out;omega)
  rw [show (some x:Option Int).getD 0=x from rfl,show (some x:Option Int).isSome=true from rfl]
  have EV:Hid (v=x∧f=0):=⟨by rw [←HC.out.2.2.2.2.1,e1],by rw [←HC.out.2.2.2.2.2,e2]⟩
  clear hp e1 e2
  have gR0:=fun o=>(H4.res.alloc o).1.all4
  have fR0:=fun o=>(H4.res.alloc o).2.all4
  have gR1:=H4.res.1.all4
  have fR1:=H4.res.2.all4
  have B9:=H4.below
  have ls:=H4.res.1.lt (by simp)
  have nr:w4.heap.size≠w.heap.size+1+1:=by omega
  have nr':=nr.symm
  have gr:w.heap.size≤w.heap.size+1+1:=by omega
  clear H4 il
  generalize w.heap.size+1+1=br at *
  go_wp2
  have ev1:=EV.out.1
  have ev2:=EV.out.2
  simp [bodyPost,results,Tryz.results19,go_sem, *]
  repeat (first|with_reducible exact B9|with_reducible refine Below.alloc ?_ (by first|exact B9.size|(simp;exact B9.size)) _|with_reducible refine Below.setCell ?_ (by first|omega|(simp;omega)) _)
 | none =>
  rw [show (none:Option Int).getD 0=0 from rfl,show (none:Option Int).isSome=false from rfl]
  have gk:=fun o=>(H4.keep ((Below.refl _ _).alloc (Nat.le_refl _) o)).key.cells
  have rg:=fun o=>(H4.keep ((Below.refl _ _).alloc (Nat.le_refl _) o)).dig
  go_wp2_with (refine wpList_load_mid rfl 26 _ rfl (w.heap.size+1) 0 rfl M _ (rg _) Tryz.underlying26 rfl il ?_)
  refine aa (fun W=>NrZ w W key M∧Var W w4.heap.size 0∧w.heap.size+1+1<w4.heap.size) ⟨H4.keep ((Below.refl _ _).alloc (Nat.le_refl _) _),ac.zeroZ (ac.new rfl),H4.res.1.lt (by simp)⟩ ?_
  rintro W5 ⟨H5,hV,hlt⟩
  clear gk rg H4
  generalize w4.heap.size=b10 at *
  clear w4
  refine (CD.out 256 W5 (Nat.le_refl _)).mono ?_
  rintro e w6 ⟨lv,rfl,ho,hb⟩
  have H6:=H5.keep hb
  have hV6:=hV.keep hb
  clear hb H5 hV
  obtain ⟨a2,g2,c2,elv,ha,hN,hge⟩:=ho.lies
  rw [List.length_map,List.length_range] at elv
  subst elv
  clear ho hge
  clear W5
  go_wp2_with fail
  refine (qu HC.out.2.1 HC.out.2.2.2.1 (Nat.le_refl _) ha w6 hN).mono ?_
  rintro e w7 ⟨rfl,hb⟩
  have H7:=H6.keep hb
  have hV7:=hV6.keep hb
  clear hb H6 hV6 ha hN
  clear w6
  have nr:b10≠w.heap.size+1+1:=by omega
  have nr':=nr.symm
  have gr:w.heap.size≤w.heap.size+1+1:=by omega
  have gb:w.heap.size≤b10:=by omega
  have B9:=H7.below
  have gR1:=H7.res.1.all4
  have fR1:=H7.res.2.all4
  have gV:=hV7.1.cells
  have fV:=hV7.2.all4
  cases hq:pkZ C wh 256 with
  | some x =>
   obtain ⟨e1,e2⟩:=oV hq (Nat.le_refl _)
   rw [show (some x:Option Int).getD 0=x from rfl,show (some x:Option Int).isSome=true from rfl]
   have EV:Hid (v=x∧f=0):=⟨by rw [←HC.out.2.2.2.2.1,e1],by rw [←HC.out.2.2.2.2.2,e2]⟩
   clear hq e1 e2 H7 hV7 il
   generalize w.heap.size+1+1=br at *
   go_wp2
   simp [bodyPost,results,Tryz.results19,go_sem,gR1,EV.out.1,EV.out.2]
   repeat (first|with_reducible exact B9|with_reducible refine Below.setCell ?_ (by first|omega|(simp;omega)) _)
  | none =>
   obtain ⟨e1,e2⟩:=sE hq
   rw [show (none:Option Int).getD 0=0 from rfl,show (none:Option Int).isSome=false from rfl]
   have EV:Hid (v=0∧f=65):=⟨by rw [←HC.out.2.2.2.2.1,e1],by rw [←HC.out.2.2.2.2.2,e2]⟩
   clear hq e1 e2 H7 hV7 il
   generalize w.heap.size+1+1=br at *
   go_wp2
   simp [bodyPost,results,Tryz.results19,go_sem,gR1,EV.out.1,EV.out.2,z0]
   repeat (first|with_reducible exact B9|with_reducible refine Below.setCell ?_ (by first|omega|(simp;omega)) _)
open Go.RowKit Go.Sort
noncomputable def oX (key:Int) (A:List Int) (wh:Int):Int:=if wh<0∨64≤wh then 0 else if cM key then nzV (aT (stZ key (ag nN (aS A 32)))) wh.toNat else 0
noncomputable def mN (key:Int) (A:List Int) (wh:Int):Int:=if wh<0∨64≤wh then 1 else if cM key then nzE (aT (stZ key (ag nN (aS A 32)))) wh.toNat else 60
theorem uE {key wh:Int} {A:List Int} (hk:Num key) (hA:dR A) (hl:A.length=32) (w:World) (hm:Mds w) (ht:ShT w) :
  Rt 16 #[U4 key,aO A,.int .i64 wh] w (.tuple #[U4 (oX key A wh),.int .i64 (mN key A wh)]):=by
 unfold oX mN
 by_cases hb:wh<0∨64≤wh
 ·rw [if_pos hb,if_pos hb]
  exact ur hl hb w
 ·rw [if_neg hb,if_neg hb]
  obtain ⟨n,rfl⟩:=Int.eq_ofNat_of_zero_le (show 0≤wh by omega)
  have hn:n<64:=by omega
  have IN:=dE hk
  cases hf:cM key with
  | false =>
   rw [hf] at IN
   exact ut hl hn IN w hm ht
  | true =>
   rw [hf] at IN
   rw [if_pos rfl,if_pos rfl,show ((n:Int)).toNat=n from rfl]
   exact xq hl hn rfl IN (fun w hm=>j6 hA hl w hm) rfl rfl w hm ht
theorem rO {key wh:Int} {A:List Int} (hk:Num key) (hA:dR A) (hl:A.length=32) (w:World) :
  Rt 19 #[U4 key,aO A,.int .i64 wh] w (.tuple #[U4 (oX key A wh),.int .i64 (mN key A wh)]):=by
 unfold oX mN
 by_cases hb:wh<0∨64≤wh
 ·rw [if_pos hb,if_pos hb]
  exact rL hl hb w
 ·rw [if_neg hb,if_neg hb]
  obtain ⟨n,rfl⟩:=Int.eq_ofNat_of_zero_le (show 0≤wh by omega)
  have hn:n<64:=by omega
  have hM:(A.map fun z=>Value.int .u8 z).length=32:=by rw [List.length_map];exact hl
  have IN:=fj hk
  cases hf:cM key with
  | false =>
   rw [hf] at IN
   exact rN hM hn IN w
  | true =>
   rw [hf] at IN
   rw [if_pos rfl,if_pos rfl,show ((n:Int)).toNat=n from rfl]
   exact uD hM hn IN (fun w=>ju hA hl w) rfl rfl w
theorem zc {s:KvZ} {n:Nat}:Num (nzV (aT s) n):=by
 unfold nzV
 cases h:pkZ (aT s) n 256 with
 | none=>exact ⟨by decide,by decide⟩
 | some x=>exact sD (mv s) h
theorem qv (key:Int) (A:List Int) (wh:Int):Num (oX key A wh):=by
 unfold oX
 split
 ·exact ⟨by decide,by decide⟩
 ·split
  ·exact zc
  ·exact ⟨by decide,by decide⟩
open Go.RowKit Go.Sort
theorem n9 (key:Int) (A:List Int) (non:Int):∃ R:SwR,∃ X Y j,Vd X Y j∧bI X Y j=EC.smul non.toNat EC.gJ.pt∧R=swR key non A X Y:=by
 obtain ⟨X,Y,j,hv,ev⟩:=Ac (EC.smul_on EC.gJ_on non.toNat)
 exact ⟨_,X,Y,j,hv,ev,rfl⟩
noncomputable def swZ (key:Int) (A:List Int) (non:Int):SwR:=Classical.choose (n9 key A non)
theorem rP (key:Int) (A:List Int) (non:Int):∃ X Y j,Vd X Y j∧bI X Y j=EC.smul non.toNat EC.gJ.pt∧swZ key A non=swR key non A X Y:=Classical.choose_spec (n9 key A non)
theorem Av {key non:Int} {A:List Int} (hk:Num key) (hn:Num non) (hA:dR A) (hl:A.length=32) (w:World) (hm:Mds w) (hc:aM w) :
  Rt 17 #[U4 key,U4 non,aO A] w (.tuple #[.agg #[.int .u64 (l0 (swZ key A non).r),.int .u64 (l1 (swZ key A non).r),.int .u64 (l2 (swZ key A non).r),.int .u64 (l3 (swZ key A non).r),.int .u64 (l0 (swZ key A non).s),.int .u64 (l1 (swZ key A non).s),.int .u64 (l2 (swZ key A non).s),.int .u64 (l3 (swZ key A non).s),.bool (swZ key A non).o],.int .i64 (swZ key A non).e]):=by
 obtain ⟨X,Y,j,hv,ev,e⟩:=rP key A non
 rw [e]
 exact yG hk hn hA hl hv ev w hm hc
theorem zd {key non:Int} {A:List Int} (hk:Num key) (hn:Num non) (hA:dR A) (hl:A.length=32) (w:World) :
  Rt 20 #[U4 key,U4 non,aO A] w (.tuple #[.agg #[.int .u64 (l0 (swZ key A non).r),.int .u64 (l1 (swZ key A non).r),.int .u64 (l2 (swZ key A non).r),.int .u64 (l3 (swZ key A non).r),.int .u64 (l0 (swZ key A non).s),.int .u64 (l1 (swZ key A non).s),.int .u64 (l2 (swZ key A non).s),.int .u64 (l3 (swZ key A non).s),.bool (swZ key A non).o],.int .i64 (swZ key A non).e]):=by
 obtain ⟨X,Y,j,hv,ev,e⟩:=rP key A non
 rw [e]
 exact wR hk hn hA hl hv ev w
theorem fN:Num 0:=⟨by decide,by decide⟩
theorem ze (key:Int) (A:List Int) (non:Int):Num (swZ key A non).r∧Num (swZ key A non).s:=by
 obtain ⟨X,Y,j,hv,ev,e⟩:=rP key A non
 rw [e]
 have nX:=hv.low.1.num
 have nS:Num (swS key non (dgN A) X):=ae dY _
 unfold swR
 split
 ·exact ⟨fN,fN⟩
 ·split
  ·exact ⟨fN,fN⟩
  ·split
   ·exact ⟨fN,fN⟩
   ·split
    ·exact ⟨nX,nS⟩
    ·exact ⟨nX,ae dY _⟩
noncomputable def sgZ (key:Int) (A:List Int) (i:Nat):SwR:=if mN key A i=0 then swZ key A (oX key A i) else ⟨0,0,false,mN key A i⟩
theorem zf (key:Int) (A:List Int) (i:Nat):Num (sgZ key A i).r∧Num (sgZ key A i).s:=by
 unfold sgZ
 split
 ·exact ze _ _ _
 ·exact ⟨fN,fN⟩
noncomputable def fsZ (R:Nat→SwR):Nat→Option SwR
 | 0=>none
 | n+1=>(fsZ R n).or (if (R n).e=0 then some (R n) else none)
theorem qx {R:Nat→SwR} {n:Nat} {x:SwR} (h:fsZ R n=some x):∀ d,fsZ R (n+d)=some x
 | 0=>h
 | d+1=>by rw [←Nat.add_assoc,fsZ,qx h d];rfl
theorem qy {R:Nat→SwR} {n:Nat} (h:fsZ R n=none) (e:(R n).e=0):fsZ R (n+1)=some (R n):=by rw [fsZ,h,if_pos e];rfl
theorem sI {R:Nat→SwR} {n:Nat} (h:fsZ R n=none) (e:(R n).e≠0):fsZ R (n+1)=none:=by rw [fsZ,h,if_neg e];rfl
noncomputable def fQ (R:Nat→SwR):SwR:=(fsZ R 64).getD ⟨0,0,false,65⟩
theorem oa {R:Nat→SwR} {n:Nat} {x:SwR} (h:fsZ R n=some x) (hn:n≤64):fQ R=x:=by
 have:=qx h (64-n)
 rw [show n+(64-n)=64 by omega] at this
 rw [fQ,this];rfl
theorem oe {R:Nat→SwR} (h:fsZ R 64=none):fQ R=⟨0,0,false,65⟩:=by rw [fQ,h];rfl
theorem xA {key v f r s e0:Int} {o:Bool} {i bk bd:Nat} {M:List Value} (hl:M.length=32)
  (CN:Hid (∀ w,Mds w→ShT w→Rt 16 #[U4 key,.agg M.toArray,.int .i64 (i:Int)] w (.tuple #[U4 v,.int .i64 f])))
  (CS:Hid (f=0→∀ w,Mds w→aM w→Rt 17 #[U4 key,U4 v,.agg M.toArray] w (.tuple #[P9 r s o,.int .i64 e0])))
  (h0:Hid (f≠0→r=0∧s=0∧o=false∧e0=f)) (w:World) (hm:Mds w) (ht:ShT w) (hc:aM w) (hk:ab w bk key) (hd:w.rangeAt bd 0 M) :
  Rt 15 #[.int .i64 (i:Int),.pointer (some ⟨bk,0,none⟩),.pointer (some ⟨bd,0,none⟩)] w (.tuple #[P9 r s o,.int .i64 e0]):=by
 have il:(Tryz.prog.info? 26).map (·.size)=some M.length:=by rw [hl];kernel_rfl
 have BA:Hid (∀ (V:World) o,Below V.heap.size V (V.alloc o)):=fun V o=>(Below.refl _ _).alloc (Nat.le_refl _) o
 have H0:Hid (Mds w∧ShT w∧aM w∧ab w bk key∧w.rangeAt bd 0 M∧bk<w.heap.size):=⟨hm,ht,hc,hk,hd,World.block_lt_of_cell? w _ hk.1⟩
 have gk:=fun o=>(hk.keep (BA.out w o)).cells
 have rg:=fun o=>cV hd (BA.out w o)
 clear hm ht hc hk hd hl
 go_enter Tryz.func15,Tryz.ntmps15
 go_wp2_with (refine wpList_load_mid rfl 26 _ rfl bd 0 rfl M _ (rg _) Tryz.underlying26 rfl il ?_)
 refine aa (fun W=>Below w.heap.size w W∧Bk9 W w.heap.size) ⟨BA.out _ _,Bk9.new rfl⟩ ?_
 rintro W ⟨B,hR⟩
 refine (CN.out W (H0.out.1.keep B) (H0.out.2.1.keep B)).mono ?_
 rintro e w2 ⟨rfl,hb⟩
 replace B:=B.trans (hb.mono B.size)
 replace hR:=hR.keep hb
 clear hb gk rg
 clear W
 have lr:=hR.lt
 have o3:w.heap.size≤w.heap.size:=Nat.le_refl _
 by_cases hf:f=0
 ·subst hf
  have CS':Hid (∀ w,Mds w→aM w→Rt 17 #[U4 key,U4 v,.agg M.toArray] w (.tuple #[P9 r s o,.int .i64 e0])):=CS.out rfl
  have gk:=fun o=>((H0.out.2.2.2.1.keep B).keep (BA.out _ o)).cells
  have gk0:=(H0.out.2.2.2.1.keep B).cells
  have rg:=fun o=>cV (cV H0.out.2.2.2.2.1 B) (BA.out _ o)
  have nbk:bk≠w2.heap.size:=by have:=H0.out.2.2.2.2.2;have:=B.size;omega
  have H2:Hid (Below w.heap.size w w2∧Bk9 w2 w.heap.size):=⟨B,hR⟩
  clear B hR CS h0 CN
  go_wp2_with (refine wpList_load_mid rfl 26 _ rfl bd 0 rfl M _ (rg _) Tryz.underlying26 rfl il ?_)
  refine aa (fun W=>Below w2.heap.size w2 W) (BA.out _ _) ?_
  rintro W B2
  have B3:=H2.out.1.trans (B2.mono H2.out.1.size)
  refine (CS'.out W (H0.out.1.keep B3) (H0.out.2.2.1.keep B3)).mono ?_
  rintro e w4 ⟨rfl,hb⟩
  have B4:=B3.trans (hb.mono B3.size)
  have hR4:=(H2.out.2.keep B2).keep hb
  have gR:=hR4.cells
  have fR:=hR4.free
  clear hb B3 B2 hR4 gk gk0 rg nbk CS' H2 il H0
  clear W
  go_wp2
  simp [bodyPost,results,Tryz.results15,go_sem,gR]
  repeat (first|with_reducible exact B4|with_reducible refine Below.setCell ?_ o3 _)
 ·obtain ⟨rfl,rfl,rfl,rfl⟩:=h0.out hf
  obtain ⟨z0,z1,z2,z3⟩:=aq
  have hf1:(e0==0)=false:=by simpa using hf
  have hf2:(e0 != 0)=true:=by simpa using hf
  have gR:=fun o=>(hR.alloc o).cells
  have fR:=fun o=>(hR.alloc o).free
  have gR1:=hR.cells
  have fR1:=hR.free
  have nr:w2.heap.size≠w.heap.size:=by omega
  have nr':=nr.symm
  clear hR CS CN il H0 BA
  go_wp2
  simp [bodyPost,results,Tryz.results15,go_sem, *]
  repeat (first|with_reducible exact B|with_reducible refine Below.alloc ?_ (by first|exact B.size|(simp;exact B.size)) _|with_reducible refine Below.setCell ?_ o3 _)
open Go.RowKit Go.Sort
theorem uF {R:Nat→SwR} {bk bd:Nat} {x:SwR} (hx:fQ R=x) (w:World)
  (CL:Hid (∀ (i:Nat) (W:World),Below w.heap.size w W→Calls Tryz.prog 15 #[.int .i64 (i:Int),.pointer (some ⟨bk,0,none⟩),.pointer (some ⟨bd,0,none⟩)] W fun e w'=>e = .returned (.tuple #[.agg #[.int .u64 (l0 (R i).r),.int .u64 (l1 (R i).r),.int .u64 (l2 (R i).r),.int .u64 (l3 (R i).r),.int .u64 (l0 (R i).s),.int .u64 (l1 (R i).s),.int .u64 (l2 (R i).s),.int .u64 (l3 (R i).s),.bool (R i).o],.int .i64 (R i).e])∧Below W.heap.size W w')) :
  Calls Tryz.prog 14 #[.func (.func 15) #[] #[.pointer (some ⟨bk,0,none⟩),.pointer (some ⟨bd,0,none⟩)]] w fun e w'=>e = .returned (.tuple #[.agg #[.int .u64 (l0 x.r),.int .u64 (l1 x.r),.int .u64 (l2 x.r),.int .u64 (l3 x.r),.int .u64 (l0 x.s),.int .u64 (l1 x.s),.int .u64 (l2 x.s),.int .u64 (l3 x.s),.bool x.o],.int .i64 x.e])∧Below w.heap.size w w':=by
 have HX:Hid (fQ R=x):=hx
 have o3:w.heap.size≤w.heap.size:=Nat.le_refl _
 clear hx
 obtain ⟨z0,z1,z2,z3⟩:=aq
 go_enter Tryz.func14,Tryz.ntmps14
 go_wp2_with fail
 refine af (fun W=>Below w.heap.size w W∧Bk9 W w.heap.size) ⟨(Below.refl _ _).alloc (Nat.le_refl _) _,Bk9.new rfl⟩ ?_
 rintro W0 HW
 go_loopg [7] 64 (fun k iv wr=>∃ i:Nat,k=64-i∧i≤64∧iv = .int .i64 (i:Int)∧fsZ R i=none∧Below w.heap.size w wr∧Bk9 wr w.heap.size)
 case atStart=>exact ⟨0,rfl,Nat.zero_le _,rfl,rfl,HW.1,HW.2⟩
 case round =>
  clear HW
  obtain ⟨i,hk,hi,rfl,hp,hB,hR⟩:=hrel
  have HK:Hid (gk=64-i):=hk
  have HP:Hid (fsZ R i=none∧Below w.heap.size w wr∧Bk9 wr w.heap.size):=⟨hp,hB,hR⟩
  clear hk hp hB hR
  by_cases h8:i=64
  ·subst h8
   have gR:=HP.out.2.2.cells
   have fR:=HP.out.2.2.free
   have ex:x=⟨0,0,false,65⟩:=by rw [←HX.out];exact oe HP.out.1
   subst ex
   have B4:=HP.out.2.1
   go_wp2
   simp [bodyPost,results,Tryz.results14,go_sem,gR]
   repeat (first|with_reducible exact B4|with_reducible refine Below.setCell ?_ o3 _)
  ·have hi':(i:Int)<64:=by omega
   have C1:=CL.out i
   have H1:Hid (∀ y,y=R i→y.e=0→fQ R=y):=fun y e h=>by rw [e] at h ⊢; exact oa (qy HP.out.1 h) (by omega)
   have H2:Hid ((R i).e≠0→fsZ R (i+1)=none):=fun h=>sI HP.out.1 h
   obtain ⟨y,ey⟩:∃ y,y=R i:=⟨_,rfl⟩
   rw [←ey] at C1 H2
   replace H1:Hid (y.e=0→fQ R=y):=H1.out y ey
   clear ey
   go_wp2_with fail
   refine (C1 wr HP.out.2.1).mono ?_
   rintro e w2 ⟨rfl,hb⟩
   have B:=HP.out.2.1.trans (hb.mono HP.out.2.1.size)
   have hR:=HP.out.2.2.keep hb
   clear hb C1
   have lr:=hR.lt
   by_cases he:y.e=0
   ·have ex:x=y:=by rw [←HX.out];exact H1.out he
    subst ex
    have gR:=fun o=>(hR.alloc o).cells
    have fR:=fun o=>(hR.alloc o).free
    have gR1:=hR.cells
    have fR1:=hR.free
    have nr:w2.heap.size≠w.heap.size:=by omega
    have nr':=nr.symm
    clear hR HP H1 H2 HX
    go_wp2
    simp [bodyPost,results,Tryz.results14,go_sem, *]
    repeat (first|with_reducible exact B|with_reducible refine Below.alloc ?_ (by first|exact B.size|(simp;exact B.size)) _|with_reducible refine Below.setCell ?_ o3 _)
   ·have H3:Hid (fsZ R (i+1)=none):=H2.out he
    have he1:(y.e==0)=false:=by simpa using he
    have HF:Hid (Below w.heap.size w w2∧Bk9 w2 w.heap.size):=⟨B,hR⟩
    clear B hR H1 H2
    generalize y.e=f at *
    go_wp2
    go_roundg (64-(i+1))
    case measure=>have:=HK.out;omega
    case rel=>exact ⟨i+1,rfl,by omega,by go_num,H3.out,HF.out.1.alloc HF.out.1.size _,HF.out.2.alloc _⟩
structure SnZ (w W:World) (key:Int) (M:List Value):Prop where
 below:Below w.heap.size w W
 mds:Mds W
 tab:ShT W
 col:aM W
 key:ab W w.heap.size key
 dig:W.rangeAt (w.heap.size+1) 0 M
 res:Bk9 W (w.heap.size+1+1)
theorem SnZ.keep {w W W':World} {key:Int} {M:List Value} (h:SnZ w W key M) (B:Below W.heap.size W W'):SnZ w W' key M:=⟨h.below.trans (B.mono h.below.size),h.mds.keep B,h.tab.keep B,h.col.keep B,h.key.keep B,cV h.dig B,h.res.keep B⟩
theorem sJ {w:World} {key:Int} {M:List Value} {t1 t2 t3:TypeId} (hm:Mds w) (ht:ShT w) (hc:aM w):SnZ w (((w.alloc (.cells #[.int .u64 (l0 key),.int .u64 (l1 key),.int .u64 (l2 key),.int .u64 (l3 key)] t1)).alloc (.cells M.toArray t2)).alloc (.cells #[.int .u64 0,.int .u64 0,.int .u64 0,.int .u64 0,.int .u64 0,.int .u64 0,.int .u64 0,.int .u64 0,.bool false] t3)) key M:=by
 have BA:∀ (V:World) o,Below V.heap.size V (V.alloc o):=fun V o=>(Below.refl _ _).alloc (Nat.le_refl _) o
 refine ⟨?_,((hm.alloc _).alloc _).alloc _,((ht.keep (BA _ _)).keep (BA _ _)).keep (BA _ _),((hc.keep (BA _ _)).keep (BA _ _)).keep (BA _ _),((ab.new _ _ _).keep (BA _ _)).keep (BA _ _),?_,Bk9.new (by simp)⟩
 ·exact (((Below.refl _ _).alloc (Nat.le_refl _) _).alloc (by simp) _).alloc (by simp;omega) _
 ·have:=dC (W:=w.alloc (.cells #[.int .u64 (l0 key),.int .u64 (l1 key),.int .u64 (l2 key),.int .u64 (l3 key)] t1)) (cs:=M) (t:=t2)
  rw [show (w.alloc (.cells #[.int .u64 (l0 key),.int .u64 (l1 key),.int .u64 (l2 key),.int .u64 (l3 key)] t1)).heap.size=w.heap.size+1 by simp] at this
  exact cV this (BA _ _)
theorem xB {key:Int} {M:List Value} (hl:M.length=32) (IN:Hid (∀ w,Mds w→Calls Tryz.prog 13 #[.agg #[.int .u64 (l0 key),.int .u64 (l1 key),.int .u64 (l2 key),.int .u64 (l3 key)]] w fun e w'=>e = .returned (.bool false)∧Below w.heap.size w w')) (w:World) (hm:Mds w) (ht:ShT w) (hc:aM w) :
  Calls Tryz.prog 5 #[.agg #[.int .u64 (l0 key),.int .u64 (l1 key),.int .u64 (l2 key),.int .u64 (l3 key)],.agg M.toArray] w fun e w'=>e = .returned (.tuple #[.agg #[.int .u64 (l0 0),.int .u64 (l1 0),.int .u64 (l2 0),.int .u64 (l3 0),.int .u64 (l0 0),.int .u64 (l1 0),.int .u64 (l2 0),.int .u64 (l3 0),.bool false],.int .i64 60])∧Below w.heap.size w w':=by
 have HL:Hid (M.length=32):=hl
 clear hl
 obtain ⟨z0,z1,z2,z3⟩:=aq
 go_enter Tryz.func5,Tryz.ntmps5
 go_wp2_with fail
 refine aa (fun W=>SnZ w W key M) (sJ hm ht hc) ?_
 clear hm ht hc
 rintro W HW
 with_reducible refine (IN.out _ HW.mds).mono ?_
 rintro e w2 ⟨rfl,hb⟩
 have H2:=HW.keep hb
 clear hb HW
 have gR:=H2.res.cells
 have fR:=H2.res.free
 have B9:=H2.below
 have o3:w.heap.size≤w.heap.size+1+1:=by omega
 clear H2
 generalize w.heap.size+1+1=br at *
 go_wp2
 simp [bodyPost,results,Tryz.results5,go_sem, *]
 repeat (first|with_reducible exact B9|with_reducible refine Below.setCell ?_ o3 _)
theorem zg {R:Nat→SwR} {x:SwR} {key:Int} {M:List Value} (hl:M.length=32) (hx:fQ R=x) (IN:Hid (∀ w,Mds w→Calls Tryz.prog 13 #[.agg #[.int .u64 (l0 key),.int .u64 (l1 key),.int .u64 (l2 key),.int .u64 (l3 key)]] w fun e w'=>e = .returned (.bool true)∧Below w.heap.size w w'))
  (CL:Hid (∀ (i bk bd:Nat) (W:World),Mds W→ShT W→aM W→ab W bk key→W.rangeAt bd 0 M→Calls Tryz.prog 15 #[.int .i64 (i:Int),.pointer (some ⟨bk,0,none⟩),.pointer (some ⟨bd,0,none⟩)] W fun e w'=>e = .returned (.tuple #[.agg #[.int .u64 (l0 (R i).r),.int .u64 (l1 (R i).r),.int .u64 (l2 (R i).r),.int .u64 (l3 (R i).r),.int .u64 (l0 (R i).s),.int .u64 (l1 (R i).s),.int .u64 (l2 (R i).s),.int .u64 (l3 (R i).s),.bool (R i).o],.int .i64 (R i).e])∧Below W.heap.size W w'))
  (w:World) (hm:Mds w) (ht:ShT w) (hc:aM w) :
  Calls Tryz.prog 5 #[.agg #[.int .u64 (l0 key),.int .u64 (l1 key),.int .u64 (l2 key),.int .u64 (l3 key)],.agg M.toArray] w fun e w'=>e = .returned (.tuple #[.agg #[.int .u64 (l0 x.r),.int .u64 (l1 x.r),.int .u64 (l2 x.r),.int .u64 (l3 x.r),.int .u64 (l0 x.s),.int .u64 (l1 x.s),.int .u64 (l2 x.s),.int .u64 (l3 x.s),.bool x.o],.int .i64 x.e])∧Below w.heap.size w w':=by
 have HL:Hid (M.length=32∧fQ R=x):=⟨hl,hx⟩
 clear hl hx
 go_enter Tryz.func5,Tryz.ntmps5
 go_wp2_with fail
 refine aa (fun W=>SnZ w W key M) (sJ hm ht hc) ?_
 clear hm ht hc
 rintro W HW
 with_reducible refine (IN.out _ HW.mds).mono ?_
 rintro e w2 ⟨rfl,hb⟩
 have H2:=HW.keep hb
 clear hb HW IN
 clear W
 go_wp2_with fail
 refine (uF HL.out.2 w2 (fun i W b=>CL.out i _ _ W (H2.mds.keep b) (H2.tab.keep b) (H2.col.keep b) (H2.key.keep b) (cV H2.dig b))).mono ?_
 rintro e w3 ⟨rfl,hb⟩
 have H3:=H2.keep hb
 have gR:=H3.res.cells
 have fR:=H3.res.free
 have B9:=H3.below
 have o3:w.heap.size≤w.heap.size+1+1:=by omega
 clear H3 H2 hb CL
 clear w2
 generalize w.heap.size+1+1=br at *
 go_wp2
 simp [bodyPost,results,Tryz.results5,go_sem,gR]
 repeat (first|with_reducible exact B9|with_reducible refine Below.setCell ?_ o3 _)
open Go.RowKit Go.Sort
structure SrZ (w W:World) (key:Int) (M:List Value):Prop where
 below:Below w.heap.size w W
 key:ab W w.heap.size key
 dig:W.rangeAt (w.heap.size+1) 0 M
 res:Bk9 W (w.heap.size+1+1)
theorem SrZ.keep {w W W':World} {key:Int} {M:List Value} (h:SrZ w W key M) (B:Below W.heap.size W W'):SrZ w W' key M:=⟨h.below.trans (B.mono h.below.size),h.key.keep B,cV h.dig B,h.res.keep B⟩
theorem sK {w:World} {key:Int} {M:List Value} {t1 t2 t3:TypeId}:SrZ w (((w.alloc (.cells #[.int .u64 (l0 key),.int .u64 (l1 key),.int .u64 (l2 key),.int .u64 (l3 key)] t1)).alloc (.cells M.toArray t2)).alloc (.cells #[.int .u64 0,.int .u64 0,.int .u64 0,.int .u64 0,.int .u64 0,.int .u64 0,.int .u64 0,.int .u64 0,.bool false] t3)) key M:=by
 have BA:∀ (V:World) o,Below V.heap.size V (V.alloc o):=fun V o=>(Below.refl _ _).alloc (Nat.le_refl _) o
 refine ⟨?_,((ab.new _ _ _).keep (BA _ _)).keep (BA _ _),?_,Bk9.new (by simp)⟩
 ·exact (((Below.refl _ _).alloc (Nat.le_refl _) _).alloc (by simp) _).alloc (by simp;omega) _
 ·have:=dC (W:=w.alloc (.cells #[.int .u64 (l0 key),.int .u64 (l1 key),.int .u64 (l2 key),.int .u64 (l3 key)] t1)) (cs:=M) (t:=t2)
  rw [show (w.alloc (.cells #[.int .u64 (l0 key),.int .u64 (l1 key),.int .u64 (l2 key),.int .u64 (l3 key)] t1)).heap.size=w.heap.size+1 by simp] at this
  exact cV this (BA _ _)
theorem uG {key:Int} {M:List Value} (hl:M.length=32) (IN:Hid (∀ w,Calls Tryz.prog 18 #[.agg #[.int .u64 (l0 key),.int .u64 (l1 key),.int .u64 (l2 key),.int .u64 (l3 key)]] w fun e w'=>e = .returned (.bool false)∧Below w.heap.size w w')) (w:World) :
  Calls Tryz.prog 6 #[.agg #[.int .u64 (l0 key),.int .u64 (l1 key),.int .u64 (l2 key),.int .u64 (l3 key)],.agg M.toArray] w fun e w'=>e = .returned (.tuple #[.agg #[.int .u64 (l0 0),.int .u64 (l1 0),.int .u64 (l2 0),.int .u64 (l3 0),.int .u64 (l0 0),.int .u64 (l1 0),.int .u64 (l2 0),.int .u64 (l3 0),.bool false],.int .i64 60])∧Below w.heap.size w w':=by
 have HL:Hid (M.length=32):=hl
 clear hl
 obtain ⟨z0,z1,z2,z3⟩:=aq
 go_enter Tryz.func6,Tryz.ntmps6
 go_wp2_with fail
 refine aa (fun W=>SrZ w W key M) sK ?_
 rintro W HW
 with_reducible refine (IN.out _).mono ?_
 rintro e w2 ⟨rfl,hb⟩
 have H2:=HW.keep hb
 clear hb HW
 have gR:=H2.res.cells
 have fR:=H2.res.free
 have B9:=H2.below
 have o3:w.heap.size≤w.heap.size+1+1:=by omega
 clear H2
 generalize w.heap.size+1+1=br at *
 go_wp2
 simp [bodyPost,results,Tryz.results6,go_sem, *]
 repeat (first|with_reducible exact B9|with_reducible refine Below.setCell ?_ o3 _)
theorem xC {R:Nat→SwR} {nv nf:Nat→Int} {x:SwR} {key:Int} {M:List Value} (hl:M.length=32) (hx:fQ R=x) (IN:Hid (∀ w,Calls Tryz.prog 18 #[.agg #[.int .u64 (l0 key),.int .u64 (l1 key),.int .u64 (l2 key),.int .u64 (l3 key)]] w fun e w'=>e = .returned (.bool true)∧Below w.heap.size w w'))
  (RN:Hid (∀ (i:Nat) W,Calls Tryz.prog 19 #[.agg #[.int .u64 (l0 key),.int .u64 (l1 key),.int .u64 (l2 key),.int .u64 (l3 key)],.agg M.toArray,.int .i64 (i:Int)] W fun e w'=>e = .returned (.tuple #[.agg #[.int .u64 (l0 (nv i)),.int .u64 (l1 (nv i)),.int .u64 (l2 (nv i)),.int .u64 (l3 (nv i))],.int .i64 (nf i)])∧Below W.heap.size W w'))
  (RS:Hid (∀ (i:Nat),nf i=0→∀ W,Calls Tryz.prog 20 #[.agg #[.int .u64 (l0 key),.int .u64 (l1 key),.int .u64 (l2 key),.int .u64 (l3 key)],.agg #[.int .u64 (l0 (nv i)),.int .u64 (l1 (nv i)),.int .u64 (l2 (nv i)),.int .u64 (l3 (nv i))],.agg M.toArray] W fun e w'=>e = .returned (.tuple #[.agg #[.int .u64 (l0 (R i).r),.int .u64 (l1 (R i).r),.int .u64 (l2 (R i).r),.int .u64 (l3 (R i).r),.int .u64 (l0 (R i).s),.int .u64 (l1 (R i).s),.int .u64 (l2 (R i).s),.int .u64 (l3 (R i).s),.bool (R i).o],.int .i64 (R i).e])∧Below W.heap.size W w'))
  (RE:Hid (∀ i:Nat,nf i≠0→(R i).e≠0)) (w:World) :
  Calls Tryz.prog 6 #[.agg #[.int .u64 (l0 key),.int .u64 (l1 key),.int .u64 (l2 key),.int .u64 (l3 key)],.agg M.toArray] w fun e w'=>e = .returned (.tuple #[.agg #[.int .u64 (l0 x.r),.int .u64 (l1 x.r),.int .u64 (l2 x.r),.int .u64 (l3 x.r),.int .u64 (l0 x.s),.int .u64 (l1 x.s),.int .u64 (l2 x.s),.int .u64 (l3 x.s),.bool x.o],.int .i64 x.e])∧Below w.heap.size w w':=by
 have il:(Tryz.prog.info? 26).map (·.size)=some M.length:=by rw [hl];kernel_rfl
 have HX:Hid (fQ R=x):=hx
 have BA:Hid (∀ (V:World) o,Below V.heap.size V (V.alloc o)):=fun V o=>(Below.refl _ _).alloc (Nat.le_refl _) o
 obtain ⟨z0,z1,z2,z3⟩:=aq
 have o3:w.heap.size≤w.heap.size+1+1:=by omega
 clear hl hx
 go_enter Tryz.func6,Tryz.ntmps6
 go_wp2_with fail
 refine aa (fun W=>SrZ w W key M) sK ?_
 rintro W HW
 with_reducible refine (IN.out _).mono ?_
 rintro e w2 ⟨rfl,hb⟩
 have H2:=HW.keep hb
 clear hb HW IN
 clear W
 go_wp2_with fail
 go_loopg [7] 64 (fun k iv wr=>∃ i:Nat,k=64-i∧i≤64∧iv = .int .i64 (i:Int)∧fsZ R i=none∧SrZ w wr key M)
 case atStart=>exact ⟨0,rfl,Nat.zero_le _,rfl,rfl,H2⟩
 case round =>
  clear H2
  obtain ⟨i,hk,hi,rfl,hp,hS⟩:=hrel
  have HK:Hid (gk=64-i):=hk
  have HP:Hid (fsZ R i=none∧SrZ w wr key M):=⟨hp,hS⟩
  clear hk hp hS
  by_cases h8:i=64
  ·subst h8
   have gR:=HP.out.2.res.cells
   have fR:=HP.out.2.res.free
   have ex:x=⟨0,0,false,65⟩:=by rw [←HX.out];exact oe HP.out.1
   subst ex
   have B4:=HP.out.2.below
   clear il
   generalize w.heap.size+1+1=br at *
   go_wp2
   simp [bodyPost,results,Tryz.results6,go_sem,gR]
   repeat (first|with_reducible exact B4|with_reducible refine Below.setCell ?_ o3 _)
  ·have hi':(i:Int)≤63:=by omega
   have C1:=RN.out i
   have C2:=RS.out i
   have H1:Hid (∀ y,y=R i→y.e=0→fQ R=y):=fun y e h=>by rw [e] at h ⊢; exact oa (qy HP.out.1 h) (by omega)
   have H2:Hid ((R i).e≠0→fsZ R (i+1)=none):=fun h=>sI HP.out.1 h
   have H4:Hid (nf i≠0→(R i).e≠0):=RE.out i
   obtain ⟨y,ey⟩:∃ y,y=R i:=⟨_,rfl⟩
   rw [←ey] at C2 H2 H4
   replace H1:Hid (y.e=0→fQ R=y):=H1.out y ey
   clear ey
   obtain ⟨v,ev⟩:∃ v,v=nv i:=⟨_,rfl⟩
   obtain ⟨f,ef⟩:∃ f,f=nf i:=⟨_,rfl⟩
   rw [←ev,←ef] at C1 C2
   rw [←ef] at H4
   clear ev ef
   have gk1:=HP.out.2.key.cells
   have rg:=HP.out.2.dig
   go_wp2_with (refine wpList_load_mid rfl 26 _ rfl (w.heap.size+1) 0 rfl M _ rg Tryz.underlying26 rfl il ?_)
   refine (C1 wr).mono ?_
   rintro e w3 ⟨rfl,hb⟩
   have S3:=HP.out.2.keep hb
   clear hb C1 gk1 rg
   by_cases hf:f=0
   ·subst hf
    have C3:Hid (∀ W,Calls Tryz.prog 20 #[.agg #[.int .u64 (l0 key),.int .u64 (l1 key),.int .u64 (l2 key),.int .u64 (l3 key)],.agg #[.int .u64 (l0 v),.int .u64 (l1 v),.int .u64 (l2 v),.int .u64 (l3 v)],.agg M.toArray] W fun e w'=>e = .returned (.tuple #[.agg #[.int .u64 (l0 y.r),.int .u64 (l1 y.r),.int .u64 (l2 y.r),.int .u64 (l3 y.r),.int .u64 (l0 y.s),.int .u64 (l1 y.s),.int .u64 (l2 y.s),.int .u64 (l3 y.s),.bool y.o],.int .i64 y.e])∧Below W.heap.size W w'):=C2 rfl
    have gk1:=fun o=>(S3.keep (BA.out _ o)).key.cells
    have gk0:=S3.key.cells
    have rg:=fun o=>(S3.keep (BA.out _ o)).dig
    have nbk:w.heap.size≠w3.heap.size:=by have:=World.block_lt_of_cell? w3 _ S3.key.1;simp only at this;omega
    have HS:Hid (SrZ w w3 key M):=S3
    clear S3 C2 H4
    go_wp2_with (refine wpList_load_mid rfl 26 _ rfl (w.heap.size+1) 0 rfl M _ (rg _) Tryz.underlying26 rfl il ?_)
    refine aa (fun W=>Below w3.heap.size w3 W) (BA.out _ _) ?_
    rintro W5 B5
    have S5:=HS.out.keep B5
    refine (C3.out W5).mono ?_
    rintro e w6 ⟨rfl,hb⟩
    have S6:=S5.keep hb
    clear hb S5 B5 C3 gk1 gk0 rg nbk HS
    clear W5
    have lr:=S6.res.lt
    by_cases he:y.e=0
    ·have ex:x=y:=by rw [←HX.out];exact H1.out he
     subst ex
     have gR:=fun o=>(S6.res.alloc o).cells
     have fR:=fun o=>(S6.res.alloc o).free
     have gR1:=S6.res.cells
     have fR1:=S6.res.free
     have B:=S6.below
     have nr:w6.heap.size≠w.heap.size+1+1:=by omega
     have nr':=nr.symm
     clear S6 HP H1 H2 HX il BA RN RS RE
     generalize w.heap.size+1+1=br at *
     go_wp2
     simp [bodyPost,results,Tryz.results6,go_sem, *]
     repeat (first|with_reducible exact B|with_reducible refine Below.alloc ?_ (by first|exact B.size|(simp;exact B.size)) _|with_reducible refine Below.setCell ?_ o3 _)
    ·have H3:Hid (fsZ R (i+1)=none):=H2.out he
     have he1:(y.e==0)=false:=by simpa using he
     have HF:Hid (SrZ w w6 key M):=S6
     clear S6 H1 H2
     generalize y.e=f at *
     go_wp2
     go_roundg (64-(i+1))
     case measure=>have:=HK.out;omega
     case rel=>exact ⟨i+1,rfl,by omega,by go_num,H3.out,HF.out.keep (BA.out _ _)⟩
   ·have H3:Hid (fsZ R (i+1)=none):=H2.out (H4.out hf)
    have he1:(f==0)=false:=by simpa using hf
    have HF:Hid (SrZ w w3 key M):=S3
    clear S3 H1 H2 C2 H4
    go_wp2
    go_roundg (64-(i+1))
    case measure=>have:=HK.out;omega
    case rel=>exact ⟨i+1,rfl,by omega,by go_num,H3.out,HF.out.keep (BA.out _ _)⟩
open Go.RowKit Go.Sort
noncomputable def bK (key:Int) (A:List Int):SwR:=if cM key then fQ (sgZ key A) else ⟨0,0,false,60⟩
theorem sL {key:Int} {A:List Int} {i:Nat} (h:mN key A i≠0):sgZ key A i=⟨0,0,false,mN key A i⟩:=by unfold sgZ;rw [if_neg h]
theorem xD {key:Int} {A:List Int} {i:Nat} (h:mN key A i=0):sgZ key A i=swZ key A (oX key A i):=by unfold sgZ;rw [if_pos h]
theorem xE {key:Int} {A:List Int} (hk:Num key) (hA:dR A) (hl:A.length=32) (w:World) (hm:Mds w) (ht:ShT w) (hc:aM w) :
  Rt 5 #[U4 key,aO A] w (.tuple #[.agg #[.int .u64 (l0 (bK key A).r),.int .u64 (l1 (bK key A).r),.int .u64 (l2 (bK key A).r),.int .u64 (l3 (bK key A).r),.int .u64 (l0 (bK key A).s),.int .u64 (l1 (bK key A).s),.int .u64 (l2 (bK key A).s),.int .u64 (l3 (bK key A).s),.bool (bK key A).o],.int .i64 (bK key A).e]):=by
 have hM:(A.map fun z=>Value.int .u8 z).length=32:=by rw [List.length_map];exact hl
 have IN:=dE hk
 cases hf:cM key with
 | false =>
  rw [hf] at IN
  rw [show bK key A=⟨0,0,false,60⟩ by unfold bK;rw [hf];rfl]
  exact xB hM IN w hm ht hc
 | true =>
  rw [hf] at IN
  rw [show bK key A=fQ (sgZ key A) by unfold bK;rw [hf];rfl]
  refine zg hM rfl IN (fun i bk bd W hm ht hc hk' hd=>?_) w hm ht hc
  exact xA hM (fun w hm ht=>uE hk hA hl w hm ht) (fun h w hm hc=>by rw [xD h];exact Av hk (qv _ _ _) hA hl w hm hc) (fun h=>by rw [sL h];exact ⟨rfl,rfl,rfl,rfl⟩) W hm ht hc hk' hd
theorem uH {key:Int} {A:List Int} (hk:Num key) (hA:dR A) (hl:A.length=32) (w:World) :
  Rt 6 #[U4 key,aO A] w (.tuple #[.agg #[.int .u64 (l0 (bK key A).r),.int .u64 (l1 (bK key A).r),.int .u64 (l2 (bK key A).r),.int .u64 (l3 (bK key A).r),.int .u64 (l0 (bK key A).s),.int .u64 (l1 (bK key A).s),.int .u64 (l2 (bK key A).s),.int .u64 (l3 (bK key A).s),.bool (bK key A).o],.int .i64 (bK key A).e]):=by
 have hM:(A.map fun z=>Value.int .u8 z).length=32:=by rw [List.length_map];exact hl
 have IN:=fj hk
 cases hf:cM key with
 | false =>
  rw [hf] at IN
  rw [show bK key A=⟨0,0,false,60⟩ by unfold bK;rw [hf];rfl]
  exact uG hM IN w
 | true =>
  rw [hf] at IN
  rw [show bK key A=fQ (sgZ key A) by unfold bK;rw [hf];rfl]
  exact xC (nv:=fun i=>oX key A i) (nf:=fun i=>mN key A i) hM rfl IN (fun i W=>rO hk hA hl W) (fun i h W=>by rw [xD h];exact zd hk (qv _ _ _) hA hl W) (fun i h=>by rw [sL h];exact h) w
theorem sM {R:Nat→SwR} (hR:∀ i,Num (R i).r∧Num (R i).s) {x:SwR}:∀ {n:Nat},fsZ R n=some x→Num x.r∧Num x.s
 | 0,h=>by simp [fsZ] at h
 | n+1,h=>by
  rw [fsZ] at h
  cases e:fsZ R n with
  | some y=>rw [e] at h;exact sM hR (n:=n) (by rw [e];exact h)
  | none =>
   rw [e] at h
   by_cases k:(R n).e=0
   ·rw [if_pos k] at h
    have:R n=x:=by simpa using h
    rw [←this];exact hR n
   ·rw [if_neg k] at h
    simp at h
theorem xF (key:Int) (A:List Int):Num (bK key A).r∧Num (bK key A).s:=by
 unfold bK
 split
 ·unfold fQ
  cases h:fsZ (sgZ key A) 64 with
  | none=>exact ⟨fN,fN⟩
  | some x=>exact sM (zf key A) h
 ·exact ⟨fN,fN⟩
theorem uI {key:Int} {A:List Int} (hk:Num key) (hA:dR A) (hl:A.length=32) (w:World) (hm:Mds w) (ht:ShT w) (hc:aM w) :
  Rt 3 #[U4 key,aO A] w (.bool true):=by
 have C1:Hid (∀ w,Mds w→ShT w→aM w→Rt 5 #[U4 key,.agg (A.map fun z=>Value.int .u8 z).toArray] w (.tuple #[.agg #[.int .u64 (l0 (bK key A).r),.int .u64 (l1 (bK key A).r),.int .u64 (l2 (bK key A).r),.int .u64 (l3 (bK key A).r),.int .u64 (l0 (bK key A).s),.int .u64 (l1 (bK key A).s),.int .u64 (l2 (bK key A).s),.int .u64 (l3 (bK key A).s),.bool (bK key A).o],.int .i64 (bK key A).e])):=fun w hm ht hc=>xE hk hA hl w hm ht hc
 have C2:Hid (∀ w,Rt 6 #[U4 key,.agg (A.map fun z=>Value.int .u8 z).toArray] w (.tuple #[.agg #[.int .u64 (l0 (bK key A).r),.int .u64 (l1 (bK key A).r),.int .u64 (l2 (bK key A).r),.int .u64 (l3 (bK key A).r),.int .u64 (l0 (bK key A).s),.int .u64 (l1 (bK key A).s),.int .u64 (l2 (bK key A).s),.int .u64 (l3 (bK key A).s),.bool (bK key A).o],.int .i64 (bK key A).e])):=fun w=>uH hk hA hl w
 have nv:=xF key A
 have hM:(A.map fun z=>Value.int .u8 z).length=32:=by rw [List.length_map];exact hl
 unfold aO
 generalize A.map (fun z=>Value.int .u8 z)=M at *
 generalize bK key A=x at *
 have il:(Tryz.prog.info? 26).map (·.size)=some M.length:=by rw [hM];kernel_rfl
 have EQ:=wQ (od:=x.o) nv.1 nv.2
 clear hA hl hk nv hM
 have BA:∀ (V:World) o,Below V.heap.size V (V.alloc o):=fun V o=>(Below.refl _ _).alloc (Nat.le_refl _) o
 have NC:∀ t1 t2,(Below w.heap.size w ((w.alloc (.cells #[.int .u64 (l0 key),.int .u64 (l1 key),.int .u64 (l2 key),.int .u64 (l3 key)] t1)).alloc (.cells M.toArray t2))∧Mds ((w.alloc (.cells #[.int .u64 (l0 key),.int .u64 (l1 key),.int .u64 (l2 key),.int .u64 (l3 key)] t1)).alloc (.cells M.toArray t2))∧ShT ((w.alloc (.cells #[.int .u64 (l0 key),.int .u64 (l1 key),.int .u64 (l2 key),.int .u64 (l3 key)] t1)).alloc (.cells M.toArray t2))∧aM ((w.alloc (.cells #[.int .u64 (l0 key),.int .u64 (l1 key),.int .u64 (l2 key),.int .u64 (l3 key)] t1)).alloc (.cells M.toArray t2)))∧ab ((w.alloc (.cells #[.int .u64 (l0 key),.int .u64 (l1 key),.int .u64 (l2 key),.int .u64 (l3 key)] t1)).alloc (.cells M.toArray t2)) w.heap.size key∧((w.alloc (.cells #[.int .u64 (l0 key),.int .u64 (l1 key),.int .u64 (l2 key),.int .u64 (l3 key)] t1)).alloc (.cells M.toArray t2)).rangeAt (w.heap.size+1) 0 M:=fun t1 t2=>by
  refine ⟨⟨((Below.refl _ _).alloc (Nat.le_refl _) _).alloc (by simp) _,(hm.alloc _).alloc _,(ht.keep (BA _ _)).keep (BA _ _),(hc.keep (BA _ _)).keep (BA _ _)⟩,(ab.new _ _ _).keep (BA _ _),?_⟩
  have:=dC (W:=w.alloc (.cells #[.int .u64 (l0 key),.int .u64 (l1 key),.int .u64 (l2 key),.int .u64 (l3 key)] t1)) (cs:=M) (t:=t2)
  rwa [show (w.alloc (.cells #[.int .u64 (l0 key),.int .u64 (l1 key),.int .u64 (l2 key),.int .u64 (l3 key)] t1)).heap.size=w.heap.size+1 by simp] at this
 have rg0:=fun t1 t2=>(NC t1 t2).2.2
 go_enter Tryz.func3,Tryz.ntmps3
 go_wp2_with (refine wpList_load_mid rfl 26 _ rfl (w.heap.size+1) 0 rfl M _ (rg0 _ _) Tryz.underlying26 rfl il ?_)
 refine aa (fun W=>(Below w.heap.size w W∧Mds W∧ShT W∧aM W)∧ab W w.heap.size key∧W.rangeAt (w.heap.size+1) 0 M) (NC _ _) ?_
 clear NC rg0 hm ht hc
 rintro W ⟨⟨B,hm,ht,hc⟩,hK,hD⟩
 refine (C1.out W hm ht hc).mono ?_
 rintro e w2 ⟨rfl,hb⟩
 have H2:Hid (Below w.heap.size w w2):=B.trans (hb.mono B.size)
 have gk:=fun o=>((hK.keep hb).keep (BA _ o)).cells
 have rg:=fun o=>cV (cV hD hb) (BA _ o)
 clear hb B hm ht hc hK hD C1
 clear W
 go_wp2_with (refine wpList_load_mid rfl 26 _ rfl (w.heap.size+1) 0 rfl M _ (rg _) Tryz.underlying26 rfl il ?_)
 refine aa (fun W=>Below w.heap.size w W∧Pnt W w2.heap.size x.r x.s x.o) ⟨H2.out.alloc H2.out.size _,Pnt.new rfl⟩ ?_
 rintro W ⟨B,hV⟩
 refine (C2.out W).mono ?_
 rintro e w3 ⟨rfl,hb⟩
 have lv:=hV.lt
 have l3v:=Nat.lt_of_lt_of_le lv hb.size
 have g1:=fun o=>((hV.keep hb).alloc o).cells
 have H3:Hid (Below w.heap.size w w3):=B.trans (hb.mono B.size)
 clear hb B hV gk rg C2 H2 lv BA il
 clear W
 generalize w2.heap.size=b2 at *
 clear w2
 go_wp2_with fail
 refine aa (fun W=>Below w.heap.size w W) (H3.out.alloc H3.out.size _) ?_
 rintro W4 B4
 refine (tA x.e W4).mono ?_
 rintro e w5 ⟨rfl,hb⟩
 replace B4:=B4.trans (hb.mono B4.size)
 clear hb g1 EQ H3
 go_wp2
 simp [bodyPost,results,Tryz.results3]
 exact B4
end Go.Proofs.YtnnnaajgjniiaaaGreatDoor
