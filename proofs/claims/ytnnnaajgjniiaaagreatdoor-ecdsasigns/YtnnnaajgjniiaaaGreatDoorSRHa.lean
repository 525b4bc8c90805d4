import Derived.Test.YtnnnaajgjniiaaaGreatDoorSRWords
import Derived.Test.YtnnnaajgjniiaaaGreatDoorSPad
import Derived.Test.YtnnnaajgjniiaaaGreatDoorSTx
import Derived.Test.YtnnnaajgjniiaaaGreatDoorAb
import Derived.Test.YtnnnaajgjniiaaaGreatDoorTail
import Derived.Laws.OwnMore
import Derived.Test.YtnnnaajgjniiaaaGreatDoorSBase
set_option maxRecDepth 100000
set_option maxHeartbeats 8000000
namespace Go.Proofs.YtnnnaajgjniiaaaGreatDoor.S
open Go.RowKit Go.Sort
theorem Own.keptH {B:Nat} {W W':World} {v:Value} {X:List (BitVec 8)} {row:Option Nat} (h:Own B W v X) (hg:W.grownBy W' row) (hn:∀ k,v.ownBlock=some k→row≠some k):Own B W' v X :=
 World.ownsRow.kept h hg (by
  cases hd:v.ownBlock with
  | none=>exact .inl rfl
  | some k=>exact .inr fun e=>hn k hd e.symm)
theorem Au {W W':World} (h:Below W.heap.size W W') (row:Option Nat):W.grownBy W' row:=⟨h.os,h.tape,h.output,h.size,fun k hk _=>h.block k hk⟩
theorem Own.keepH {B:Nat} {W W':World} {v:Value} {X:List (BitVec 8)} (h:Own B W v X) (hb:Below W.heap.size W W'):Own B W' v X:=h.keptH (Au hb none) (fun _ _ e=>by cases e)
theorem Own.allocH {B:Nat} {W:World} {v:Value} {X:List (BitVec 8)} (h:Own B W v X) (o:Obj):Own B (W.alloc o) v X:=h.keepH ((Below.refl _ _).alloc (Nat.le_refl _) o)
theorem Own.baseH {B B':Nat} {W:World} {v:Value} {X:List (BitVec 8)} (h:Own B W v X) (hB:B'≤B):Own B' W v X:=by
 refine ⟨h.1,?_⟩
 rcases h.2 with h|⟨g,cap,cur,rfl,hb,r⟩
 ·exact .inl h
 ·exact .inr ⟨g,cap,cur,rfl,by omega,r⟩
theorem Own.liesH {B:Nat} {W:World} {v:Value} {X:List (BitVec 8)} (h:Own B W v X):∃ a g c,v = .slice a X.length c∧At a g 0 X∧Byo W g 0 X∧X.length≤c:=by
 rcases h.2 with ⟨e,hx⟩|⟨g,cap,cur,e,_,_,hle,_⟩
 ·exact ⟨none,0,0,by rw [e,hx],.inl (List.eq_nil_of_length_eq_zero hx),fun i hi=>absurd hi (by omega),by omega⟩
 ·refine ⟨_,g,cap,e,.inr rfl,fun i hi=>?_,hle⟩
  subst e
  rw [Nat.zero_add,h.row.cellAt i (by omega)]
  simp [byts,List.getD,hi]
theorem jF {M:List (BitVec 8)} (hM:M.length=32) (w:World) :
  Calls Tryz.prog 145 #[.agg (byts M).toArray] w fun e w'=>∃ v,e = .returned v∧Own w.heap.size w' v M∧Below w.heap.size w w':=by
 obtain ⟨i0,hi,hz0,hz1,hz2⟩:=info_parts info_byte
 have HZ:Hid (Tryz.prog.info? 5=some i0∧i0.zero=some (.int .u8 0)∧i0.size=1∧i0.bytes=1):=⟨hi,hz0,hz1,hz2⟩
 have HM:Hid (M.length=32):=hM
 have HN:Hid (∀ t,Hsh (w.alloc (.cells (byts M).toArray t)) w.heap.size M):=fun t=>Hsh.new hM t rfl
 clear hi hz0 hz1 hz2 hM
 obtain ⟨N,eN⟩:∃ N,N=(byts M).toArray:=⟨_,rfl⟩
 rw [←eN] at HN ⊢
 clear eN
 go_enter Tryz.func145,Tryz.ntmps145
 refine wp_seq_k fun K0 kk=>?_
 have H0:Hid _:=kk
 clear kk
 go_wp2_with fail
 refine H0.out _ _ ?_
 clear H0
 refine af (fun W=>Hsh W w.heap.size M∧Below w.heap.size w W∧w.heap.size<W.heap.size) ⟨HN.out _,(Below.refl _ _).alloc (Nat.le_refl _) _,by simp⟩ ?_
 rintro W hW
 have HW:Hid (Hsh W w.heap.size M∧Below w.heap.size w W∧w.heap.size<W.heap.size):=hW
 clear hW HN
 go_wp2_with fail
 go_loopg [3,4] 32 (fun k lv iv wr=>∃ i:Nat,k=32-i∧i≤32∧iv = .int .i64 i∧Own W.heap.size wr lv (M.take i)∧Below w.heap.size w wr∧Hsh wr w.heap.size M∧W.heap.size≤wr.heap.size)
 case atStart=>exact ⟨0,rfl,by decide,rfl,own_nil,HW.out.2.1,HW.out.1,Nat.le_refl _⟩
 case round =>
  obtain ⟨i,hk,hi9,rfl,hown,hB,hH,hS⟩:=hrel
  have HK:Hid (gk=32-i):=hk
  have HF:Hid (Own W.heap.size wr u3 (M.take i)∧Below w.heap.size w wr∧Hsh wr w.heap.size M∧W.heap.size≤wr.heap.size):=⟨hown,hB,hH,hS⟩
  clear hk hown hB hH hS
  by_cases h8:i=32
  ·subst h8
   have HR:Hid (M.take 32=M):=by rw [←HM.out];exact List.take_length
   go_wp2
   go_ret
   exact ⟨_,rfl,by have h:=HF.out.1;rw [HR.out] at h;exact h.baseH (by have:=HW.out.2.2;omega),HF.out.2.1⟩
  ·have hlt:i<32:=by omega
   have hlt':(i:Int)<(32:Int):=by omega
   have gx:=HF.out.2.2.1.2.1 i hlt
   have NK:Hid (M.take (i+1)=M.take i++[M.getD i 0]):=iC (by rw [HM.out];exact hlt)
   have LR:Hid ((M.take i).length<1073741824):=by rw [List.length_take];show _<_;omega
   generalize M.getD i 0=x at *
   go_wp2_with ((at_builtin;go_loud (refine wpList_append_own_at _ rfl _ _ 36 rfl W.heap.size 5 i0 (.int .u8 0) 1 1 Tryz.underlying36 HZ.out.1 HZ.out.2.1 HZ.out.2.2.1 HZ.out.2.2.2 rfl (by decide) u3 _ _ rfl (HF.out.1.row.alloc _) ⟨wr.heap.size,0,none⟩ 1 1 [.int .u8 (Y x)] rfl rfl (cell_one_new _ _ _) (fun u hu=>by simp at hu;subst hu;rfl) (by unfold maxLen;have:=LR.out;omega) (by have:=LR.out;omega) (by have:=HF.out.2.2.2;simp;omega) ?_);intro v' w3 hown' hgrow3 hnil3 hblk))
   have HO:Hid (Own W.heap.size w3 v' (M.take (i+1))∧Below w.heap.size w w3∧Hsh w3 w.heap.size M∧W.heap.size≤w3.heap.size):=by
    have hlt3:∀ k,u3.ownBlock=some k→W.heap.size≤k:=fun k hk=>(HF.out.1.row.lt k hk).1
    have hbw:=HW.out.2.2
    refine ⟨?_,?_,?_,?_⟩
    ·rw [NK.out,Own,List.length_append,←byts_snoc]
     exact hown'
    ·exact (HF.out.2.1.alloc HF.out.2.1.size _).grown hgrow3 (by have:=HF.out.2.1.size;simp;omega) (fun k hk=>by have:=hlt3 k hk;omega)
    ·have hH:=HF.out.2.2.1.alloc (.cells #[.int .u8 (Y x)] 5)
     have hs:=hgrow3.block w.heap.size (by simp;have:=HF.out.2.2.2;omega) (fun e=>by have:=hlt3 _ e.symm;omega)
     exact ⟨hH.1,fun j hj=>by rw [World.cell?_of_block (a:=⟨w.heap.size,j,none⟩) hs];exact hH.2.1 j hj,fun j hj=>by rw [World.frozen?_of_block (a:=⟨w.heap.size,j,none⟩) hs];exact hH.2.2 j hj⟩
    ·have h1:=hgrow3.size
     have h2:=HF.out.2.2.2
     simp at h1
     omega
   clear hown' hgrow3 hnil3 hblk
   go_roundg (32-(i+1))
   case measure=>have:=HK.out;omega
   case rel=>exact ⟨i+1,rfl,by omega,by go_num,HO.out⟩
theorem Hsh.sameH {W W':World} {b:Nat} {M:List (BitVec 8)} (h:Hsh W b M) (e:W'.heap[b]?=W.heap[b]?):Hsh W' b M :=
 ⟨h.1,fun j hj=>by rw [World.cell?_of_block (a:=⟨b,j,none⟩) e];exact h.2.1 j hj,fun j hj=>by rw [World.frozen?_of_block (a:=⟨b,j,none⟩) e];exact h.2.2 j hj⟩
structure Tw (w W:World) (br:Nat) (b0:Nat) (kv iv ov:Value) (K I O:List (BitVec 8)):Prop where
 B:RowKit.Below w.heap.size w W
 h:Hsh W br (List.replicate 32 0)
 lo:br<b0
 hi:b0≤W.heap.size
 lw:w.heap.size≤b0
 k:Own b0 W kv K
 i:Own b0 W iv I
 o:Own b0 W ov O
 ki:∀ b,kv.ownBlock=some b→iv.ownBlock≠some b
 ko:∀ b,kv.ownBlock=some b→ov.ownBlock≠some b
 io:∀ b,iv.ownBlock=some b→ov.ownBlock≠some b
theorem Tw.swap {w W:World} {br b0:Nat} {kv iv ov:Value} {K I O:List (BitVec 8)} (t:Tw w W br b0 kv iv ov K I O):Tw w W br b0 kv ov iv K O I :=
 ⟨t.B,t.h,t.lo,t.hi,t.lw,t.k,t.o,t.i,t.ko,t.ki,fun b hb e=>t.io b e hb⟩
theorem Tw.push {w W W':World} {br b0:Nat} {kv iv ov iv':Value} {K I O:List (BitVec 8)} {x:BitVec 8} {z:Obj} (t:Tw w W br b0 kv iv ov K I O) (hown:W'.ownsRow b0 5 1 iv' (I.length+1) (byts I++[.int .u8 (Y x)]))
  (hg:(W.alloc z).grownBy W' iv.ownBlock) (hblk:iv'.ownBlock=iv.ownBlock∨iv'.ownBlock=some (W.alloc z).heap.size):Tw w W' br b0 kv iv' ov K (I++[x]) O:=by
 have lti:∀ b,iv.ownBlock=some b→b0≤b∧b<W.heap.size:=fun b hb=>t.i.row.lt b hb
 have ltk:∀ b,kv.ownBlock=some b→b0≤b∧b<W.heap.size:=fun b hb=>t.k.row.lt b hb
 have lto:∀ b,ov.ownBlock=some b→b0≤b∧b<W.heap.size:=fun b hb=>t.o.row.lt b hb
 have sz:(W.alloc z).heap.size=W.heap.size+1:=by simp
 have hB:=t.B.alloc t.B.size z
 refine ⟨hB.grown hg (by have:=t.B.size;omega) (fun k hk=>by have:=lti k hk;have:=t.lw;omega),(t.h.alloc z).sameH (hg.block br (by have:=t.lo;have:=t.hi;omega) (fun e=>by have:=lti _ e.symm;have:=t.lo;omega)),t.lo,by have:=hg.size;have:=t.hi;omega,t.lw,(t.k.allocH z).keptH hg (fun b hb e=>t.ki b hb e),?_,(t.o.allocH z).keptH hg (fun b hb e=>t.io b e hb),?_,t.ko,?_⟩
 ·rw [Own,List.length_append,←byts_snoc];exact hown
 ·intro b hb e
  rcases hblk with h|h
  ·exact t.ki b hb (by rw [←h];exact e)
  ·rw [h] at e;have:=Option.some.inj e;have:=ltk b hb;omega
 ·intro b hb e
  rcases hblk with h|h
  ·exact t.io b (by rw [←h];exact hb) e
  ·rw [h] at hb;have:=Option.some.inj hb;have:=lto b e;omega
open Go.RowKit Go.Sort
def fp (q:Part):Part:={ q with X:=Bf q.X }
theorem mE {W:World} {t:TypeId} {N:List Value} (hN:N.length=32):(W.alloc (.cells #[.int .u8 0,.int .u8 0,.int .u8 0,.int .u8 0,.int .u8 0,.int .u8 0,.int .u8 0,.int .u8 0,.int .u8 0,.int .u8 0,.int .u8 0,.int .u8 0,.int .u8 0,.int .u8 0,.int .u8 0,.int .u8 0,.int .u8 0,.int .u8 0,.int .u8 0,.int .u8 0,.int .u8 0,.int .u8 0,.int .u8 0,.int .u8 0,.int .u8 0,.int .u8 0,.int .u8 0,.int .u8 0,.int .u8 0,.int .u8 0,.int .u8 0,.int .u8 0] t)).there W.heap.size 0 N.toArray.size:=by
 have h:N.toArray.size=32:=by simp [hN]
 rw [h];exact (Hsh.zeros t rfl).there
theorem qo {W:World} {t:TypeId} {N:List Value} (hN:N.length=32):Below W.heap.size W ((W.alloc (.cells #[.int .u8 0,.int .u8 0,.int .u8 0,.int .u8 0,.int .u8 0,.int .u8 0,.int .u8 0,.int .u8 0,.int .u8 0,.int .u8 0,.int .u8 0,.int .u8 0,.int .u8 0,.int .u8 0,.int .u8 0,.int .u8 0,.int .u8 0,.int .u8 0,.int .u8 0,.int .u8 0,.int .u8 0,.int .u8 0,.int .u8 0,.int .u8 0,.int .u8 0,.int .u8 0,.int .u8 0,.int .u8 0,.int .u8 0,.int .u8 0,.int .u8 0,.int .u8 0] t)).setCells W.heap.size 0 N)∧((W.alloc (.cells #[.int .u8 0,.int .u8 0,.int .u8 0,.int .u8 0,.int .u8 0,.int .u8 0,.int .u8 0,.int .u8 0,.int .u8 0,.int .u8 0,.int .u8 0,.int .u8 0,.int .u8 0,.int .u8 0,.int .u8 0,.int .u8 0,.int .u8 0,.int .u8 0,.int .u8 0,.int .u8 0,.int .u8 0,.int .u8 0,.int .u8 0,.int .u8 0,.int .u8 0,.int .u8 0,.int .u8 0,.int .u8 0,.int .u8 0,.int .u8 0,.int .u8 0,.int .u8 0] t)).setCells W.heap.size 0 N).rangeAt W.heap.size 0 N :=
 ⟨below_setCells (Nat.le_refl _) _ 0 _ ((Below.refl _ _).alloc (Nat.le_refl _) _),World.rangeAt_setCells_same _ _ _ _ (by simpa using mE (t:=t) hN)⟩
open Go.RowKit Go.Sort
theorem zw {W:World} {z:Obj} {b:Nat} {p q:Part} (hz:z = .cells #[p.val,q.val] 36) (e:b=W.heap.size) (hp:p.ok W) (hq:q.ok W):Prts (W.alloc z) b 0 [p,q]:=fun i hi=>by
 subst hz e
 have B1:Below W.heap.size W (W.alloc (.cells #[p.val,q.val] 36)):=(Below.refl _ _).alloc (Nat.le_refl _) _
 have:i=0∨i=1:=by have:i<2:=hi;omega
 rcases this with rfl|rfl
 ·exact ⟨by rw [Nat.zero_add,World.cell?_alloc_mark];rfl,hp.1,hp.2.1,hp.2.2.keep B1⟩
 ·exact ⟨by rw [Nat.zero_add,World.cell?_alloc_mark];rfl,hq.1,hq.2.1,hq.2.2.keep B1⟩
theorem uz {a:Option Addr} {bp op cp br gi ci go co:Nat} {PS:List Part} {I O:List (BitVec 8)} (hs:(catX PS).length<1073730000) (hn:PS.length≤1073730000) (ha:PS=[]∨a=some ⟨bp,op,none⟩) (w W:World)
  (hPK:∀ W',Below w.heap.size w W'→Prts W' bp op PS) (hB:Below w.heap.size w W) (hR:Hsh W br (List.replicate 32 0)) (gr:w.heap.size≤br) (hI:Byo W gi 0 I) (lI:I.length=64) (cI:64≤ci) (hO:Byo W go 0 O) (lO:O.length=64) (cO:64≤co) (t0 t2 t3 t5 t6 t9 t10 t11 t12 t13 t14 t15 t16 t17 t18 t19 t20 t21 t22 t23 t24 t25 t26 t27 t28 t29 t30 t31 t32 t33 t34 t35 t36 t37 t38 t39 t40 t41 t42 t43 t44 t45 t46 t47 t48 t49 t50 t51 t52 t53 t54 t55 t56 t57 t58 t59 t60:Value) :
  fW Tryz.prog Tryz.f112 7 (bodyPost Tryz.prog Tryz.f112 fun e w'=>e = .returned (.agg (byts (bP (O++bP (I++catX PS)))).toArray)∧Below w.heap.size w w') { tmps:=#[t0,.slice a PS.length cp,t2,t3,.pointer (some ⟨br,0,none⟩),t5,t6,.slice (some ⟨gi,0,none⟩) 64 ci,.slice (some ⟨go,0,none⟩) 64 co,t9,t10,t11,t12,t13,t14,t15,t16,t17,t18,t19,t20,t21,t22,t23,t24,t25,t26,t27,t28,t29,t30,t31,t32,t33,t34,t35,t36,t37,t38,t39,t40,t41,t42,t43,t44,t45,t46,t47,t48,t49,t50,t51,t52,t53,t54,t55,t56,t57,t58,t59,t60],defers:=[] } W:=by
 refine fW.intro rfl ?_
 have HA:Hid ((catX PS).length<1073730000∧PS.length≤1073730000∧(PS=[]∨a=some ⟨bp,op,none⟩)∧(∀ W',Below w.heap.size w W'→Prts W' bp op PS)):=⟨hs,hn,ha,hPK⟩
 have HI:Hid (I.length=64∧64≤ci∧O.length=64∧64≤co∧w.heap.size≤br):=⟨lI,cI,lO,cO,gr⟩
 have HS:Hid (Below w.heap.size w W∧Hsh W br (List.replicate 32 0)∧Byo W gi 0 I∧Byo W go 0 O):=⟨hB,hR,hI,hO⟩
 clear hs hn ha hPK hB hR gr hI lI cI hO lO cO
 refine wp_seq_k fun K0 kk=>?_
 have H0:Hid _:=kk
 clear kk
 have hc:=dG (cp:=cp) (by have:=HA.out.1;omega) (by have:=HA.out.2.1;omega) HA.out.2.2.1 W (HA.out.2.2.2 W HS.out.1)
 go_wp2_with fail
 refine hc.mono ?_
 clear hc
 rintro e w1 ⟨v,rfl,ho,hb⟩
 obtain ⟨at_,gt,ct,rfl,zt,yt,lt⟩:=ho.liesH
 have H1:Hid (Below w.heap.size w w1∧Hsh w1 br (List.replicate 32 0)∧Byo w1 gi 0 I∧Byo w1 go 0 O∧At at_ gt 0 (catX PS)∧Byo w1 gt 0 (catX PS)∧(catX PS).length≤ct):=⟨HS.out.1.trans (hb.mono HS.out.1.size),HS.out.2.1.keep hb,HS.out.2.2.1.keep hb,HS.out.2.2.2.keep hb,zt,yt,lt⟩
 clear hb ho zt yt lt HS
 go_wp2
 refine H0.out _ _ ?_
 clear H0
 obtain ⟨T,eT⟩:∃ T,T=catX PS:=⟨_,rfl⟩
 have HT:Hid (T=catX PS∧T.length<1073730000):=⟨eT,by rw [eT];exact HA.out.1⟩
 rw [←eT] at H1 ⊢
 clear eT
 refine wp_seq_k fun K1 kk=>?_
 have H2:Hid _:=kk
 clear kk
 go_wp2_with fail
 have hP2:Prts (w1.alloc (.cells #[.slice (some ⟨gi,0,none⟩) 64 ci,.slice at_ T.length ct] 36)) w1.heap.size 0 [⟨some ⟨gi,0,none⟩,gi,0,ci,I⟩,⟨at_,gt,0,ct,T⟩] :=
  zw (by rw [Part.val,Part.val];show _=Obj.cells #[.slice (some ⟨gi,0,none⟩) I.length ci,_] _;rw [HI.out.1]) rfl ⟨.inr rfl,by show I.length≤ci;have:=HI.out;omega,H1.out.2.2.1⟩ ⟨H1.out.2.2.2.2.1,H1.out.2.2.2.2.2.2,H1.out.2.2.2.2.2.1⟩
 have B1:Below w1.heap.size w1 (w1.alloc (.cells #[.slice (some ⟨gi,0,none⟩) 64 ci,.slice at_ T.length ct] 36)):=(Below.refl _ _).alloc (Nat.le_refl _) _
 have hc:=dG (PS:=[⟨some ⟨gi,0,none⟩,gi,0,ci,I⟩,⟨at_,gt,0,ct,T⟩]) (a:=some ⟨w1.heap.size,0,none⟩) (bp:=w1.heap.size) (op:=0) (cp:=2) (by simp [catX];have:=HI.out;have:=HT.out;omega) (by show 2≤_;omega) (.inr rfl) _ hP2
 refine hc.mono ?_
 rintro e w2 ⟨v2,rfl,ho,hb⟩
 have ec:catX [⟨some ⟨gi,0,none⟩,gi,0,ci,I⟩,⟨at_,gt,0,ct,T⟩]=I++T:=by simp [catX]
 obtain ⟨J,eJ⟩:∃ J,J=I++T:=⟨_,rfl⟩
 have HJ:Hid (J=I++T∧J.length<1073740000):=⟨eJ,by rw [eJ,List.length_append];have:=HI.out;have:=HT.out;omega⟩
 rw [ec,←eJ] at ho
 clear eJ
 obtain ⟨a2,g2,c2,rfl,z2,y2,l2⟩:=ho.liesH
 have H3:Hid (Below w.heap.size w w2∧Hsh w2 br (List.replicate 32 0)∧Byo w2 go 0 O):=⟨(H1.out.1.trans (B1.mono H1.out.1.size)).trans (hb.mono (by have:=H1.out.1.size;simp;omega)),(H1.out.2.1.keep B1).keep hb,(H1.out.2.2.2.1.keep B1).keep hb⟩
 have hd:=mD (a:=a2) (bd:=g2) (od:=0) (cd:=c2) (X:=J) HJ.out.2 l2 z2 w2 y2
 clear hc hP2 B1 hb ho z2 y2 l2 ec H1
 go_wp2_with fail
 with_reducible refine hd.mono ?_
 clear hd
 rintro e w3 ⟨rfl,hb⟩
 have lN:(byts (bP J)).length=32:=by rw [byts_len,shaL_len]
 have oc:=one_byts (bP J)
 obtain ⟨N,eN⟩:∃ N,N=byts (bP J):=⟨_,rfl⟩
 rw [←eN] at lN oc ⊢
 have LN:Hid (N.length=32∧N=byts (bP J)):=⟨lN,eN⟩
 clear eN lN
 have il3:(Tryz.prog.info? 26).map (·.size)=some N.toArray.size:=by rw [List.size_toArray,LN.out.1];kernel_rfl
 have il:(Tryz.prog.info? 26).map (·.size)=some N.length:=by rw [LN.out.1];kernel_rfl
 have th:=fun t=>mE (W:=w3) (t:=t) LN.out.1
 have F3:∀ t,Hid ((Below w.heap.size w ((w3.alloc (.cells #[.int .u8 0,.int .u8 0,.int .u8 0,.int .u8 0,.int .u8 0,.int .u8 0,.int .u8 0,.int .u8 0,.int .u8 0,.int .u8 0,.int .u8 0,.int .u8 0,.int .u8 0,.int .u8 0,.int .u8 0,.int .u8 0,.int .u8 0,.int .u8 0,.int .u8 0,.int .u8 0,.int .u8 0,.int .u8 0,.int .u8 0,.int .u8 0,.int .u8 0,.int .u8 0,.int .u8 0,.int .u8 0,.int .u8 0,.int .u8 0,.int .u8 0,.int .u8 0] t)).setCells w3.heap.size 0 N)∧Hsh ((w3.alloc (.cells #[.int .u8 0,.int .u8 0,.int .u8 0,.int .u8 0,.int .u8 0,.int .u8 0,.int .u8 0,.int .u8 0,.int .u8 0,.int .u8 0,.int .u8 0,.int .u8 0,.int .u8 0,.int .u8 0,.int .u8 0,.int .u8 0,.int .u8 0,.int .u8 0,.int .u8 0,.int .u8 0,.int .u8 0,.int .u8 0,.int .u8 0,.int .u8 0,.int .u8 0,.int .u8 0,.int .u8 0,.int .u8 0,.int .u8 0,.int .u8 0,.int .u8 0,.int .u8 0] t)).setCells w3.heap.size 0 N) br (List.replicate 32 0)∧Byo ((w3.alloc (.cells #[.int .u8 0,.int .u8 0,.int .u8 0,.int .u8 0,.int .u8 0,.int .u8 0,.int .u8 0,.int .u8 0,.int .u8 0,.int .u8 0,.int .u8 0,.int .u8 0,.int .u8 0,.int .u8 0,.int .u8 0,.int .u8 0,.int .u8 0,.int .u8 0,.int .u8 0,.int .u8 0,.int .u8 0,.int .u8 0,.int .u8 0,.int .u8 0,.int .u8 0,.int .u8 0,.int .u8 0,.int .u8 0,.int .u8 0,.int .u8 0,.int .u8 0,.int .u8 0] t)).setCells w3.heap.size 0 N) go 0 O)∧((w3.alloc (.cells #[.int .u8 0,.int .u8 0,.int .u8 0,.int .u8 0,.int .u8 0,.int .u8 0,.int .u8 0,.int .u8 0,.int .u8 0,.int .u8 0,.int .u8 0,.int .u8 0,.int .u8 0,.int .u8 0,.int .u8 0,.int .u8 0,.int .u8 0,.int .u8 0,.int .u8 0,.int .u8 0,.int .u8 0,.int .u8 0,.int .u8 0,.int .u8 0,.int .u8 0,.int .u8 0,.int .u8 0,.int .u8 0,.int .u8 0,.int .u8 0,.int .u8 0,.int .u8 0] t)).setCells w3.heap.size 0 N).rangeAt w3.heap.size 0 N):=fun t=>by
  obtain ⟨h1,h2⟩:=qo (W:=w3) (t:=t) LN.out.1
  have h3:Below w2.heap.size w2 ((w3.alloc (.cells #[.int .u8 0,.int .u8 0,.int .u8 0,.int .u8 0,.int .u8 0,.int .u8 0,.int .u8 0,.int .u8 0,.int .u8 0,.int .u8 0,.int .u8 0,.int .u8 0,.int .u8 0,.int .u8 0,.int .u8 0,.int .u8 0,.int .u8 0,.int .u8 0,.int .u8 0,.int .u8 0,.int .u8 0,.int .u8 0,.int .u8 0,.int .u8 0,.int .u8 0,.int .u8 0,.int .u8 0,.int .u8 0,.int .u8 0,.int .u8 0,.int .u8 0,.int .u8 0] t)).setCells w3.heap.size 0 N):=hb.trans (h1.mono hb.size)
  exact ⟨⟨H3.out.1.trans (h3.mono H3.out.1.size),H3.out.2.1.keep h3,H3.out.2.2.keep h3⟩,h2⟩
 clear hb H3
 go_wp2_with ((with_reducible refine an (ty:=26) w3.heap.size 0 N.toArray (th _) il3 oc ?_ ?_ ?_);rfl;rfl;refine aA (fun W=>(Below w.heap.size w W∧Hsh W br (List.replicate 32 0)∧Byo W go 0 O)∧W.rangeAt w3.heap.size 0 N) (F3 _).out ?_;clear F3 th;rintro W3 hW)
 have HW:Hid ((Below w.heap.size w W3∧Hsh W3 br (List.replicate 32 0)∧Byo W3 go 0 O)):=hW.1
 have rb:=hW.2
 refine H2.out _ _ ?_
 clear H2 hW oc il3
 generalize w3.heap.size=bi at *
 simp only [Act.put]
 go_wp2_with ((with_reducible refine aH (ty:=26) bi 0 N _ rb Tryz.underlying26 ?_ il ?_ ?_);rfl;rfl;simp only [Act.put,List.setIfInBounds_toArray,List.set_cons_succ,List.set_cons_zero])
 have hbo:Hid (∀ w,Calls Tryz.prog 145 #[.agg N.toArray] w fun e w'=>∃ v,e = .returned v∧Own w.heap.size w' v (bP J)∧Below w.heap.size w w'):=fun w=>by
  rw [LN.out.2];exact jF (shaL_len J) w
 obtain ⟨D,eD⟩:∃ D,D=bP J:=⟨_,rfl⟩
 have HD:Hid (D=bP J∧D.length=32):=⟨eD,by rw [eD];exact shaL_len J⟩
 rw [←eD] at hbo
 clear eD
 with_reducible refine (hbo.out W3).mono ?_
 clear hbo
 rintro e w4 ⟨v4,rfl,ho,hb⟩
 obtain ⟨a4,g4,c4,rfl,z4,y4,l4⟩:=ho.liesH
 have H4:Hid (Below w.heap.size w w4∧Hsh w4 br (List.replicate 32 0)∧Byo w4 go 0 O∧At a4 g4 0 D∧Byo w4 g4 0 D∧D.length≤c4):=⟨HW.out.1.trans (hb.mono HW.out.1.size),HW.out.2.1.keep hb,HW.out.2.2.keep hb,z4,y4,l4⟩
 clear HW rb il LN hb ho z4 y4 l4
 go_wp2_with fail
 have hP4:Prts (w4.alloc (.cells #[.slice (some ⟨go,0,none⟩) 64 co,.slice a4 D.length c4] 36)) w4.heap.size 0 [⟨some ⟨go,0,none⟩,go,0,co,O⟩,⟨a4,g4,0,c4,D⟩] :=
  zw (by rw [Part.val,Part.val];show _=Obj.cells #[.slice (some ⟨go,0,none⟩) O.length co,_] _;rw [HI.out.2.2.1]) rfl ⟨.inr rfl,by show O.length≤co;have:=HI.out;omega,H4.out.2.2.1⟩ ⟨H4.out.2.2.2.1,H4.out.2.2.2.2.2,H4.out.2.2.2.2.1⟩
 have B4:Below w4.heap.size w4 (w4.alloc (.cells #[.slice (some ⟨go,0,none⟩) 64 co,.slice a4 D.length c4] 36)):=(Below.refl _ _).alloc (Nat.le_refl _) _
 have hc:=dG (PS:=[⟨some ⟨go,0,none⟩,go,0,co,O⟩,⟨a4,g4,0,c4,D⟩]) (a:=some ⟨w4.heap.size,0,none⟩) (bp:=w4.heap.size) (op:=0) (cp:=2) (by simp [catX];have:=HI.out;have:=HD.out;omega) (by show 2≤_;omega) (.inr rfl) _ hP4
 refine hc.mono ?_
 rintro e w5 ⟨v5,rfl,ho,hb⟩
 have ec:catX [⟨some ⟨go,0,none⟩,go,0,co,O⟩,⟨a4,g4,0,c4,D⟩]=O++D:=by simp [catX]
 obtain ⟨G,eG⟩:∃ G,G=O++D:=⟨_,rfl⟩
 have HGG:Hid (G=O++D∧G.length<1073740000):=⟨eG,by rw [eG,List.length_append];have:=HI.out;have:=HD.out;omega⟩
 rw [ec,←eG] at ho
 clear eG
 obtain ⟨a5,g5,c5,rfl,z5,y5,l5⟩:=ho.liesH
 have H5:Hid (Below w.heap.size w w5∧Hsh w5 br (List.replicate 32 0)):=⟨(H4.out.1.trans (B4.mono H4.out.1.size)).trans (hb.mono (by have:=H4.out.1.size;simp;omega)),(H4.out.2.1.keep B4).keep hb⟩
 have hd:=mD (a:=a5) (bd:=g5) (od:=0) (cd:=c5) (X:=G) HGG.out.2 l5 z5 w5 y5
 clear hc hP4 B4 hb ho z5 y5 l5 ec H4
 go_wp2_with fail
 with_reducible refine hd.mono ?_
 clear hd
 rintro e w6 ⟨rfl,hb⟩
 have lN:(byts (bP G)).length=32:=by rw [byts_len,shaL_len]
 have oc:=one_byts (bP G)
 obtain ⟨M,eM⟩:∃ M,M=byts (bP G):=⟨_,rfl⟩
 rw [←eM] at lN oc ⊢
 have LM:Hid (M.length=32∧M=byts (bP (O++bP (I++T)))):=⟨lN,by rw [eM,HGG.out.1,HD.out.1,HJ.out.1]⟩
 clear eM lN
 have il3:(Tryz.prog.info? 26).map (·.size)=some M.toArray.size:=by rw [List.size_toArray,LM.out.1];kernel_rfl
 have il:(Tryz.prog.info? 26).map (·.size)=some M.length:=by rw [LM.out.1];kernel_rfl
 have H6:Hid (Below w.heap.size w w6∧Hsh w6 br (List.replicate 32 0)):=⟨H5.out.1.trans (hb.mono H5.out.1.size),H5.out.2.keep hb⟩
 have tr:w6.there br 0 M.toArray.size:=by rw [List.size_toArray,LM.out.1];exact H6.out.2.there
 clear hb H5 HGG HD HJ HT HA
 go_wp2_with ((with_reducible refine an (ty:=26) br 0 M.toArray tr il3 oc ?_ ?_ ?_);rfl;rfl)
 have ld:=run_loadVar_mid (P:=Tryz.prog) (w6.setCells br 0 M) br 0 26 M _ (World.rangeAt_setCells_same _ _ _ _ (by simpa using tr)) Tryz.underlying26 rfl il
 refine bodyPost_ret (v:=.agg M.toArray) ?_ rfl ⟨by rw [LM.out.2],below_setCells HI.out.2.2.2.2 M 0 w6 H6.out.1⟩
 simp [results,Tryz.results112,Act.put,asAddr,ld]
open Go.RowKit Go.Sort
theorem nW {K:List (BitVec 8)} {m:BitVec 8} {i:Nat} (h:i<K.length):aX (K.take (i+1)) m=aX (K.take i) m++[K.getD i 0 ^^^ m]:=by
 rw [iC h,aX,List.map_append];rfl
theorem nZ {a:Option Addr} {bp op cp br b0:Nat} {PS:List Part} {K1:List (BitVec 8)} {kv:Value} (hs:(catX PS).length<1073730000) (hn:PS.length≤1073730000) (ha:PS=[]∨a=some ⟨bp,op,none⟩) (w W:World)
  (hPK:∀ W',Below w.heap.size w W'→Prts W' bp op PS) (gr:w.heap.size≤br) (hT:Tw w W br b0 (.slice none 0 0) kv (.slice none 0 0) [] K1 []) (lK:K1.length≤64) (t0 t2 t3 t6 t7 t8 t9 t10 t11 t12 t13 t14 t15 t16 t17 t18 t19 t20 t21 t22 t23 t24 t25 t26 t27 t28 t29 t30 t31 t32 t33 t34 t35 t36 t37 t38 t39 t40 t41 t42 t43 t44 t45 t46 t47 t48 t49 t50 t51 t52 t53 t54 t55 t56 t57 t58 t59 t60:Value) :
  fW Tryz.prog Tryz.f112 3 (bodyPost Tryz.prog Tryz.f112 fun e w'=>e = .returned (.agg (byts (bP (aX (K1++List.replicate (64-K1.length) 0) 92++bP (aX (K1++List.replicate (64-K1.length) 0) 54++catX PS)))).toArray)∧Below w.heap.size w w') { tmps:=#[t0,.slice a PS.length cp,t2,t3,.pointer (some ⟨br,0,none⟩),kv,t6,t7,t8,t9,t10,t11,t12,t13,t14,t15,t16,t17,t18,t19,t20,t21,t22,t23,t24,t25,t26,t27,t28,t29,t30,t31,t32,t33,t34,t35,t36,t37,t38,t39,t40,t41,t42,t43,t44,t45,t46,t47,t48,t49,t50,t51,t52,t53,t54,t55,t56,t57,t58,t59,t60],defers:=[] } W:=by
 refine fW.intro rfl ?_
 obtain ⟨i0,hi,hz0,hz1,hz2⟩:=info_parts info_byte
 have HZ:Hid (Tryz.prog.info? 5=some i0∧i0.zero=some (.int .u8 0)∧i0.size=1∧i0.bytes=1):=⟨hi,hz0,hz1,hz2⟩
 have HA:Hid ((catX PS).length<1073730000∧PS.length≤1073730000∧(PS=[]∨a=some ⟨bp,op,none⟩)∧(∀ W',Below w.heap.size w W'→Prts W' bp op PS)∧w.heap.size≤br):=⟨hs,hn,ha,hPK,gr⟩
 have HL:Hid (K1.length≤64):=lK
 have HW:Hid (Tw w W br b0 (.slice none 0 0) kv (.slice none 0 0) [] K1 []):=hT
 have yz:Hid (Y 0=0):=Y_zero
 clear hs hn ha hPK gr hT lK hi hz0 hz1 hz2
 refine wp_seq_k fun KA kk=>?_
 have H0:Hid _:=kk
 clear kk
 go_wp2_with fail
 go_loopg [5] (64-K1.length) (fun g lv wr=>∃ (j:Nat) (a':Option Addr) (c':Nat),g=64-K1.length-j∧j≤64-K1.length∧lv = .slice a' (K1.length+j) c'∧Tw w wr br b0 (.slice none 0 0) lv (.slice none 0 0) [] (K1++List.replicate j 0) [])
 case atStart =>
  obtain ⟨a',_,c',e,_⟩:=HW.out.i.liesH
  exact ⟨0,a',c',rfl,Nat.zero_le _,e,by rw [List.replicate_zero,List.append_nil];exact HW.out⟩
 case round =>
  obtain ⟨j,a',c',hk,hj,rfl,hT⟩:=hrel
  have HK:Hid (gk=64-K1.length-j∧j≤64-K1.length):=⟨hk,hj⟩
  have HT:Hid (Tw w wr br b0 (.slice none 0 0) (.slice a' (K1.length+j) c') (.slice none 0 0) [] (K1++List.replicate j 0) []):=hT
  clear hk hj hT
  by_cases h8:K1.length+j<64
  ·have q1:((K1.length:Int)+(j:Int))<64:=by omega
   have hO:Hid (wr.ownsRow b0 5 1 (.slice a' (K1.length+j) c') (K1.length+j) (byts (K1++List.replicate j 0))):=by
    have:=HT.out.i.row
    rw [List.length_append,List.length_replicate] at this
    exact this
   have LR:Hid (K1.length+j<64):=h8
   go_wp2_with ((at_builtin;go_loud (refine wpList_append_own_at _ rfl _ _ 36 rfl b0 5 i0 (.int .u8 0) 1 1 Tryz.underlying36 HZ.out.1 HZ.out.2.1 HZ.out.2.2.1 HZ.out.2.2.2 rfl (by decide) (.slice a' (K1.length+j) c') _ _ rfl (hO.out.alloc _) ⟨wr.heap.size,0,none⟩ 1 1 [.int .u8 0] rfl rfl (cell_one_new _ _ _) (fun u hu=>by simp at hu;subst hu;rfl) (by unfold maxLen;have:=LR.out;omega) (by have:=LR.out;omega) (by have:=HT.out.hi;simp;omega) ?_);intro v' w3 hown' hgrow3 hnil3 hblk))
   have HO:Hid (Tw w w3 br b0 (.slice none 0 0) v' (.slice none 0 0) [] (K1++List.replicate (j+1) 0) []):=by
    rw [List.replicate_succ',←List.append_assoc]
    refine HT.out.push (x:=0) ?_ hgrow3 hblk
    rw [yz.out,List.length_append,List.length_replicate]
    exact hown'
   obtain ⟨a3,_,c3,e3,_⟩:=HO.out.i.liesH
   rw [List.length_append,List.length_replicate] at e3
   clear hown' hgrow3 hnil3 hblk hO
   subst e3
   go_roundg (64-K1.length-(j+1))
   case measure=>have:=HK.out;have:=LR.out;omega
   case rel=>exact ⟨j+1,a3,c3,rfl,by have:=LR.out;omega,rfl,HO.out⟩
  ·have q1:¬((K1.length:Int)+(j:Int))<64:=by omega
   have ej:j=64-K1.length:=by have:=HK.out;have:=HL.out;omega
   subst ej
   have lK:(K1++List.replicate (64-K1.length) (0:BitVec 8)).length=64:=by rw [List.length_append,List.length_replicate];have:=HL.out;omega
   have e64:K1.length+(64-K1.length)=64:=by have:=HL.out;omega
   rw [e64] at HT
   have e64':(K1.length:Int)+((64-K1.length:Nat):Int)=64:=by have:=HL.out;omega
   go_wp2
   refine H0.out _ _ ?_
   clear H0 e64 e64'
   obtain ⟨K,eK⟩:∃ K,K=K1++List.replicate (64-K1.length) (0:BitVec 8):=⟨_,rfl⟩
   rw [←eK] at HT lK ⊢
   have HKK:Hid (K.length=64):=lK
   have HT2:Hid (Tw w wr br b0 (.slice a' 64 c') (.slice none 0 0) (.slice none 0 0) K (aX (K.take 0) 54) (aX (K.take 0) 92)) :=
    ⟨HT.out.B,HT.out.h,HT.out.lo,HT.out.hi,HT.out.lw,HT.out.i,HT.out.k,HT.out.o,(fun b _ e=>nomatch e),(fun b _ e=>nomatch e),(fun b e=>nomatch e)⟩
   obtain ⟨gk2,ck,ef,hck⟩:=ic HT2.out.k (by rw [lK];decide)
   have ea:a'=some ⟨gk2,0,none⟩:=by injection ef
   subst ea
   clear ef hck eK HT q1 h8
   refine wp_seq_k fun KB kk=>?_
   have H1:Hid _:=kk
   clear kk
   go_wp2
   refine H1.out _ _ ?_
   clear H1
   refine wp_seq_k fun KC kk=>?_
   have H2:Hid _:=kk
   clear kk
   go_wp2
   refine H2.out _ _ ?_
   clear H2
   refine wp_seq_k fun KD kk=>?_
   have H3:Hid _:=kk
   clear kk
   go_wp2_with fail
   go_loopg [7,8,9] 64 (fun g iv ov nv wq=>∃ i:Nat,g=64-i∧i≤64∧nv = .int .i64 i∧Tw w wq br b0 (.slice (some ⟨gk2,0,none⟩) 64 c') iv ov K (aX (K.take i) 54) (aX (K.take i) 92))
   case atStart=>exact ⟨0,rfl,by decide,rfl,HT2.out⟩
   case round =>
    clear HT2 lK
    obtain ⟨i,hk,hi,rfl,hT⟩:=hrel
    have HN:Hid (gk=64-i∧i≤64):=⟨hk,hi⟩
    have HT:Hid (Tw w wr br b0 (.slice (some ⟨gk2,0,none⟩) 64 c') u7 u8 K (aX (K.take i) 54) (aX (K.take i) 92)):=hT
    clear hk hi hT
    by_cases h9:i<64
    ·have h9':(i:Int)<64:=by omega
     have LI:Hid (i<64∧(aX (K.take i) 54).length=i∧(aX (K.take i) 92).length=i):=⟨h9,by rw [b9,List.length_take,HKK.out];omega,by rw [b9,List.length_take,HKK.out];omega⟩
     have cellK:∀ {W':World} {iv ov:Value} {I O:List (BitVec 8)},Tw w W' br b0 (.slice (some ⟨gk2,0,none⟩) 64 c') iv ov K I O→W'.cell? ⟨gk2,i,none⟩=some (.int .u8 (Y (K.getD i 0))):=fun t=>by
      have hr:=t.k.row
      rw [HKK.out] at hr
      rw [hr.cellAt i h9,byts,List.getElem?_map,List.getElem?_eq_getElem (by rw [HKK.out];exact h9),List.getD,List.getElem?_eq_getElem (by rw [HKK.out];exact h9)];rfl
     have CK:Hid (∀ {W':World} {iv ov:Value} {I O:List (BitVec 8)},Tw w W' br b0 (.slice (some ⟨gk2,0,none⟩) 64 c') iv ov K I O→W'.cell? ⟨gk2,i,none⟩=some (.int .u8 (Y (K.getD i 0)))):=cellK
     clear cellK
     have gx:=CK.out HT.out
     have M1:Hid (aX (K.take (i+1)) 54=aX (K.take i) 54++[K.getD i 0 ^^^ 54]∧aX (K.take (i+1)) 92=aX (K.take i) 92++[K.getD i 0 ^^^ 92]):=⟨nW (by rw [HKK.out];exact h9),nW (by rw [HKK.out];exact h9)⟩
     have y1:bits .xor .u8 (Y (K.getD i 0)) 54=Y (K.getD i 0 ^^^ 54):=by
      have:=wT (K.getD i 0) 54
      rw [show Y 54=54 by rw [Y_eq];rfl] at this
      exact this
     have y2:bits .xor .u8 (Y (K.getD i 0)) 92=Y (K.getD i 0 ^^^ 92):=by
      have:=wT (K.getD i 0) 92
      rw [show Y 92=92 by rw [Y_eq];rfl] at this
      exact this
     generalize K.getD i 0=x at *
     go_wp2_with first|((at_builtin;(refine wpList_append_own_at _ rfl _ _ 36 rfl b0 5 i0 (.int .u8 0) 1 1 Tryz.underlying36 HZ.out.1 HZ.out.2.1 HZ.out.2.2.1 HZ.out.2.2.2 rfl (by decide) u7 _ _ rfl (HT.out.i.row.alloc _) ⟨wr.heap.size,0,none⟩ 1 1 [.int .u8 (Y (x ^^^ 54))] rfl rfl (cell_one_new _ _ _) (fun u hu=>by simp at hu;subst hu;rfl) (by unfold maxLen;have:=LI.out;omega) (by have:=LI.out;omega) (by have:=HT.out.hi;simp;omega) ?_);intro v7 w7 hown7 hgrow7 hnil7 hblk7;(have HT7:Hid (Tw w w7 br b0 (.slice (some ⟨gk2,0,none⟩) 64 c') v7 u8 K (aX (K.take i) 54++[x ^^^ 54]) (aX (K.take i) 92)):=HT.out.push hown7 hgrow7 hblk7);(have gx7:=CK.out HT7.out);(clear hown7 hgrow7 hnil7 hblk7 gx)))|((at_builtin;(refine wpList_append_own_at _ rfl _ _ 36 rfl b0 5 i0 (.int .u8 0) 1 1 Tryz.underlying36 HZ.out.1 HZ.out.2.1 HZ.out.2.2.1 HZ.out.2.2.2 rfl (by decide) u8 _ _ rfl (HT7.out.o.row.alloc _) ⟨w7.heap.size,0,none⟩ 1 1 [.int .u8 (Y (x ^^^ 92))] rfl rfl (cell_one_new _ _ _) (fun u hu=>by simp at hu;subst hu;rfl) (by unfold maxLen;have:=LI.out;omega) (by have:=LI.out;omega) (by have:=HT7.out.hi;simp;omega) ?_);intro v8 w8 hown8 hgrow8 hnil8 hblk8;(have HT8:Hid (Tw w w8 br b0 (.slice (some ⟨gk2,0,none⟩) 64 c') v7 v8 K (aX (K.take i) 54++[x ^^^ 54]) (aX (K.take i) 92++[x ^^^ 92])):=(HT7.out.swap.push hown8 hgrow8 hblk8).swap);(clear hown8 hgrow8 hnil8 hblk8 gx7)))
     go_roundg (64-(i+1))
     case measure=>have:=HN.out;have:=LI.out;omega
     case rel=>exact ⟨i+1,rfl,LI.out.1,by go_num,by rw [M1.out.1,M1.out.2];exact HT8.out⟩
    ·have h9':¬(i:Int)<64:=by omega
     obtain rfl:i=64:=by have:=HN.out;omega
     have eT:Hid (K.take 64=K):=by rw [←HKK.out];exact List.take_length
     rw [eT.out] at HT
     have lI:(aX K 54).length=64:=by rw [b9,HKK.out]
     have lO:(aX K 92).length=64:=by rw [b9,HKK.out]
     obtain ⟨gi,ci,rfl,hci⟩:=ic HT.out.i (by rw [lI];decide)
     obtain ⟨go,co,rfl,hco⟩:=ic HT.out.o (by rw [lO];decide)
     obtain ⟨ai,gi',ci',ei,_,yi,_⟩:=HT.out.i.liesH
     obtain ⟨ao,go',co',eo,_,yo,_⟩:=HT.out.o.liesH
     have egi:gi=gi':=by
      rcases ‹At ai gi' 0 (aX K 54)› with h|h
      ·rw [h] at lI;cases lI
      ·rw [h] at ei;injection ei with e1;injection e1 with e1;injection e1
     have ego:go=go':=by
      rcases ‹At ao go' 0 (aX K 92)› with h|h
      ·rw [h] at lO;cases lO
      ·rw [h] at eo;injection eo with e1;injection e1 with e1;injection e1
     subst egi ego
     have HE:Hid (Byo wr gi 0 (aX K 54)∧64≤ci∧Byo wr go 0 (aX K 92)∧64≤co∧(aX K 54).length=64∧(aX K 92).length=64):=⟨yi,by omega,yo,by omega,lI,lO⟩
     rw [lI,lO]
     clear yi yo ei eo hci hco lI lO h9 h9'
     go_wp2
     refine H3.out _ _ ?_
     clear H3
     exact (uz HA.out.1 HA.out.2.1 HA.out.2.2.1 w _ HA.out.2.2.2.1 HT.out.B HT.out.h HA.out.2.2.2.2 HE.out.1 HE.out.2.2.2.2.1 HE.out.2.1 HE.out.2.2.1 HE.out.2.2.2.2.2 HE.out.2.2.2.1 _ _ _ _ _ _ _ _ _ _ _ _ _ _ _ _ _ _ _ _ _ _ _ _ _ _ _ _ _ _ _ _ _ _ _ _ _ _ _ _ _ _ _ _ _ _ _ _ _ _ _ _ _ _ _ _ _).out rfl
open Go.RowKit Go.Sort
theorem rhmac_any {ka a:Option Addr} {kb ko kc bp op cp:Nat} {X:List (BitVec 8)} {PS:List Part} (hl:X.length<1073740000) (hc:X.length≤kc) (hka:At ka kb ko X) (hs:(catX PS).length<1073730000) (hn:PS.length≤1073730000) (ha:PS=[]∨a=some ⟨bp,op,none⟩) (w:World) (hX:Byo w kb ko X) (hP:Prts w bp op PS) :
  Calls Tryz.prog 112 #[.slice ka X.length kc,.slice a PS.length cp] w fun e w'=>e = .returned (.agg (byts (hmacL X (catX PS))).toArray)∧Below w.heap.size w w':=by
 have PK:Hid (∀ W,Below w.heap.size w W→Prts W bp op PS):=fun W B i hi=>by
  obtain ⟨h1,h2,h3,h4⟩:=hP i hi
  exact ⟨by rw [B.cell (p:=⟨bp,op+i,none⟩) (World.block_lt_of_cell? w _ h1)];exact h1,h2,h3,fun j hj=>by rw [B.cell (World.block_lt_of_cell? w _ (h4 j hj))];exact h4 j hj⟩
 have HA:Hid ((catX PS).length<1073730000∧PS.length≤1073730000∧(PS=[]∨a=some ⟨bp,op,none⟩)):=⟨hs,hn,ha⟩
 have HX:Hid (X.length<1073740000∧X.length≤kc∧At ka kb ko X∧Byo w kb ko X):=⟨hl,hc,hka,hX⟩
 clear hl hc hka hs hn ha hX hP
 unfold hmacL
 go_enter Tryz.func112,Tryz.ntmps112
 refine wp_seq_k fun K0 kk=>?_
 have H0:Hid _:=kk
 clear kk
 go_wp2
 refine H0.out _ _ ?_
 clear H0
 refine af (fun W=>Below w.heap.size w W∧Hsh W w.heap.size (List.replicate 32 0)∧w.heap.size<W.heap.size) ⟨(Below.refl _ _).alloc (Nat.le_refl _) _,Hsh.zeros _ rfl,by simp⟩ ?_
 rintro W hW
 have HW:Hid (Below w.heap.size w W∧Hsh W w.heap.size (List.replicate 32 0)∧w.heap.size<W.heap.size):=hW
 clear hW
 obtain ⟨br,ebr⟩:∃ b,b=w.heap.size:=⟨_,rfl⟩
 have HB:Hid (br=w.heap.size):=ebr
 rw [←ebr]
 clear ebr
 refine wp_seq_k fun K1 kk=>?_
 have H1:Hid _:=kk
 clear kk
 go_wp2_with fail
 have hP1:∀ z,z=Obj.cells #[.slice ka X.length kc] 36→Prts (W.alloc z) W.heap.size 0 [⟨ka,kb,ko,kc,X⟩]:=fun z hz i hi=>by
  subst hz
  obtain rfl:i=0:=by simpa using hi
  exact ⟨by rw [Nat.zero_add,World.cell?_alloc_mark];rfl,HX.out.2.2.1,HX.out.2.1,(HX.out.2.2.2.keep HW.out.1).keep ((Below.refl _ _).alloc (Nat.le_refl _) _)⟩
 have B1:∀ z,Below W.heap.size W (W.alloc z):=fun z=>(Below.refl _ _).alloc (Nat.le_refl _) _
 have hj:=dG (PS:=[⟨ka,kb,ko,kc,X⟩]) (a:=some ⟨W.heap.size,0,none⟩) (bp:=W.heap.size) (op:=0) (cp:=1) (by simp [catX];have:=HX.out.1;omega) (by show 1≤_;omega) (.inr rfl) _ (hP1 _ rfl)
 refine hj.mono ?_
 clear hj
 rintro e w1 ⟨v,rfl,ho,hb⟩
 have ec:catX [⟨ka,kb,ko,kc,X⟩]=X:=by simp [catX]
 rw [ec] at ho
 have hb1:Below W.heap.size W w1:=(B1 _).trans (hb.mono (by simp))
 have ho1:=ho.baseH (B':=W.heap.size) (by simp)
 obtain ⟨a1,g1,c1,rfl,z1,y1,l1⟩:=ho1.liesH
 have S1:Hid (Below w.heap.size w w1∧Hsh w1 w.heap.size (List.replicate 32 0)∧Own W.heap.size w1 (.slice a1 X.length c1) X∧W.heap.size≤w1.heap.size∧At a1 g1 0 X∧Byo w1 g1 0 X∧X.length≤c1):=⟨HW.out.1.trans (hb1.mono HW.out.1.size),HW.out.2.1.keep hb1,ho1,hb1.size,z1,y1,l1⟩
 clear hb ho hb1 ho1 z1 y1 l1 ec hP1 B1
 have xl:(X.length:Int)<1073740000:=by have:=HX.out.1;omega
 go_wp2
 refine H1.out _ _ ?_
 clear H1
 refine wp_seq_k fun K2 kk=>?_
 have H2:Hid _:=kk
 clear kk
 by_cases h64:64<X.length
 ·have q1:(64:Int)<(X.length:Int):=by omega
  have HK:Hid (ii X=bP X++List.replicate (64-(bP X).length) 0∧(bP X).length≤64):=⟨by rw [ii,if_pos h64,shaL_len],by rw [shaL_len];decide⟩
  clear h64
  have hd:=mD (a:=a1) (bd:=g1) (od:=0) (cd:=c1) (X:=X) HX.out.1 S1.out.2.2.2.2.2.2 S1.out.2.2.2.2.1 w1 S1.out.2.2.2.2.2.1
  go_wp2_with fail
  with_reducible refine hd.mono ?_
  clear hd
  rintro e w2 ⟨rfl,hb⟩
  have lN:(byts (bP X)).length=32:=by rw [byts_len,shaL_len]
  have oc:=one_byts (bP X)
  obtain ⟨N,eN⟩:∃ N,N=byts (bP X):=⟨_,rfl⟩
  rw [←eN] at lN oc ⊢
  have LN:Hid (N.length=32∧N=byts (bP X)):=⟨lN,eN⟩
  clear eN lN
  have il3:(Tryz.prog.info? 26).map (·.size)=some N.toArray.size:=by rw [List.size_toArray,LN.out.1];kernel_rfl
  have il:(Tryz.prog.info? 26).map (·.size)=some N.length:=by rw [LN.out.1];kernel_rfl
  have th:=fun t=>mE (W:=w2) (t:=t) LN.out.1
  have F3:∀ t,Hid ((Below w.heap.size w ((w2.alloc (.cells #[.int .u8 0,.int .u8 0,.int .u8 0,.int .u8 0,.int .u8 0,.int .u8 0,.int .u8 0,.int .u8 0,.int .u8 0,.int .u8 0,.int .u8 0,.int .u8 0,.int .u8 0,.int .u8 0,.int .u8 0,.int .u8 0,.int .u8 0,.int .u8 0,.int .u8 0,.int .u8 0,.int .u8 0,.int .u8 0,.int .u8 0,.int .u8 0,.int .u8 0,.int .u8 0,.int .u8 0,.int .u8 0,.int .u8 0,.int .u8 0,.int .u8 0,.int .u8 0] t)).setCells w2.heap.size 0 N)∧Hsh ((w2.alloc (.cells #[.int .u8 0,.int .u8 0,.int .u8 0,.int .u8 0,.int .u8 0,.int .u8 0,.int .u8 0,.int .u8 0,.int .u8 0,.int .u8 0,.int .u8 0,.int .u8 0,.int .u8 0,.int .u8 0,.int .u8 0,.int .u8 0,.int .u8 0,.int .u8 0,.int .u8 0,.int .u8 0,.int .u8 0,.int .u8 0,.int .u8 0,.int .u8 0,.int .u8 0,.int .u8 0,.int .u8 0,.int .u8 0,.int .u8 0,.int .u8 0,.int .u8 0,.int .u8 0] t)).setCells w2.heap.size 0 N) w.heap.size (List.replicate 32 0)∧w1.heap.size≤((w2.alloc (.cells #[.int .u8 0,.int .u8 0,.int .u8 0,.int .u8 0,.int .u8 0,.int .u8 0,.int .u8 0,.int .u8 0,.int .u8 0,.int .u8 0,.int .u8 0,.int .u8 0,.int .u8 0,.int .u8 0,.int .u8 0,.int .u8 0,.int .u8 0,.int .u8 0,.int .u8 0,.int .u8 0,.int .u8 0,.int .u8 0,.int .u8 0,.int .u8 0,.int .u8 0,.int .u8 0,.int .u8 0,.int .u8 0,.int .u8 0,.int .u8 0,.int .u8 0,.int .u8 0] t)).setCells w2.heap.size 0 N).heap.size)∧((w2.alloc (.cells #[.int .u8 0,.int .u8 0,.int .u8 0,.int .u8 0,.int .u8 0,.int .u8 0,.int .u8 0,.int .u8 0,.int .u8 0,.int .u8 0,.int .u8 0,.int .u8 0,.int .u8 0,.int .u8 0,.int .u8 0,.int .u8 0,.int .u8 0,.int .u8 0,.int .u8 0,.int .u8 0,.int .u8 0,.int .u8 0,.int .u8 0,.int .u8 0,.int .u8 0,.int .u8 0,.int .u8 0,.int .u8 0,.int .u8 0,.int .u8 0,.int .u8 0,.int .u8 0] t)).setCells w2.heap.size 0 N).rangeAt w2.heap.size 0 N):=fun t=>by
   obtain ⟨h1,h2⟩:=qo (W:=w2) (t:=t) LN.out.1
   have h3:Below w1.heap.size w1 ((w2.alloc (.cells #[.int .u8 0,.int .u8 0,.int .u8 0,.int .u8 0,.int .u8 0,.int .u8 0,.int .u8 0,.int .u8 0,.int .u8 0,.int .u8 0,.int .u8 0,.int .u8 0,.int .u8 0,.int .u8 0,.int .u8 0,.int .u8 0,.int .u8 0,.int .u8 0,.int .u8 0,.int .u8 0,.int .u8 0,.int .u8 0,.int .u8 0,.int .u8 0,.int .u8 0,.int .u8 0,.int .u8 0,.int .u8 0,.int .u8 0,.int .u8 0,.int .u8 0,.int .u8 0] t)).setCells w2.heap.size 0 N):=hb.trans (h1.mono hb.size)
   exact ⟨⟨S1.out.1.trans (h3.mono S1.out.1.size),S1.out.2.1.keep h3,h3.size⟩,h2⟩
  clear hb
  go_wp2_with (first|((with_reducible refine an (ty:=26) w2.heap.size 0 N.toArray (th _) il3 oc ?_ ?_ ?_);rfl;rfl;refine aA (fun W=>(Below w.heap.size w W∧Hsh W w.heap.size (List.replicate 32 0)∧w1.heap.size≤W.heap.size)∧W.rangeAt w2.heap.size 0 N) (F3 _).out ?_;clear F3 th;rintro W3 hW;(have rb:=hW.2))|((with_reducible refine aH (ty:=26) w2.heap.size 0 N _ rb Tryz.underlying26 ?_ il ?_ ?_);rfl;rfl;simp only [Act.put,List.setIfInBounds_toArray,List.set_cons_succ,List.set_cons_zero]))
  have hbo:Hid (∀ w,Calls Tryz.prog 145 #[.agg N.toArray] w fun e w'=>∃ v,e = .returned v∧Own w.heap.size w' v (bP X)∧Below w.heap.size w w'):=fun w=>by
   rw [LN.out.2];exact jF (shaL_len X) w
  with_reducible refine (hbo.out W3).mono ?_
  clear hbo
  rintro e w4 ⟨v4,rfl,ho,hb⟩
  have HT:Hid (Tw w w4 br W.heap.size (.slice none 0 0) v4 (.slice none 0 0) [] (bP X) []):=by
   rw [HB.out]
   have h1:=hW.1.2.2
   have h2:=S1.out.2.2.2.1
   have h3:=hb.size
   exact ⟨hW.1.1.trans (hb.mono hW.1.1.size),hW.1.2.1.keep hb,HW.out.2.2,by omega,HW.out.1.size,own_nil,ho.baseH (by omega),own_nil,(fun b e=>nomatch e),(fun b e=>nomatch e),(fun b _ e=>nomatch e)⟩
  clear ho hb rb hW il il3 oc LN
  go_wp2
  refine H2.out _ _ ?_
  clear H2
  rw [HB.out] at HT ⊢
  have hm:=@nZ a bp op cp w.heap.size W.heap.size PS (bP X) v4 HA.out.1 HA.out.2.1 HA.out.2.2 w w4 PK.out (Nat.le_refl _) HT.out HK.out.2
  rw [←HK.out.1] at hm
  exact (hm _ _ _ _ _ _ _ _ _ _ _ _ _ _ _ _ _ _ _ _ _ _ _ _ _ _ _ _ _ _ _ _ _ _ _ _ _ _ _ _ _ _ _ _ _ _ _ _ _ _ _ _ _ _ _ _ _ _).out rfl
 ·have q1:¬(64:Int)<(X.length:Int):=by omega
  have HK:Hid (ii X=X++List.replicate (64-X.length) 0∧X.length≤64):=⟨by rw [ii,if_neg h64],by omega⟩
  clear h64
  have HT:Hid (Tw w w1 br W.heap.size (.slice none 0 0) (.slice a1 X.length c1) (.slice none 0 0) [] X []):=by
   rw [HB.out]
   exact ⟨S1.out.1,S1.out.2.1,HW.out.2.2,S1.out.2.2.2.1,HW.out.1.size,own_nil,S1.out.2.2.1,own_nil,(fun b e=>nomatch e),(fun b e=>nomatch e),(fun b _ e=>nomatch e)⟩
  go_wp2
  refine H2.out _ _ ?_
  clear H2
  rw [HB.out] at HT ⊢
  have hm:=@nZ a bp op cp w.heap.size W.heap.size PS X (.slice a1 X.length c1) HA.out.1 HA.out.2.1 HA.out.2.2 w w1 PK.out (Nat.le_refl _) HT.out HK.out.2
  rw [←HK.out.1] at hm
  exact (hm _ _ _ _ _ _ _ _ _ _ _ _ _ _ _ _ _ _ _ _ _ _ _ _ _ _ _ _ _ _ _ _ _ _ _ _ _ _ _ _ _ _ _ _ _ _ _ _ _ _ _ _ _ _ _ _ _ _).out rfl
end Go.Proofs.YtnnnaajgjniiaaaGreatDoor.S
