import Derived.Test.YtnnnaajgjniiaaaGreatDoorSRProd
import Derived.Laws.OwnMore
import Derived.Test.YtnnnaajgjniiaaaGreatDoorSComp
set_option maxRecDepth 100000
set_option maxHeartbeats 4000000
namespace Go.Proofs.YtnnnaajgjniiaaaGreatDoor.S
open Go.RowKit Go.Sort
def prB (n:Nat):Bool:=(List.range n).all fun d=>decide (d<2)||decide (n<d*d)||decide (n%d≠0)
def prs:List Nat:=[2,3,5,7,11,13,17,19,23,29,31,37,41,43,47,53,59,61,67,71,73,79,83,89,97,101,103,107,109,113,127,131,137,139,149,151,157,163,167,173,179,181,191,193,197,199,211,223,227,229,233,239,241,251,257,263,269,271,277,281,283,293,307,311]
def dr (n:Nat):Nat:=(prs.filter fun p=>decide (p<n)).length
def rt3:List Int:=[5411319704,6194414737,7344290767,8215976869,9551921755,10098905585,11043570340,11460697813,12214315672,13195500289,13492127166,14311783875,14809980276,15046980094,15499789991,16133124468,16720292289,16907126662,17444216262,17784676812,17950125167,18429019306,18734950876,19175934170,19734090066,20001703533,20132865992,20390182855,20516441075,20764397895,21588763473,21813078375,22141143685,22248366392,22769593852,22871018771,23170020180,23461497531,23651862830,23931792517,24205322401,24295138891,24734567280,24820601251,24990902297,25075189284,25569408389,26045227120,26200031510,26276752392,26428864332,26653801653,26727943347,27092625994,27306805839,27517677555,27725365998,27793908591,27997534228,28131656200,28198240250,28526537963,28973835255,29099129074]
def rt2:List Int:=[6074000999,7439101573,9603838834,11363415354,14244795007,15485724812,17708603819,18721328409]
theorem qj:∀ n:Fin 312,2≤n.val→(prB n.val=true→prs.getD (dr n.val) 0=n.val∧dr (n.val+1)=dr n.val+1)∧(prB n.val=false→dr (n.val+1)=dr n.val):=by decide +kernel
theorem nR:dr 2=0:=by decide +kernel
theorem sG:dr 312=64:=by decide +kernel
theorem Am:∀ j:Fin 64,0≤rt3.getD j.val 0∧rt3.getD j.val 0 ^ 3≤(prs.getD j.val 0:Int)*4294967296 ^ 3∧(prs.getD j.val 0:Int)*4294967296 ^ 3<(rt3.getD j.val 0+1) ^ 3∧rt3.getD j.val 0%4294967296=((kN.getD j.val 0).toNat:Int):=by decide +kernel
theorem An:∀ j:Fin 8,0≤rt2.getD j.val 0∧rt2.getD j.val 0 ^ 2≤(prs.getD j.val 0:Int)*4294967296 ^ 2∧(prs.getD j.val 0:Int)*4294967296 ^ 2<(rt2.getD j.val 0+1) ^ 2∧rt2.getD j.val 0%4294967296=((hN.getD j.val 0).toNat:Int):=by decide +kernel
theorem Ao {j:Nat} (hj:j<64) {n r:Int} (e:n=(prs.getD j 0:Int)) (h:fG 3 n r):r%4294967296=U (kN.getD j 0):=by
 obtain ⟨a,b,c,f⟩:=Am ⟨j,hj⟩
 subst e
 rw [h.unique (.inr rfl) ⟨a,b,c⟩,dF];exact f
theorem Ap {j:Nat} (hj:j<8) {n r:Int} (e:n=(prs.getD j 0:Int)) (h:fG 2 n r):r%4294967296=U (hN.getD j 0):=by
 obtain ⟨a,b,c,f⟩:=An ⟨j,hj⟩
 subst e
 rw [h.unique (.inl rfl) ⟨a,b,c⟩,dF];exact f
theorem yX {n d:Nat} (h:n<d*d) (hi:∀ t,2≤t→t<d→n%t≠0):prB n=true:=by
 unfold prB
 apply List.all_eq_true.2
 intro t ht
 by_cases c:t<2
 ·simp [c]
 ·by_cases c2:t<d
  ·have:=hi t (by omega) c2
   simp [this]
  ·have:d*d≤t*t:=Nat.mul_le_mul (by omega) (by omega)
   have:n<t*t:=by omega
   simp [this]
theorem Aq {n d:Nat} (h2:2≤d) (h:d*d≤n) (hd:n%d=0):prB n=false:=by
 apply Bool.eq_false_iff.2
 intro ht
 unfold prB at ht
 have hlt:d<n:=by
  have:d*2≤d*d:=Nat.mul_le_mul (Nat.le_refl _) h2
  omega
 have:=List.all_eq_true.1 ht d (List.mem_range.2 hlt)
 simp only [Bool.or_eq_true,decide_eq_true_eq] at this
 omega
theorem nT {n:Nat} (n2:2≤n) (n1:n<1000) (w:World) :
  Calls Tryz.prog 192 #[.int .i64 (n:Int)] w fun e w'=>e = .returned (.bool (prB n))∧Below w.heap.size w w':=by
 have NN:Hid (2≤n):=n2
 have n1':(n:Int)<1000:=by omega
 obtain ⟨r,er⟩:∃ r,r=prB n:=⟨_,rfl⟩
 have ER:Hid (r=prB n):=er
 rw [←er]
 clear er n2
 go_enter Tryz.func192,Tryz.ntmps192
 go_wp2_with fail
 go_loopg [3] n (fun k dv wr=>∃ d:Nat,k=n+2-d∧2≤d∧d≤n∧dv = .int .i64 (d:Int)∧(∀ t,2≤t→t<d→n%t≠0)∧Below w.heap.size w wr)
 case atStart=>exact ⟨2,by omega,by decide,NN.out,rfl,fun t h1 h2=>by omega,Below.refl _ _⟩
 case round =>
  obtain ⟨d,hk,d2,dn,rfl,ev,B⟩:=hrel
  have EV:Hid (∀ t,2≤t→t<d→n%t≠0):=ev
  have HK:Hid (gk=n+2-d):=hk
  have D2:Hid (2≤d):=d2
  have q0:(0:Int)≤(d:Int)*(d:Int):=Int.mul_nonneg (by omega) (by omega)
  have q1:(d:Int)*(d:Int)≤1000000:=Int.le_trans (Int.mul_le_mul (show (d:Int)≤1000 by omega) (show (d:Int)≤1000 by omega) (by omega) (by decide)) (by decide)
  have qq:(d:Int)*(d:Int)=((d*d:Nat):Int):=by simp
  have dz:(d:Int)≠0:=by omega
  clear ev hk
  by_cases c:d*d≤n
  ·have c':(d:Int)*(d:Int)≤(n:Int):=by rw [qq];omega
   have dl:d<n:=by
    have:d*2≤d*d:=Nat.mul_le_mul (Nat.le_refl _) d2
    omega
   by_cases m:n%d=0
   ·have rf:r=false:=by rw [ER.out];exact Aq D2.out c m
    have RF:Hid (r=false):=rf
    have mz:(n:Int)%(d:Int)=0:=by omega
    clear c m qq rf dl
    go_wp2
    simp [bodyPost,results,Tryz.results192,go_sem]
    exact ⟨RF.out,B⟩
   ·have mz:(n:Int)%(d:Int)≠0:=by omega
    have EN:Hid (∀ t,2≤t→t<d+1→n%t≠0):=fun t h1 h2=>by
     by_cases e:t=d
     ·rw [e];exact m
     ·exact EV.out t h1 (by omega)
    have DL:Hid (d<n):=dl
    clear c m qq dl
    go_wp2
    go_roundg (n+2-(d+1))
    case measure=>have:=HK.out;have:=DL.out;omega
    case rel=>exact ⟨d+1,rfl,by omega,by have:=DL.out;omega,by go_num,EN.out,B⟩
  ·have c':¬(d:Int)*(d:Int)≤(n:Int):=by rw [qq];omega
   have rf:r=true:=by rw [ER.out];exact yX (by omega) EV.out
   have RF:Hid (r=true):=rf
   clear c qq rf
   go_wp2
   simp [bodyPost,results,Tryz.results192,go_sem]
   exact ⟨RF.out,B⟩
theorem iJ:(Tryz.prog.info? 119).map (fun i=>(i.zero,i.size,i.bytes))=some (some (.int .u32 0),1,4):=by kernel_rfl
theorem eX {P:Program} {e:TypeId} {z:Value} {s b:Nat} (h:(P.info? e).map (fun i=>(i.zero,i.size,i.bytes))=some (some z,s,b)):∃ i,P.info? e=some i∧i.zero=some z∧i.size=s∧i.bytes=b:=by
 cases hi:P.info? e with
 | none=>rw [hi] at h;cases h
 | some i =>
  rw [hi] at h
  simp only [Option.map_some,Option.some.injEq,Prod.mk.injEq] at h
  exact ⟨i,rfl,h.1,h.2.1,h.2.2⟩
def OwW (B:Nat) (W:World) (v:Value) (L:List (BitVec 32)):Prop:=W.ownsRow B 119 1 v L.length (aE L)
theorem OwW.nil {B:Nat} {W:World}:OwW B W (.slice none 0 0) []:=⟨by simp [aE],.inl ⟨rfl,by simp⟩⟩
theorem ks {W W':World} (h:Below W.heap.size W W') (row:Option Nat):W.grownBy W' row:=⟨h.os,h.tape,h.output,h.size,fun k hk _=>h.block k hk⟩
theorem OwW.keep {B:Nat} {W W':World} {v:Value} {L:List (BitVec 32)} (h:OwW B W v L) (hb:Below W.heap.size W W'):OwW B W' v L :=
 World.ownsRow.kept h (ks hb Option.none) (by cases v.ownBlock<;>simp)
theorem fq (X:List (BitVec 32)) (x:BitVec 32):aE X++[.int .u32 (U x)]=aE (X++[x]):=by simp [aE]
theorem OwW.form {B:Nat} {W:World} {v:Value} {L:List (BitVec 32)} (h:OwW B W v L):∃ a c,v = .slice a L.length c:=by
 rcases h.2 with ⟨e,hx⟩|⟨g,cap,cur,e,_⟩
 ·exact ⟨none,0,by rw [e,hx]⟩
 ·exact ⟨_,cap,e⟩
theorem fK {L:List (BitVec 32)} {j:Nat} (h:j<L.length):L.take (j+1)=L.take j++[L.getD j 0]:=by
 rw [List.take_add_one,List.getElem?_eq_getElem h,List.getD,List.getElem?_eq_getElem h];rfl
theorem yY (w:World) :
  Calls Tryz.prog 176 #[.int .i64 64,.int .i64 3] w fun e w'=>(∃ v,e = .returned v∧OwW w.heap.size w' v kN)∧Below w.heap.size w w':=by
 obtain ⟨i0,hi,hz0,hz1,hz2⟩:=eX iJ
 go_enter Tryz.func176,Tryz.ntmps176
 go_wp2_with fail
 go_loopg [5,6] 310 (fun k lv nv wr=>∃ (n:Nat) (a:Option Addr) (c:Nat),k=312-n∧2≤n∧n≤312∧nv = .int .i64 (n:Int)∧dr n≤64∧lv = .slice a (dr n) c∧OwW w.heap.size wr lv (kN.take (dr n))∧Below w.heap.size w wr)
 case atStart=>exact ⟨2,none,0,rfl,by decide,by decide,rfl,by rw [nR];decide,by rw [nR],by rw [nR];exact OwW.nil,Below.refl _ _⟩
 case round =>
  obtain ⟨n,a,c,hk,n2,n3,rfl,hj,rfl,hown,B⟩:=hrel
  have HK:Hid (gk=312-n):=hk
  have HF:Hid (OwW w.heap.size wr (.slice a (dr n) c) (kN.take (dr n))∧Below w.heap.size w wr):=⟨hown,B⟩
  have N2:Hid (2≤n∧n≤312):=⟨n2,n3⟩
  clear hk hown B n2 n3
  obtain ⟨j,ej⟩:∃ j,j=dr n:=⟨_,rfl⟩
  have EJ:Hid (j=dr n):=ej
  rw [←ej] at hj HF ⊢
  clear ej
  by_cases h8:j=64
  ·subst h8
   have HR:Hid (kN.take 64=kN):=rfl
   go_wp2
   go_ret
   exact ⟨⟨_,rfl,by have h:=HF.out.1;rw [HR.out] at h;exact h⟩,HF.out.2⟩
  ·have hlt:j<64:=by omega
   have hlt':(j:Int)<64:=by omega
   have nlt:n<312:=by
    by_cases c:n=312
    ·exfalso
     have h1:=EJ.out
     rw [c,sG] at h1
     omega
    ·have:=N2.out;omega
   have T:=qj ⟨n,nlt⟩ N2.out.1
   have NL:Hid (n<312):=nlt
   have nI:(n:Int)<312:=by omega
   have TT:Hid ((prB n=true→prs.getD j 0=n∧dr (n+1)=j+1)∧(prB n=false→dr (n+1)=j)):=by rw [EJ.out];exact T
   clear T nlt
   go_wp2_with fail
   refine (nT N2.out.1 (by have:=N2.out;omega) _).mono ?_
   cases hp:prB n with
   | false =>
    have CN:Hid (dr (n+1)=j):=TT.out.2 hp
    clear hp
    rintro e w1 ⟨rfl,hb⟩
    have HG:Hid (OwW w.heap.size w1 (.slice a j c) (kN.take j)∧Below w.heap.size w w1):=⟨HF.out.1.keep hb,HF.out.2.trans (hb.mono HF.out.2.size)⟩
    clear hb
    go_wp2
    go_roundg (312-(n+1))
    case measure=>have:=HK.out;have:=NL.out;omega
    case rel=>exact ⟨n+1,a,c,rfl,by have:=N2.out;omega,by have:=NL.out;omega,by go_num,by rw [CN.out];omega,by rw [CN.out],by rw [CN.out];exact HG.out.1,HG.out.2⟩
   | true =>
    obtain ⟨pn,cn⟩:=TT.out.1 hp
    have CN:Hid (dr (n+1)=j+1∧prs.getD j 0=n):=⟨cn,pn⟩
    clear hp cn pn
    rintro e w1 ⟨rfl,hb⟩
    have HG:Hid (OwW w.heap.size w1 (.slice a j c) (kN.take j)∧Below w.heap.size w w1):=⟨HF.out.1.keep hb,HF.out.2.trans (hb.mono HF.out.2.size)⟩
    clear hb HF
    go_wp2_with fail
    refine (Al (n:=(n:Int)) (by omega) (by have:=NL.out;omega) _).mono ?_
    rintro e w2 ⟨⟨r,rfl,hr⟩,hb⟩
    have er:r%4294967296=U (kN.getD j 0):=Ao hlt (by rw [CN.out.2]) hr
    rw [er]
    have HJ:Hid (OwW w.heap.size w2 (.slice a j c) (kN.take j)∧Below w.heap.size w w2):=⟨HG.out.1.keep hb,HG.out.2.trans (hb.mono HG.out.2.size)⟩
    have NX:Hid (kN.take (j+1)=kN.take j++[kN.getD j 0]):=fK (by show j<64;exact hlt)
    have LR:Hid ((kN.take j).length=j∧j<64):=⟨by rw [List.length_take];show min j 64=j;omega,hlt⟩
    generalize kN.getD j 0=x at *
    obtain ⟨v,ev⟩:∃ v,v=Value.slice a j c:=⟨_,rfl⟩
    clear hb er hr HG w1
    rw [←ev] at HJ
    rw [←ev]
    clear ev
    go_wp2_with ((at_builtin;go_loud (refine wpList_append_own_at _ rfl _ _ 179 rfl w.heap.size 119 i0 (.int .u32 0) 1 4 Tryz.underlying179 hi hz0 hz1 hz2 rfl (by decide) v _ _ rfl (World.ownsRow.alloc HJ.out.1 _) ⟨w2.heap.size,0,none⟩ 1 1 [.int .u32 (U x)] rfl rfl (cell_one_new _ _ _) (fun u hu=>by simp at hu;subst hu;rfl) (by unfold maxLen;have:=LR.out;omega) (by have:=LR.out;omega) (by have:=HJ.out.2.size;simp;omega) ?_);intro v' w3 hown' hgrow3 hnil3 hblk))
    have HO:Hid (OwW w.heap.size w3 v' (kN.take (j+1))∧Below w.heap.size w w3):=by
     refine ⟨?_,?_⟩
     ·rw [NX.out,OwW,List.length_append,←fq]
      exact hown'
     ·exact (HJ.out.2.alloc HJ.out.2.size _).grown hgrow3 (by have:=HJ.out.2.size;simp;omega) (fun k hk=>(World.ownsRow.lt HJ.out.1 k hk).1)
    clear hown' hgrow3 hnil3 hblk
    obtain ⟨a',c',rfl⟩:=HO.out.1.form
    have lt:(kN.take (j+1)).length=j+1:=by rw [List.length_take];show min (j+1) 64=j+1;omega
    rw [lt] at HO
    rw [lt]
    clear lt
    go_wp2
    go_roundg (312-(n+1))
    case measure=>have:=HK.out;have:=NL.out;omega
    case rel=>exact ⟨n+1,a',c',rfl,by have:=N2.out;omega,by have:=NL.out;omega,by go_num,by rw [CN.out.1];omega,by rw [CN.out.1],by rw [CN.out.1];exact HO.out.1,HO.out.2⟩
theorem yZ (w:World) :
  Calls Tryz.prog 176 #[.int .i64 8,.int .i64 2] w fun e w'=>(∃ v,e = .returned v∧OwW w.heap.size w' v hN)∧Below w.heap.size w w':=by
 obtain ⟨i0,hi,hz0,hz1,hz2⟩:=eX iJ
 go_enter Tryz.func176,Tryz.ntmps176
 go_wp2_with fail
 go_loopg [5,6] 310 (fun k lv nv wr=>∃ (n:Nat) (a:Option Addr) (c:Nat),k=312-n∧2≤n∧n≤312∧nv = .int .i64 (n:Int)∧dr n≤8∧lv = .slice a (dr n) c∧OwW w.heap.size wr lv (hN.take (dr n))∧Below w.heap.size w wr)
 case atStart=>exact ⟨2,none,0,rfl,by decide,by decide,rfl,by rw [nR];decide,by rw [nR],by rw [nR];exact OwW.nil,Below.refl _ _⟩
 case round =>
  obtain ⟨n,a,c,hk,n2,n3,rfl,hj,rfl,hown,B⟩:=hrel
  have HK:Hid (gk=312-n):=hk
  have HF:Hid (OwW w.heap.size wr (.slice a (dr n) c) (hN.take (dr n))∧Below w.heap.size w wr):=⟨hown,B⟩
  have N2:Hid (2≤n∧n≤312):=⟨n2,n3⟩
  clear hk hown B n2 n3
  obtain ⟨j,ej⟩:∃ j,j=dr n:=⟨_,rfl⟩
  have EJ:Hid (j=dr n):=ej
  rw [←ej] at hj HF ⊢
  clear ej
  by_cases h8:j=8
  ·subst h8
   have HR:Hid (hN.take 8=hN):=rfl
   go_wp2
   go_ret
   exact ⟨⟨_,rfl,by have h:=HF.out.1;rw [HR.out] at h;exact h⟩,HF.out.2⟩
  ·have hlt:j<8:=by omega
   have hlt':(j:Int)<8:=by omega
   have nlt:n<312:=by
    by_cases c:n=312
    ·exfalso
     have h1:=EJ.out
     rw [c,sG] at h1
     omega
    ·have:=N2.out;omega
   have T:=qj ⟨n,nlt⟩ N2.out.1
   have NL:Hid (n<312):=nlt
   have nI:(n:Int)<312:=by omega
   have TT:Hid ((prB n=true→prs.getD j 0=n∧dr (n+1)=j+1)∧(prB n=false→dr (n+1)=j)):=by rw [EJ.out];exact T
   clear T nlt
   go_wp2_with fail
   refine (nT N2.out.1 (by have:=N2.out;omega) _).mono ?_
   cases hp:prB n with
   | false =>
    have CN:Hid (dr (n+1)=j):=TT.out.2 hp
    clear hp
    rintro e w1 ⟨rfl,hb⟩
    have HG:Hid (OwW w.heap.size w1 (.slice a j c) (hN.take j)∧Below w.heap.size w w1):=⟨HF.out.1.keep hb,HF.out.2.trans (hb.mono HF.out.2.size)⟩
    clear hb
    go_wp2
    go_roundg (312-(n+1))
    case measure=>have:=HK.out;have:=NL.out;omega
    case rel=>exact ⟨n+1,a,c,rfl,by have:=N2.out;omega,by have:=NL.out;omega,by go_num,by rw [CN.out];omega,by rw [CN.out],by rw [CN.out];exact HG.out.1,HG.out.2⟩
   | true =>
    obtain ⟨pn,cn⟩:=TT.out.1 hp
    have CN:Hid (dr (n+1)=j+1∧prs.getD j 0=n):=⟨cn,pn⟩
    clear hp cn pn
    rintro e w1 ⟨rfl,hb⟩
    have HG:Hid (OwW w.heap.size w1 (.slice a j c) (hN.take j)∧Below w.heap.size w w1):=⟨HF.out.1.keep hb,HF.out.2.trans (hb.mono HF.out.2.size)⟩
    clear hb HF
    go_wp2_with fail
    refine (Ak (n:=(n:Int)) (by omega) (by have:=NL.out;omega) _).mono ?_
    rintro e w2 ⟨⟨r,rfl,hr⟩,hb⟩
    have er:r%4294967296=U (hN.getD j 0):=Ap hlt (by rw [CN.out.2]) hr
    rw [er]
    have HJ:Hid (OwW w.heap.size w2 (.slice a j c) (hN.take j)∧Below w.heap.size w w2):=⟨HG.out.1.keep hb,HG.out.2.trans (hb.mono HG.out.2.size)⟩
    have NX:Hid (hN.take (j+1)=hN.take j++[hN.getD j 0]):=fK (by show j<8;exact hlt)
    have LR:Hid ((hN.take j).length=j∧j<8):=⟨by rw [List.length_take];show min j 8=j;omega,hlt⟩
    generalize hN.getD j 0=x at *
    obtain ⟨v,ev⟩:∃ v,v=Value.slice a j c:=⟨_,rfl⟩
    clear hb er hr HG w1
    rw [←ev] at HJ
    rw [←ev]
    clear ev
    go_wp2_with ((at_builtin;go_loud (refine wpList_append_own_at _ rfl _ _ 179 rfl w.heap.size 119 i0 (.int .u32 0) 1 4 Tryz.underlying179 hi hz0 hz1 hz2 rfl (by decide) v _ _ rfl (World.ownsRow.alloc HJ.out.1 _) ⟨w2.heap.size,0,none⟩ 1 1 [.int .u32 (U x)] rfl rfl (cell_one_new _ _ _) (fun u hu=>by simp at hu;subst hu;rfl) (by unfold maxLen;have:=LR.out;omega) (by have:=LR.out;omega) (by have:=HJ.out.2.size;simp;omega) ?_);intro v' w3 hown' hgrow3 hnil3 hblk))
    have HO:Hid (OwW w.heap.size w3 v' (hN.take (j+1))∧Below w.heap.size w w3):=by
     refine ⟨?_,?_⟩
     ·rw [NX.out,OwW,List.length_append,←fq]
      exact hown'
     ·exact (HJ.out.2.alloc HJ.out.2.size _).grown hgrow3 (by have:=HJ.out.2.size;simp;omega) (fun k hk=>(World.ownsRow.lt HJ.out.1 k hk).1)
    clear hown' hgrow3 hnil3 hblk
    obtain ⟨a',c',rfl⟩:=HO.out.1.form
    have lt:(hN.take (j+1)).length=j+1:=by rw [List.length_take];show min (j+1) 8=j+1;omega
    rw [lt] at HO
    rw [lt]
    clear lt
    go_wp2
    go_roundg (312-(n+1))
    case measure=>have:=HK.out;have:=NL.out;omega
    case rel=>exact ⟨n+1,a',c',rfl,by have:=N2.out;omega,by have:=NL.out;omega,by go_num,by rw [CN.out.1];omega,by rw [CN.out.1],by rw [CN.out.1];exact HO.out.1,HO.out.2⟩
open Go.RowKit Go.Sort
theorem bV (x:BitVec 32) {n:Nat} {n':Int} (e:n'=(n:Int)) (h0:0<n) (hn:n<32) (w:World) :
  Calls Tryz.prog 195 #[.int .u32 (U x),.int .u64 n'] w fun e w'=>e = .returned (.int .u32 (U (bD x n)))∧Below w.heap.size w w':=by
 subst e
 have v1:=nB x n
 have v2:=ml x (32-n)
 have v3:bits .or .u32 (U (x >>> n)) (U (x <<< (32-n)))=U (bD x n):=uc _ _
 have e1:((n:Int)).toNat=n:=by omega
 have e2:(32-(n:Int)).toNat=32-n:=by omega
 have b0:(0:Int)<(n:Int):=by omega
 have b1:(n:Int)<32:=by omega
 go_enter Tryz.func195,Tryz.ntmps195
 go_wp2
 simp [bodyPost,results,Tryz.results195,go_sem,v2]
 exact Below.refl _ _
def i5 (B:List (BitVec 8)) (t:Nat):BitVec 32:=wide (B.getD (4*t) 0) <<< 24 ||| wide (B.getD (4*t+1) 0) <<< 16 ||| wide (B.getD (4*t+2) 0) <<< 8 ||| wide (B.getD (4*t+3) 0)
def nU (B:List (BitVec 8)) (t:Nat):Nat→BitVec 32
 | 0=>0
 | m+1=>nU B t m <<< 8 ||| wide (B.getD (4*t+m) 0)
theorem y8 (B:List (BitVec 8)) (t:Nat):nU B t 4=i5 B t:=by
 simp only [nU,i5,Nat.add_zero,BitVec.shiftLeft_or_distrib,←BitVec.shiftLeft_add]
 rw [show (0:BitVec 32) <<< (8+8+8+8)=0#32 from by decide,BitVec.zero_or]
theorem nV (B:List (BitVec 8)) (t:Nat) (ht:t<16):∀ n,n≤64→(puts B n).getD t 0=nU B t (min (n-4*t) 4)
 | 0,_=>by
  rw [show min (0-4*t) 4=0 by omega,nU,puts]
  simp only [List.getD,List.getElem?_replicate]
  split<;>rfl
 | n+1,h=>by
  have ih:=nV B t ht n (by omega)
  rw [puts,yL]
  by_cases c:n/4=t
  ·rw [c,List.getD,List.getElem?_set_self (by rw [jy];omega),Option.getD_some,ih,show min (n+1-4*t) 4=min (n-4*t) 4+1 by omega,nU,show 4*t+min (n-4*t) 4=n by omega]
  ·rw [List.getD,List.getElem?_set_ne c,←List.getD,ih,show min (n+1-4*t) 4=min (n-4*t) 4 by omega]
theorem iK (L:List (BitVec 32)) {t:Nat}:∀ {n m:Nat},n≤m→t<16+n→(da L m).getD t 0=(da L n).getD t 0
 | n,0,h,_=>by rw [show n=0 by omega]
 | n,m+1,h,ht=>by
  by_cases c:n=m+1
  ·rw [c]
  ·rw [da,List.getD,List.getElem?_set_ne (by omega),←List.getD]
   exact iK L (by omega) ht
theorem ql (B:List (BitVec 8)) {t:Nat} (ht:t<16):(bB B).getD t 0=i5 B t:=by
 rw [bB,iK (puts B 64) (n:=0) (by omega) (by omega),da,nV B t ht 64 (by omega),show min (64-4*t) 4=4 by omega,y8]
theorem qm (B:List (BitVec 8)) {t:Nat} (h1:16≤t) (h2:t<64):(bB B).getD t 0=iQ (bB B) t:=by
 obtain ⟨n,rfl⟩:∃ n,t=16+n:=⟨t-16,by omega⟩
 have e:∀ i,i<16+n→(bB B).getD i 0=(da (puts B 64) n).getD i 0:=fun i hi=>iK _ (by omega) hi
 have e2:(bB B).getD (16+n) 0=(da (puts B 64) (n+1)).getD (16+n) 0:=iK _ (by omega) (by omega)
 rw [e2,da,List.getD,List.getElem?_set_self (by rw [mi,jy];omega),Option.getD_some]
 unfold iQ
 rw [e _ (by omega),e _ (by omega),e _ (by omega),e _ (by omega)]
theorem xu {bd od cd t:Nat} {B:List (BitVec 8)} (hl:B.length=64) (ht:t<16) (w:World) (hB:Byo w bd od B) :
  Calls Tryz.prog 207 #[.slice (some ⟨bd,od,none⟩) 64 cd,.int .i64 (4*(t:Int))] w fun e w'=>e = .returned (.int .u32 (U (i5 B t)))∧Below w.heap.size w w':=by
 have c0:=hB (4*t) (by omega)
 have c1:=hB (4*t+1) (by omega)
 have c2:=hB (4*t+2) (by omega)
 have c3:=hB (4*t+3) (by omega)
 obtain ⟨x,ex⟩:∃ x:Nat,x=4*t:=⟨_,rfl⟩
 have e4:4*(t:Int)=(x:Int):=by omega
 rw [e4]
 unfold i5
 rw [←ex] at c0 c1 c2 c3 ⊢
 generalize B.getD x 0=b0 at *
 generalize B.getD (x+1) 0=b1 at *
 generalize B.getD (x+2) 0=b2 at *
 generalize B.getD (x+3) 0=b3 at *
 have x1:(x:Int)<61:=by omega
 have u0:=mg b0;have u1:=mg b1;have u2:=mg b2;have u3:=mg b3
 rw [u0] at c0;rw [u1] at c1;rw [u2] at c2;rw [u3] at c3
 clear u0 u1 u2 u3 e4 ex ht hl hB
 generalize wide b0=a0 at *; generalize wide b1=a1 at *; generalize wide b2=a2 at *; generalize wide b3=a3 at *
 go_enter Tryz.func207,Tryz.ntmps207
 have r1:=uc (a0 <<< 24) (a1 <<< 16)
 have r2:=uc (a0 <<< 24 ||| a1 <<< 16) (a2 <<< 8)
 have r3:=uc (a0 <<< 24 ||| a1 <<< 16 ||| a2 <<< 8) a3
 have e1:((x:Int)+1).toNat=x+1:=by omega
 have e2:((x:Int)+2).toNat=x+2:=by omega
 have e3:((x:Int)+3).toNat=x+3:=by omega
 have m0:U a0%4294967296=U a0:=Int.emod_eq_of_lt (jQ _) (jR _)
 have m1:U a1%4294967296=U a1:=Int.emod_eq_of_lt (jQ _) (jR _)
 have m2:U a2%4294967296=U a2:=Int.emod_eq_of_lt (jQ _) (jR _)
 have m3:U a3%4294967296=U a3:=Int.emod_eq_of_lt (jQ _) (jR _)
 go_wp2_with fail
 refine aC 29 (by kernel_rfl) (by kernel_rfl) ?_
 simp only [List.take_succ_cons,List.take_zero,List.drop_succ_cons,List.drop_zero]
 repeat (first|go_big_quiet_skip|(go_big_quiet_want;go_big_quiet_op;go_big_quiet_on))
 refine wpQuiet_nil ?_
 go_wp2
 simp [bodyPost,results,Tryz.results207,go_sem]
 exact ⟨by rw [show U a0*(16777216:Int)%(4294967296:Int)=U (a0 <<< 24) from ml a0 24,show U a1*(65536:Int)%(4294967296:Int)=U (a1 <<< 16) from ml a1 16,show U a2*(256:Int)%(4294967296:Int)=U (a2 <<< 8) from ml a2 8,r1,r2,r3],(Below.refl _ _).drew⟩
end Go.Proofs.YtnnnaajgjniiaaaGreatDoor.S
