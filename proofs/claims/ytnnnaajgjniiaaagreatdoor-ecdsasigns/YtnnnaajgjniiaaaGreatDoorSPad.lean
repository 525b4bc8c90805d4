import Derived.Test.YtnnnaajgjniiaaaGreatDoorSBase
set_option maxRecDepth 100000
set_option maxHeartbeats 4000000
namespace Go.Proofs.YtnnnaajgjniiaaaGreatDoor.S
open Go.RowKit Go.Sort
theorem Bb {n i:Nat} {P:Nat} (hP:P=8*n%18446744073709551616):IntKind.u8.wrap ((P:Int)/2 ^ (56-8*i))=Y (lb n i):=by
 rw [IntKind.wrap_u8',Y_eq,lb,BitVec.toNat_ofNat,←hP]
 simp
def eV (n i:Nat):List (BitVec 8):=128 :: (List.replicate (zn n) 0++(lbs n i++List.replicate (8-i) 0))
theorem ug {n i:Nat} (h:i≤8):(eV n i).length=zn n+9:=by simp [eV,jA];omega
theorem uh {n i:Nat} (h:i<8):(eV n i).set (1+zn n+i) (lb n i)=eV n (i+1):=by
 obtain ⟨k,hk⟩:∃ k,8-i=k+1:=⟨7-i,by omega⟩
 rw [eV,eV,hk,show 8-(i+1)=k by omega,show 1+zn n+i=(zn n+i)+1 by omega,List.set_cons_succ,List.set_append_right _ _ (by simp),List.length_replicate,Nat.add_sub_cancel_left,List.set_append_right _ _ (by rw [jA];exact Nat.le_refl _),jA,Nat.sub_self,List.replicate_succ (n:=k),List.set_cons_zero,pY,List.append_assoc]
 rfl
theorem yR (n:Nat):(List.replicate (zn n+9) (0:BitVec 8)).set 0 128=eV n 0:=by
 rw [eV,List.replicate_succ (n:=zn n+8),List.set_cons_zero,←List.replicate_append_replicate]
 rfl
theorem yS (n:Nat):eV n 8=eI n:=by simp [eV,eI]
theorem rq (n:Nat):List.replicate n (Value.int .u8 0)=byts (List.replicate n 0):=by
 have h:Y 0#8=0:=Y_zero
 simp [byts,h]
theorem mo (n:Nat):zn n<64:=by rw [zn];omega
def W1 (w w1:World) (m:Nat):Prop:=w1.heap[w.heap.size]?=some (.cells (List.replicate m (Value.int .u8 0)).toArray 5 (0,0))∧Below w.heap.size w w1
theorem W1.own {w w1:World} {m:Nat} (h:W1 w w1 m) (hm:m≤maxLen):w1.ownsRow w.heap.size 5 1 (.slice (some ⟨w.heap.size,0,none⟩) m m) m (byts (List.replicate m 0)):=by
 refine ⟨by rw [byts_len,List.length_replicate,Nat.mul_one],.inr ⟨w.heap.size,m,(List.replicate m (Value.int .u8 0)).toArray,rfl,Nat.le_refl _,h.1,Nat.le_refl _,hm,by simp,?_⟩⟩
 rw [Nat.mul_one,←rq]
 exact List.take_of_length_le (by simp)
theorem W1.cell {w w1:World} {m i:Nat} (h:W1 w w1 m) (hi:i<m):w1.cell? ⟨w.heap.size,i,none⟩=some (.int .u8 0):=by
 rw [cell_of_row w1 w.heap.size i _ _ _ h.1]
 simp [hi]
theorem W1.loose {w w1:World} {m:Nat} (h:W1 w w1 m) (i:Nat):w1.frozen? ⟨w.heap.size,i,none⟩=false:=frozen_of_row w1 w.heap.size i _ _ h.1
theorem W1.stored {w w1:World} {m:Nat} (h:W1 w w1 m) (hm:m≤maxLen):(w1.setCell ⟨w.heap.size,0,none⟩ (.int .u8 128)).ownsRow w.heap.size 5 1 (.slice (some ⟨w.heap.size,0,none⟩) m m) m (byts ((List.replicate m 0).set 0 128)):=by
 have y:Y 128=128:=by rw [Y_eq];rfl
 have:=((h.own hm).stored 0 (.int .u8 128)).1
 rw [←y,pW,y] at this
 exact this
def xc (w W:World) (n i:Nat):Prop:=W.ownsRow w.heap.size 5 1 (.slice (some ⟨w.heap.size,0,none⟩) (zn n+9) (zn n+9)) (zn n+9) (byts (eV n i))
theorem yT {n:Nat} (hn:n<9223372036854775808) (w:World) :
  Calls Tryz.prog 137 #[.int .i64 (n:Int)] w fun e w'=>e = .returned (.tuple #[.slice (some ⟨w.heap.size,0,none⟩) (eI n).length (eI n).length,.int .i64 0])∧Own w.heap.size w' (.slice (some ⟨w.heap.size,0,none⟩) (eI n).length (eI n).length) (eI n)∧Below w.heap.size w w':=by
 obtain ⟨i0,hi,hz0,hz1,hz2⟩:=info_parts info_byte
 have z1:(119-(n:Int)%64)%64=(zn n:Int):=by rw [zn];omega
 obtain ⟨P,hP⟩:∃ P:Nat,P=8*n%18446744073709551616:=⟨_,rfl⟩
 have p1:Hid ((8*(n:Int))%18446744073709551616=(P:Int)):=by have h:(8*(n:Int))%18446744073709551616=(P:Int):=(by rw [hP];omega);exact h
 have HP:Hid (P=8*n%18446744073709551616∧n<9223372036854775808∧(119-(n:Int)%64)%64=(zn n:Int)):=⟨hP,hn,z1⟩
 have hn':(n:Int)<9223372036854775808:=by omega
 clear hP hn z1
 have n0:¬((n:Int)<0):=by omega
 go_enter Tryz.func137,Tryz.ntmps137
 go_wp2_with (at_make;refine kn _ rfl _ _ 36 rfl 5 i0 (.int .u8 0) Tryz.underlying36 hi hz0 hz1 rfl hz2 .i64 .i64 _ _ (zn n+9) (zn n+9) rfl rfl (by have h9:=HP.out.2.2;omega) (by have h9:=HP.out.2.2;omega) (Nat.le_refl _) (by have h8:=mo n;omega) ?_;rw [rj];refine aA (fun W=>W1 w W (zn n+9)) ⟨wS _ _,(Below.refl _ _).alloc (Nat.le_refl _) _⟩ ?_;intro w1 h1;have H1:Hid (W1 w w1 (zn n+9)):=h1;have g0:=h1.cell (show 0<zn n+9 by omega);have f0:=h1.loose 0;clear h1)
 have HO:Hid (xc w (w1.setCell ⟨w.heap.size,0,none⟩ (.int .u8 128)) n 0∧Below w.heap.size w (w1.setCell ⟨w.heap.size,0,none⟩ (.int .u8 128))):=⟨by rw [xc,←yR];exact H1.out.stored (by have:=mo n;unfold maxLen;omega),H1.out.2.setCell (Nat.le_refl _) _⟩
 have q1:(119-(n:Int))%64=(zn n:Int):=by have:=HP.out.2.2;omega
 have q2:IntKind.u64.wrap (8*(n:Int))=(P:Int):=by rw [IntKind.wrap_u64];exact p1.out
 rw [q1,q2]
 clear q1 q2 p1 g0 f0 H1 hi hz0 hz1 hz2 hn' n0
 generalize w1.setCell ⟨w.heap.size,0,none⟩ (.int .u8 128)=w2 at *
 have z9:=mo n
 have P0:(P:Int)<18446744073709551616:=by have:=HP.out.1;omega
 go_loopg [23] 8 (fun k iv wr=>∃ i:Nat,k=8-i∧i≤8∧iv = .int .i64 i∧xc w wr n i∧Below w.heap.size w wr)
 case atStart=>exact ⟨0,rfl,by decide,rfl,HO.out⟩
 case round =>
  clear HO
  obtain ⟨i,hk,hi,rfl,hO,hB⟩:=hrel
  have HK:Hid (gk=8-i):=hk
  have HF:Hid (xc w wr n i∧Below w.heap.size w wr):=⟨hO,hB⟩
  clear hk hO hB
  by_cases h8:i=8
  ·subst h8
   go_wp2
   refine bodyPost_ret (v:=.tuple #[.slice (some ⟨w.heap.size,0,none⟩) (zn n+9) (zn n+9),.int .i64 0]) ?_ rfl ?_
   ·simp [results,Tryz.results137,go_sem]
   ·have h:=HF.out
    rw [xc,yS] at h
    rw [Own,eO]
    exact ⟨rfl,h⟩
  ·have hi':(i:Int)<8:=by omega
   have e1:(1+(zn n:Int)+(i:Int)).toNat=1+zn n+i:=by omega
   have e2:(56-8*(i:Int)).toNat=56-8*i:=by omega
   have e3:Hid (1+zn n+i<(eV n i).length):=by rw [ug (by omega)];have h:1+zn n+i<zn n+9:=(by omega);exact h
   have g1:wr.cell? ⟨w.heap.size,1+zn n+i,none⟩=some (.int .u8 (Y ((eV n i).getD (1+zn n+i) 0))):=by
    rw [World.ownsRow.cellAt HF.out.1 (1+zn n+i) (by omega)]
    simp [byts,List.getD,e3.out]
   have f1:=World.ownsRow.frozenAt HF.out.1 (1+zn n+i)
   have v1:IntKind.u8.wrap ((P:Int)/2 ^ (56-8*i))=Y (lb n i):=Bb HP.out.1
   generalize (eV n i).getD (1+zn n+i) 0=x at *
   go_wp2
   go_roundg (8-(i+1))
   case measure=>have:=HK.out;omega
   case rel =>
    refine ⟨i+1,rfl,by omega,by go_num,?_,HF.out.2.setCell (Nat.le_refl _) _⟩
    have h:=(World.ownsRow.stored HF.out.1 (1+zn n+i) (.int .u8 (Y (lb n i)))).1
    rw [pW,uh (by omega)] at h
    exact h
open Go.RowKit Go.Sort
def vh:List Int→Int
 | []=>0
 | x :: xs=>x+65536*vh xs
def Lim (x:Int):Prop:=0≤x∧x<65536
def cr (l:List Int):Prop:=∀ x∈l,Lim x
theorem jB:∀ {l:List Int},cr l→0≤vh l∧vh l<65536 ^ l.length
 | [],_=>by simp [vh]
 | x :: xs,h=>by
  obtain ⟨_,_⟩:=h x (by simp)
  have:=jB (l:=xs) (fun y hy=>h y (by simp [hy]))
  simp only [vh,List.length_cons,Int.pow_succ]
  generalize (65536:Int) ^ xs.length=p at *
  omega
theorem oR:∀ (l:List Int) (i:Nat) (v:Int),i<l.length→vh (l.set i v)=vh l+65536 ^ i*(v-l.getD i 0)
 | [],i,v,h=>by simp at h
 | x :: xs,0,v,_=>by simp [vh];omega
 | x :: xs,i+1,v,h=>by
  have:=oR xs i v (by simpa using h)
  simp only [List.set_cons_succ,vh,List.getD_cons_succ,Int.pow_succ]
  rw [this,Int.mul_right_comm,Int.mul_comm _ (65536:Int)]
  generalize (65536:Int) ^ i*(v-xs.getD i 0)=p
  omega
theorem oS:∀ (l:List Int) (i:Nat),i<l.length→vh (l.take (i+1))=vh (l.take i)+65536 ^ i*l.getD i 0
 | [],i,h=>by simp at h
 | x :: xs,0,_=>by simp [vh]
 | x :: xs,i+1,h=>by
  have:=oS xs i (by simpa using h)
  simp only [List.take_succ_cons,vh,List.getD_cons_succ,Int.pow_succ] at this ⊢
  rw [this,Int.mul_right_comm,Int.mul_comm _ (65536:Int)]
  generalize (65536:Int) ^ i*xs.getD i 0=p
  omega
theorem cr.getD {l:List Int} (h:cr l) (i:Nat):Lim (l.getD i 0):=by
 by_cases c:i<l.length
 ·have:l.getD i 0=l[i]:=by simp [List.getD,c]
  rw [this];exact h _ (List.getElem_mem c)
 ·have:l.getD i 0=0:=by simp [List.getD,List.getElem?_eq_none (Nat.le_of_not_lt c)]
  rw [this];exact ⟨by decide,by decide⟩
theorem cr.set {l:List Int} (h:cr l) (i:Nat) {v:Int} (hv:Lim v):cr (l.set i v):=fun x hx=>by
 rcases List.mem_or_eq_of_mem_set hx with h'|h'
 ·exact h x h'
 ·rw [h'];exact hv
theorem ru {P0 Q V T n x a y c c' v:Int} (hv:v+65536*c'=x+a*y+c) (inv:V+P0*Q*c=n+P0*(a*T)):V+P0*Q*(v-x)+P0*Q*65536*c'=n+P0*(a*(T+Q*y)):=by
 have e:v-x=a*y+c-65536*c':=by omega
 have h1:P0*Q*(a*y)=P0*(a*(Q*y)):=by rw [Int.mul_assoc,Int.mul_left_comm Q a y]
 have h2:P0*Q*(65536*c')=P0*Q*65536*c':=by rw [Int.mul_assoc (P0*Q)]
 have h3:P0*(a*(T+Q*y))=P0*(a*T)+P0*(a*(Q*y)):=by rw [Int.mul_add,Int.mul_add]
 rw [e,Int.mul_sub,Int.mul_add,h1,h2,h3]
 omega
theorem pZ:∀ (l:List Int) (k:Nat),k≤l.length→vh l=vh (l.take k)+65536 ^ k*vh (l.drop k)
 | l,0,_=>by simp [vh]
 | [],k+1,h=>by simp at h
 | x :: xs,k+1,h=>by
  have:=pZ xs k (by simpa using h)
  simp only [List.take_succ_cons,List.drop_succ_cons,vh,Int.pow_succ]
  rw [this,Int.mul_right_comm,Int.mul_comm _ (65536:Int)]
  generalize (65536:Int) ^ k*vh (xs.drop k)=p
  omega
theorem mq {l l':List Int} (h:l.length=l'.length) (e:∀ t,t<l.length→l.getD t 0=l'.getD t 0):l=l':=by
 apply List.ext_getElem h
 intro t h1 h2
 have:=e t h1
 simpa [List.getD,h1,h2] using this
theorem fc {l:List Int} {i t:Nat} (h:t≠i) (v:Int):(l.set i v).getD t 0=l.getD t 0:=by
 simp [List.getD,List.getElem?_set_ne (Ne.symm h)]
theorem cr.take {l:List Int} (h:cr l) (k:Nat):cr (l.take k):=fun x hx=>h x (List.mem_of_mem_take hx)
theorem cr.drop {l:List Int} (h:cr l) (k:Nat):cr (l.drop k):=fun x hx=>h x (List.mem_of_mem_drop hx)
theorem ui {P V T x m c:Int} (inv:V+P*65536 ^ 8*c=T*m+P*(x*m)):V+P*65536 ^ 8*c=(T+P*x)*m:=by
 rw [inv,Int.add_mul,Int.mul_assoc]
theorem jC (k t:Nat):(List.replicate k (0:Int)).getD t 0=0:=by
 simp only [List.getD,List.getElem?_replicate]
 split<;>rfl
theorem rv {x y p c:Int} (hx:Lim x) (hy:Lim y) (hp:Lim p) (hc:Lim c):0≤x*y∧x*y<4294967296∧0≤p+x*y+c∧p+x*y+c<4294967296:=by
 obtain ⟨x0,x1⟩:=hx;obtain ⟨y0,y1⟩:=hy;obtain ⟨p0,p1⟩:=hp;obtain ⟨c0,c1⟩:=hc
 have h0:=Int.mul_nonneg x0 y0
 have h1:x*y≤65535*65535:=Int.mul_le_mul (by omega) (by omega) y0 (by decide)
 omega
theorem xd:∀ {x y:List Int} {i:Nat},cr x→cr y→x.length=y.length→i<x.length→(∀ t,i<t→t<x.length→x.getD t 0=y.getD t 0)→x.getD i 0<y.getD i 0→vh x<vh y
 | [],_,i,_,_,_,h,_,_=>by simp at h
 | a :: x,[],i,_,_,h,_,_,_=>by simp at h
 | a :: x,b :: y,0,hx,hy,hl,_,he,hlt=>by
  have e:x=y:=mq (by simpa using hl) fun t ht=>by
   have:=he (t+1) (by omega) (by simpa using ht)
   simpa using this
  subst e
  have:a<b:=by simpa using hlt
  simp only [vh];omega
 | a :: x,b :: y,i+1,hx,hy,hl,hi,he,hlt=>by
  have ih:=xd (x:=x) (y:=y) (i:=i) (fun z hz=>hx z (by simp [hz])) (fun z hz=>hy z (by simp [hz])) (by simpa using hl) (by simpa using hi) (fun t h1 h2=>by
   have:=he (t+1) (by omega) (by simpa using h2)
   simpa using this) (by simpa using hlt)
  obtain ⟨_,_⟩:=hx a (by simp);obtain ⟨_,_⟩:=hy b (by simp)
  simp only [vh];omega
def fG (k:Nat) (n:Int) (r:Int):Prop:=0≤r∧r ^ k≤n*4294967296 ^ k∧n*4294967296 ^ k<(r+1) ^ k
theorem mr {k:Nat} {a b:Int} (h0:0≤a) (h:a<b) (hk:k=2∨k=3):a ^ k<b ^ k:=by
 have h2:a*a<b*b:=by
  have:=Int.mul_lt_mul' (Int.le_of_lt h) h h0 (by omega);omega
 rcases hk with rfl|rfl
 ·simpa [Int.pow_succ] using h2
 ·have h3:a*a*a<b*b*b:=by
   have e1:a*a*a≤a*a*b:=Int.mul_le_mul_of_nonneg_left (Int.le_of_lt h) (Int.mul_nonneg h0 h0)
   have e2:a*a*b<b*b*b:=Int.mul_lt_mul_of_pos_right h2 (by omega)
   omega
  simpa [Int.pow_succ] using h3
theorem fG.unique {k:Nat} (hk:k=2∨k=3) {n r s:Int} (h:fG k n r) (g:fG k n s):r=s:=by
 obtain ⟨h0,h1,h2⟩:=h;obtain ⟨g0,g1,g2⟩:=g
 rcases Int.lt_trichotomy r s with c|c|c
 ·have:(r+1) ^ k≤s ^ k:=by
   rcases Int.lt_or_eq_of_le (show r+1≤s by omega) with e|e
   ·exact Int.le_of_lt (mr (by omega) e hk)
   ·rw [e];exact Int.le_refl _
  omega
 ·exact c
 ·have:(s+1) ^ k≤r ^ k:=by
   rcases Int.lt_or_eq_of_le (show s+1≤r by omega) with e|e
   ·exact Int.le_of_lt (mr (by omega) e hk)
   ·rw [e];exact Int.le_refl _
  omega
open Go.RowKit Go.Sort
theorem own_nil {B:Nat} {W:World}:Own B W (.slice none 0 0) []:=⟨by simp [byts],.inl ⟨rfl,by simp⟩⟩
open Go.RowKit Go.Sort
def read (n len i:Nat):Nat:=8*n%18446744073709551616/2 ^ (8*(len-i))
open Go.RowKit Go.Sort
def Ih (W:World) (b:Nat) (L:List Int):Prop:=(∀ i,i<L.length→W.cell? ⟨b,i,none⟩=some (.int .i64 (L.getD i 0)))∧au W b L.length
theorem Ih.lt {W:World} {b:Nat} {L:List Int} (h:Ih W b L) (hl:0<L.length):b<W.heap.size:=World.block_lt_of_cell? W ⟨b,0,none⟩ (h.1 0 hl)
theorem Ih.keep {W w1:World} {b:Nat} {L:List Int} (h:Ih W b L) (hl:0<L.length) (hb:Below W.heap.size W w1):Ih w1 b L:=⟨fun i hi=>cell_keep hb (h.1 i hi),h.2.keep hb (h.lt hl)⟩
theorem Ih.alloc {W:World} {b:Nat} {L:List Int} (h:Ih W b L) (hl:0<L.length) (o:Obj):Ih (W.alloc o) b L:=h.keep hl ((Below.refl _ _).alloc (Nat.le_refl _) o)
theorem Ih.drew {W:World} {b:Nat} {L:List Int} (h:Ih W b L):Ih W.drew b L:=h
theorem Ih.new {W:World} {b:Nat} (L:List Int) (t:TypeId) (e:b=W.heap.size):Ih (W.alloc (.cells (L.map (Value.int .i64)).toArray t)) b L:=by
 refine ⟨fun i hi=>?_,au.new _ _ _ e⟩
 subst e
 rw [World.cell?_alloc_mark]
 simp [List.getElem?_map,List.getD,List.getElem?_eq_getElem hi]
theorem Ih.set {W:World} {b:Nat} {L:List Int} (h:Ih W b L) (i:Nat) (hi:i<L.length) (v:Int):Ih (W.setCell ⟨b,i,none⟩ (.int .i64 v)) b (L.set i v):=by
 refine ⟨?_,by rw [List.length_set];exact h.2.set _ _⟩
 intro j hj
 simp at hj
 by_cases e:i=j
 ·subst e
  rw [World.cell?_setCell_same _ _ _ (h.1 i hi)]
  simp [List.getD,hi]
 ·have ne:(⟨b,i,none⟩:Addr)≠⟨b,j,none⟩:=by first|(simp;done)|(simp;omega)
  rw [World.cell?_setCell_other _ _ _ _ ne,h.1 j hj]
  simp [List.getD,List.getElem?_set_ne e]
theorem Ih.other {W:World} {b b' i:Nat} {L:List Int} (h:Ih W b L) (ne:b'≠b) (v:Value):Ih (W.setCell ⟨b',i,none⟩ v) b L:=⟨fun j hj=>by rw [World.cell?_setCell_far _ _ _ _ ne];exact h.1 j hj,h.2.set _ _⟩
theorem Ih.otherCells {W:World} {b b' o:Nat} {L:List Int} (h:Ih W b L) (ne:b'≠b) (cs:List Value):Ih (W.setCells b' o cs) b L:=⟨fun j hj=>by rw [World.cell?_setCells_out _ _ _ _ _ (fun e=>absurd e.symm ne)];exact h.1 j hj,h.2.setCells _ _ _⟩
theorem Ih.range {W:World} {b:Nat} {L:List Int} (h:Ih W b L):W.rangeAt b 0 (L.map (Value.int .i64)):=by
 intro j v hv
 rw [List.getElem?_map] at hv
 obtain ⟨x,hx,rfl⟩:=Option.map_eq_some_iff.1 hv
 have hj:j<L.length:=(List.getElem?_eq_some_iff.1 hx).1
 rw [Nat.zero_add,h.1 j hj]
 simp [List.getD,hx]
theorem Ih.there {W:World} {b:Nat} {L:List Int} (h:Ih W b L) {k:Nat} (e:L.length=k):W.there b 0 k:=by
 subst e
 intro j hj
 rw [Nat.zero_add]
 exact ⟨by rw [h.1 j hj];rfl,h.2 j hj⟩
theorem Ih.stored {W:World} {b:Nat} {l L:List Int} (h:Ih W b l) (e:L.length=l.length):Ih (W.setCells b 0 (L.map (Value.int .i64))) b L:=by
 have hr:=World.rangeAt_setCells_same W b 0 (L.map (Value.int .i64)) (by rw [List.length_map];exact h.there e.symm)
 refine ⟨fun i hi=>?_,by rw [e];exact h.2.setCells _ _ _⟩
 have:=hr i (.int .i64 (L.getD i 0)) (by rw [List.getElem?_map,List.getElem?_eq_getElem hi];simp [List.getD,hi])
 rwa [Nat.zero_add] at this
theorem fI (l:List Int):(l.map (Value.int .i64)).toArray.all (·.oneCell')=true:=all_oneCell_toArray (by
 intro v hv
 obtain ⟨x,_,rfl⟩:=List.mem_map.1 hv
 rfl)
open Go.RowKit Go.Sort
theorem dG {a:Option Addr} {bp op cp:Nat} {PS:List Part} (hs:(catX PS).length<1073741824) (hn:PS.length≤1073741824) (ha:PS=[]∨a=some ⟨bp,op,none⟩) (w:World) (hP:Prts w bp op PS) :
  Calls Tryz.prog 143 #[.slice a PS.length cp] w fun e w'=>∃ v,e = .returned v∧Own w.heap.size w' v (catX PS)∧Below w.heap.size w w':=by
 obtain ⟨i0,hi,hz0,hz1,hz2⟩:=info_parts info_byte
 have HZ:Hid (Tryz.prog.info? 5=some i0∧i0.zero=some (.int .u8 0)∧i0.size=1∧i0.bytes=1):=⟨hi,hz0,hz1,hz2⟩
 have HA:Hid (Prts w bp op PS∧(PS=[]∨a=some ⟨bp,op,none⟩)∧(catX PS).length<1073741824):=⟨hP,ha,hs⟩
 have nb:(PS.length:Int)≤1073741824:=by omega
 clear hP ha hs hi hz0 hz1 hz2 hn
 go_enter Tryz.func143,Tryz.ntmps143
 go_wp2_with fail
 go_loopg [3,4] PS.length (fun k lv iv wr=>∃ i:Nat,k=PS.length-i∧i≤PS.length∧iv = .int .i64 i∧Own w.heap.size wr lv (catX (PS.take i))∧Below w.heap.size w wr)
 case atStart=>exact ⟨0,rfl,Nat.zero_le _,rfl,own_nil,Below.refl _ _⟩
 case round =>
  obtain ⟨i,hk,hi9,rfl,hown,hB⟩:=hrel
  have HK:Hid (gk=PS.length-i):=hk
  have HF:Hid (Own w.heap.size wr u3 (catX (PS.take i))∧Below w.heap.size w wr):=⟨hown,hB⟩
  clear hk hown hB
  by_cases h8:i=PS.length
  ·subst h8
   have HR:Hid (PS.take PS.length=PS):=List.take_length
   go_wp2
   go_ret
   exact ⟨_,rfl,by have h:=HF.out.1;rw [HR.out] at h;exact h,HF.out.2⟩
  ·have hlt:i<PS.length:=by omega
   have hlt':(i:Int)<(PS.length:Int):=by omega
   have ea:a=some ⟨bp,op,none⟩:=by
    rcases HA.out.2.1 with h|h
    ·rw [h] at hlt;simp at hlt
    ·exact h
   subst ea
   obtain ⟨p,kp⟩:∃ p,p=PS.getD i .none:=⟨_,rfl⟩
   have GP:Hid (∀ W,Below w.heap.size w W→W.cell? ⟨bp,op+i,none⟩=some (.slice p.a p.X.length p.c)):=by
    intro W hB
    have h:=(HA.out.1 i hlt).1
    rw [hB.cell (p:=⟨bp,op+i,none⟩) (World.block_lt_of_cell? w _ h),h,←kp]
    rfl
   have OK:Hid (At p.a p.b p.o p.X∧Byo w p.b p.o p.X):=by
    have h:=(HA.out.1 i hlt).2
    rw [←kp] at h
    exact ⟨h.1,h.2.2⟩
   have NX:Hid (catX (PS.take (i+1))=catX (PS.take i)++p.X):=by rw [kp];exact jP hlt
   have LN:Hid ((catX (PS.take i)).length+p.X.length<1073741824):=by
    have h1:=oQ (PS:=PS) (i+1)
    rw [NX.out,List.length_append] at h1
    have:=HA.out.2.2
    have h:(catX (PS.take i)).length+p.X.length<1073741824:=by omega
    exact h
   clear kp
   have lp:(p.X.length:Int)<1073741824:=by have:=LN.out;omega
   obtain ⟨C,kC⟩:∃ C,C=catX (PS.take i):=⟨_,rfl⟩
   rw [←kC] at HF NX LN
   clear kC
   obtain ⟨pa,pb,po,pc,pX⟩:=p
   dsimp only at GP OK NX LN lp
   go_wp2_with fail
   go_loopg [3,5] pX.length (fun g lv kv wr=>∃ k:Nat,g=pX.length-k∧k≤pX.length∧kv = .int .i64 k∧Own w.heap.size wr lv (C++pX.take k)∧Below w.heap.size w wr)
   case atStart=>exact ⟨0,rfl,Nat.zero_le _,rfl,by rw [List.take_zero,List.append_nil];exact HF.out.1,HF.out.2⟩
   case round =>
    clear HF
    obtain ⟨k,hk,hk9,rfl,hown,hB⟩:=hrel
    rename_i v3
    have HK2:Hid (gk=pX.length-k):=hk
    have HF:Hid (Own w.heap.size wr u3 (C++pX.take k)∧Below w.heap.size w wr):=⟨hown,hB⟩
    clear hk hown hB
    have g0:=GP.out _ HF.out.2
    by_cases h9:k=pX.length
    ·subst h9
     have HR:Hid (pX.take pX.length=pX):=List.take_length
     go_wp2
     go_roundg (PS.length-(i+1))
     case measure=>have:=HK.out;omega
     case rel=>exact ⟨i+1,rfl,by omega,by go_num,by have h:=HF.out.1;rw [HR.out,←NX.out] at h;exact h,HF.out.2⟩
    ·have klt:k<pX.length:=by omega
     have klt':(k:Int)<(pX.length:Int):=by omega
     have ea:pa=some ⟨pb,po,none⟩:=by
      rcases OK.out.1 with h|h
      ·rw [h] at klt;simp at klt
      ·exact h
     subst ea
     have gx:wr.cell? ⟨pb,po+k,none⟩=some (.int .u8 (Y (pX.getD k 0))):=by
      have h:=OK.out.2 k klt
      rw [HF.out.2.cell (p:=⟨pb,po+k,none⟩) (World.block_lt_of_cell? w _ h)];exact h
     have NK:Hid (C++pX.take (k+1)=(C++pX.take k)++[pX.getD k 0]):=by rw [iC klt,List.append_assoc];exact rfl
     have LR:Hid ((C++pX.take k).length<1073741824):=by
      have h:(C++pX.take k).length<1073741824:=by rw [List.length_append,List.length_take];have:=LN.out;omega
      exact h
     generalize pX.getD k 0=x at *
     go_wp2_with ((at_builtin;go_loud (refine wpList_append_own_at _ rfl _ _ 36 rfl w.heap.size 5 i0 (.int .u8 0) 1 1 Tryz.underlying36 HZ.out.1 HZ.out.2.1 HZ.out.2.2.1 HZ.out.2.2.2 rfl (by decide) u3 _ _ rfl (HF.out.1.row.alloc _) ⟨wr.heap.size,0,none⟩ 1 1 [.int .u8 (Y x)] rfl rfl (cell_one_new _ _ _) (fun u hu=>by simp at hu;subst hu;rfl) (by unfold maxLen;have:=LR.out;omega) (by have:=LR.out;omega) (by have:=HF.out.2.size;simp;omega) ?_);intro v' w3 hown' hgrow3 hnil3 hblk))
     have HO:Hid (Own w.heap.size w3 v' (C++pX.take (k+1))∧Below w.heap.size w w3):=by
      refine ⟨?_,?_⟩
      ·rw [NK.out,Own,List.length_append,←byts_snoc]
       exact hown'
      ·exact (HF.out.2.alloc HF.out.2.size _).grown hgrow3 (by have:=HF.out.2.size;simp;omega) (fun k hk=>(HF.out.1.row.lt k hk).1)
     clear hown' hgrow3 hnil3 hblk
     go_roundg (pX.length-(k+1))
     case measure=>have:=HK2.out;omega
     case rel=>exact ⟨k+1,rfl,by omega,by go_num,HO.out⟩
end Go.Proofs.YtnnnaajgjniiaaaGreatDoor.S
