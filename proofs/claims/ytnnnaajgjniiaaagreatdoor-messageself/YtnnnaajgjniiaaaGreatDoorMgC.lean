import Derived.Test.YtnnnaajgjniiaaaGreatDoorMgA
import Derived.Test.YtnnnaajgjniiaaaGreatDoorMgB
import Derived.Test.YtnnnaajgjniiaaaGreatDoorHxB
import Derived.Test.YtnnnaajgjniiaaaGreatDoorLeaf
import Derived.Test.YtnnnaajgjniiaaaGreatDoorTail
import Derived.Test.YtnnnaajgjniiaaaGreatDoorQTail
import Derived.Test.YtnnnaajgjniiaaaGreatDoorMulNum
import Derived.LoopN
import Derived.Lib.ItoaNum
import Derived.Test.YtnnnaajgjniiaaaGreatDoorHold
import Derived.Test.YtnnnaajgjniiaaaGreatDoorRefNum
import Derived.Test.YtnnnaajgjniiaaaGreatDoorAdd
import Derived.Test.YtnnnaajgjniiaaaGreatDoorMul2
import Derived.Test.YtnnnaajgjniiaaaGreatDoorFExp
import Derived.Test.YtnnnaajgjniiaaaGreatDoorCut
import Derived.Deep.RegionHeld3
import Derived.Deep.RegionWith
import Derived.Test.YtnnnaajgjniiaaaGreatDoorLen
import Derived.Deep.LoopGhost
import Derived.Test.YtnnnaajgjniiaaaGreatDoorShelf
import Derived.Lib.SmallJoins
import Derived.Laws.IdiomStrings
import Derived.Deep.RegionHeld
import Derived.OrdersHeld
set_option maxRecDepth 100000
set_option maxHeartbeats 8000000
namespace Go.Proofs.YtnnnaajgjniiaaaGreatDoor
open Go.RowKit Go.Sort
theorem lJ (n j:Nat):(n:Int)/10 ^ j=((n/10 ^ j:Nat):Int):=by
 rw [Int.natCast_ediv,Int.natCast_pow];rfl
theorem vV {n k:Nat} (h:xP (n:Int) k):k=Lib.nDigits n:=by
 obtain ⟨h1,h2,h3⟩:=h
 rw [lJ] at h2
 have p:0<10 ^ k:=Nat.pow_pos (by decide)
 have q:0<10 ^ (k-1):=Nat.pow_pos (by decide)
 have h2':n/10 ^ k=0:=by omega
 have a:n<10 ^ k:=by
  rcases Nat.div_eq_zero_iff.1 h2' with e|e
  ·omega
  ·exact e
 rcases h3 with e|e
 ·subst e
  rw [Lib.nDigits_small (by simpa using a)]
 ·rw [lJ] at e
  have b:10 ^ (k-1)≤n:=by
   rcases Nat.lt_or_ge n (10 ^ (k-1)) with c|c
   ·exact absurd (by rw [Nat.div_eq_of_lt c];rfl) e
   ·exact c
  have u:=Lib.nDigits_unique (k-1) n b (by rw [Nat.sub_add_cancel h1];exact a)
  omega
def pj (n:Nat):List Int:=(Lib.decDigits n).map fun u:UInt8=>(u.toNat:Int)
theorem vW (n:Nat):Bys (pj n):=fun x hx=>by
 obtain ⟨u,_,rfl⟩:=List.mem_map.1 hx
 have:=u.toNat_lt
 exact ⟨by omega,by omega⟩
theorem vX (n:Nat):(pj n).length=Lib.nDigits n:=by rw [pj,List.length_map,Lib.decDigits_length]
theorem zG {n:Nat} (h:n<1000000000000000):Lib.nDigits n≤15:=by
 rcases Nat.lt_or_ge 15 (Lib.nDigits n) with c|c
 ·exfalso
  obtain ⟨k,hk,hk2⟩:=ph (x:=(n:Int)) 14 (by rw [lJ,Nat.div_eq_of_lt h];rfl)
  have:=vV hk
  omega
 ·exact c
theorem nA (W:World) (p a:Addr) (n:Nat):(W.freeze p n).cell? a=W.cell? a:=by
 unfold World.freeze
 split
 ·rfl
 ·simp only [World.cell?,Array.getElem?_modify]
  by_cases e:p.block=a.block
  ·simp only [e,if_true]
   cases W.heap[a.block]? with
   | none=>rfl
   | some o=>cases o<;>rfl
  ·rw [if_neg e]
theorem mf {B:Nat} (W:World) {p:Addr} (hp:B≤p.block) (n:Nat):Below B W (W.freeze p n):=by
 unfold World.freeze
 split
 ·exact Below.refl B W
 ·exact ⟨rfl,rfl,rfl,by simp,fun k hk=>by
   simp only [Array.getElem?_modify]
   rw [if_neg (by omega)]⟩
theorem nB (W:World) (p:Addr) (n:Nat):(W.freeze p n).heap.size=W.heap.size:=by
 unfold World.freeze
 split
 ·rfl
 ·simp
theorem qu {W:World} {b n c:Nat} {C:Array Value} {fr:Nat×Nat} (h:W.heap[b]?=some (.cells C 5 fr)) :
  (convert 36 36 (.slice (some ⟨b,0,none⟩) n c)).run Tryz.prog W = .ok (.slice (some ⟨b,0,none⟩) n c) (W.freeze ⟨b,C.size,none⟩ 1):=by
 have hsh:W.shape? b=some (5,C.size):=by unfold World.shape?;rw [h]
 have ht:=Tryz.underlying36
 have he:=Tryz.underlying5
 simp [convert,run_underlying ht,run_underlying he,markStringish,hsh]
theorem qv (l:List UInt8):∃ (cp:World→Nat) (R:World→World),(∀ u,(convert 9 36 (.string ⟨l.toArray⟩)).run Tryz.prog u = .ok (.slice (some ⟨u.heap.size,0,none⟩) l.length (cp u)) (R u))∧(∀ u,l.length≤cp u) ∧
  ∀ u,Below u.heap.size u (R u)∧(R u).heap.size=u.heap.size+1∧Bz (R u) u.heap.size 0 (l.map fun x:UInt8=>(x.toNat:Int)):=by
 have sz:(⟨l.toArray⟩:ByteArray).size=l.length:=by simp [ByteArray.size]
 refine ⟨_,_,fun u=>by rw [run_bytes_of_string u 9 36 5 ⟨l.toArray⟩ Tryz.underlying9 Tryz.underlying36 Tryz.underlying5,sz],fun u=>grownCap_ge u l.length 0 5,fun u=>⟨((Below.refl _ _).drew).alloc (Nat.le_refl _) _,by simp,fun i hi=>?_⟩⟩
 have hi':i<l.length:=by simpa using hi
 rw [show u.heap.size=u.drew.heap.size from rfl,World.cell?_alloc_mark,Nat.zero_add,bytesRow_at _ _ _ (by simpa using hi')]
 simp [List.getD,List.getElem?_eq_getElem hi']
theorem yL (w:World) (L:List Int) (p:Addr) (hp:p.block=w.heap.size):Below w.heap.size w ((w.alloc (.cells (L.map (Value.int .u8)).toArray 5)).freeze p 1)∧w.heap.size<((w.alloc (.cells (L.map (Value.int .u8)).toArray 5)).freeze p 1).heap.size∧Bz ((w.alloc (.cells (L.map (Value.int .u8)).toArray 5)).freeze p 1) w.heap.size 0 L:=by
 refine ⟨((Below.refl _ _).alloc (Nat.le_refl _) _).trans (mf _ (by omega) _),by rw [nB];simp,fun i hi=>?_⟩
 rw [nA]
 have:=ki (W:=w) (M:=L.map (Value.int .u8)) (t:=5) i (.int .u8 (L.getD i 0)) (by rw [List.getElem?_map,List.getElem?_eq_getElem hi];simp [List.getD,hi])
 exact this
theorem gc {ops:Array Oper} {rest:List Oper} {o:Oper} {a:Act} {Q:Exit→Act→World→Prop} {w:World} (hgd:o.guard=none) (x:Operand) (ho:o.op = .convert 36 36 x) (n c b:Nat) {C:Array Value} {fr:Nat×Nat}
  (hx:a.eval x = .slice (some ⟨b,0,none⟩) n c) (hC:w.heap[b]?=some (.cells C 5 fr)) (h:wpList Tryz.prog ops Q rest (a.put o.dst (.slice (some ⟨b,0,none⟩) n c)) (w.freeze ⟨b,C.size,none⟩ 1)):wpList Tryz.prog ops Q (o :: rest) a w:=by
 refine wpList_plain hgd fun K hK=>?_
 have hr:=qu (n:=n) (c:=c) hC
 unfold Oper.wp execOp
 simp [ho,hx,hr]
 exact hK _ _ h
theorem gd {ops:Array Oper} {rest:List Oper} {o:Oper} {a:Act} {Q:Exit→Act→World→Prop} {w:World} (hgd:o.guard=none) (x:Operand) (ho:o.op = .convert 9 36 x) (l:List UInt8) (hx:a.eval x = .string ⟨l.toArray⟩)
  (h:∀ w' c,l.length≤c→Below w.heap.size w w'→w.heap.size<w'.heap.size→Bz w' w.heap.size 0 (l.map fun x:UInt8=>(x.toNat:Int))→wpList Tryz.prog ops Q rest (a.put o.dst (.slice (some ⟨w.heap.size,0,none⟩) l.length c)) w'):wpList Tryz.prog ops Q (o :: rest) a w:=by
 refine wpList_plain hgd fun K hK=>?_
 obtain ⟨cp,R,CV,cge,CR⟩:=qv l
 have hr:=CV w
 obtain ⟨h1,h2,h3⟩:=CR w
 unfold Oper.wp execOp
 simp [ho,hx,hr]
 exact hK _ _ (h _ _ (cge w) h1 (by omega) h3)
open Go.RowKit Go.Sort
def mg:List Int:=[25,69,116,104,101,114,101,117,109,32,83,105,103,110,101,100,32,77,101,115,115,97,103,101,58,10]
noncomputable def d6 (X:List Int):List Int:=ni (mg++(pj X.length++X))
theorem cH {K:Act→World→Prop} {a:Act} {w:World} (I:World→Prop) (h:I w) (k:∀ V,I V→K a V):K a w:=k w h
theorem lK (p q r:PtC):sd [p,q,r]=p.X++(q.X++r.X):=by simp [sd]
theorem qw {W:World} {p q r:PtC} {v1 v2 v3:Value} {g:Nat} {ty:TypeId} (e:g=W.heap.size) (e1:v1=p.val) (e2:v2=q.val) (e3:v3=r.val) (h1:p.ok W) (h2:q.ok W) (h3:r.ok W):jP (W.alloc (.cells #[v1,v2,v3] ty)) g 0 [p,q,r]:=by
 subst e;subst e1;subst e2;subst e3
 have B:Below W.heap.size W (W.alloc (.cells #[p.val,q.val,r.val] ty)):=(Below.refl _ _).alloc (Nat.le_refl _) _
 have R:=ki (W:=W) (M:=[p.val,q.val,r.val]) (t:=ty)
 rw [jP,jP,jP,jP]
 exact ⟨⟨R 0 _ rfl,h1.keep B⟩,⟨R 1 _ rfl,h2.keep B⟩,⟨R 2 _ rfl,h3.keep B⟩,trivial⟩
theorem zH {n:Nat}:Lib.itoa (n:Int)=Lib.decDigits n:=by
 rw [Lib.itoa,if_neg (by omega),Int.toNat_natCast]
def TbM (W : World) : Prop := Lib.TabIs Tryz.prog W "internal/strconv.uint64pow10" .u64 Lib.pow10Tab
theorem TbM.keep {W W':World} (h:TbM W) (hb:Below W.heap.size W W'):TbM W':=Go.Joins.tab_stays (g:=3) (by kernel_rfl) h hb (Nat.le_refl _)
theorem qx (W:World) (k:Nat) (os:Array Obj):Below W.heap.size W (grow (W.drewN k) os):=by
 refine ⟨rfl,rfl,rfl,by simp [grow,World.drewN],fun j hj=>?_⟩
 show (W.heap++os)[j]?=_
 rw [Array.getElem?_append_left hj]
theorem yM:Bys mg:=by
 intro x hx
 have:mg.all (fun x=>decide (0≤x∧x<256))=true:=by decide
 exact of_decide_eq_true (List.all_eq_true.1 this x hx)
theorem nD {X:List Int} {a:Option Addr} {b o c m:Nat} {D:List Value} (em:m=X.length) (hX:X.length≤140737488351232) (eD:Hid (D=(d6 X).map (Value.int .u8))) (w:World) (hp:PtC.ok w ⟨a,b,o,c,X⟩) (hk:KtC w) (ht:TbM w) :
  Calls Tryz.prog 24 #[.slice a m c] w fun e w'=>e = .returned (.agg D.toArray)∧Below w.heap.size w w':=by
 have EM:Hid (m=X.length∧X.length≤140737488351232):=⟨em,hX⟩
 have m2:(m:Int)≤140737488351232:=by omega
 clear em hX
 go_enter Tryz.func24,Tryz.ntmps24
 go_wp2_with fail
 refine aa (fun W=>Below w.heap.size w W∧KtC W∧TbM W∧Bts W w.heap.size (List.replicate 32 0)∧PtC.ok W ⟨a,b,o,c,X⟩) ⟨(Below.refl _ _).alloc (Nat.le_refl _) _,hk.alloc _,ht.keep ((Below.refl _ _).alloc (Nat.le_refl _) _),Bts.new (List.replicate 32 0) _ rfl,hp.keep ((Below.refl _ _).alloc (Nat.le_refl _) _)⟩ ?_
 rintro W ⟨B,hT,hTb,hR,hP⟩
 refine (Tryz.strconv_Itoa (m:Int) (by omega) (by omega) W hTb).mono ?_
 rintro e w1 ⟨rfl,k,os,rfl⟩
 have hb:=qx W k os
 rw [zH]
 generalize grow (W.drewN k) os=w1 at *
 replace B:=B.trans (hb.mono B.size)
 replace hT:=hT.keep hb
 replace hR:=hR.keep (by simp) hb
 replace hP:=hP.keep hb
 clear hb hTb W hp hk ht
 have HH:Hid (Below w.heap.size w w1∧KtC w1∧Bts w1 w.heap.size (List.replicate 32 0)∧PtC.ok w1 ⟨a,b,o,c,X⟩):=⟨B,hT,hR,hP⟩
 clear B hT hR hP
 have KM:Hid (Lib.nDigits m≤15):=zG (by omega)
 have eL:(Lib.decDigits m).length=(pj m).length:=(List.length_map _).symm
 have CS:Hid (∀ W bq g g2 c2,Below w1.heap.size w1 W→jP W bq 0 [⟨some ⟨g,0,none⟩,g,0,26,mg⟩,⟨some ⟨g2,0,none⟩,g2,0,c2,pj m⟩,⟨a,b,o,c,X⟩]→Calls Tryz.prog 43 #[.slice (some ⟨bq,0,none⟩) 3 3] W fun e w'=>e = .returned (.agg D.toArray)∧Below W.heap.size W w'):=fun W bq g g2 c2 hb PT=>by
  have SM:=zu (ps:=[⟨some ⟨g,0,none⟩,g,0,26,mg⟩,⟨some ⟨g2,0,none⟩,g2,0,c2,pj m⟩,⟨a,b,o,c,X⟩]) (n:=3) (c:=3) rfl (by rw [lK];simp only [List.length_append];rw [vX];have:=KM.out;have:=EM.out;have:mg.length=26:=rfl;omega) (by show 3≤1000;decide) (Nat.le_refl 3) _ PT (HH.out.2.1.keep hb)
  rw [lK] at SM
  rw [eD.out,d6,←EM.out.1]
  exact SM
 have kD:D.length=32:=by rw [eD.out,List.length_map,d6,kX]
 have oc:D.toArray.all (·.oneCell')=true:=by rw [eD.out];exact bD _
 have KD:Hid (D.length=32):=kD
 have sz:D.toArray.size=32:=by simp [kD]
 have dz:Hid (Bys (pj m)):=vW m
 have eM:(m:Int)=((X.length:Nat):Int):=by rw [EM.out.1]
 have HB:Hid (∀ W,Below w1.heap.size w1 W→Below w.heap.size w W∧PtC.ok W ⟨a,b,o,c,X⟩∧W.there w.heap.size 0 D.toArray.size):=fun W hb=>⟨HH.out.1.trans (hb.mono HH.out.1.size),HH.out.2.2.2.keep hb,by rw [sz];exact (HH.out.2.2.1.keep (by simp) hb).there rfl⟩
 obtain ⟨g,eg⟩:∃ g,Hid (g=w1.heap.size):=⟨_,rfl⟩
 clear eD kD
 go_wp2_with (first
  | (refine gc rfl _ rfl 26 26 w1.heap.size rfl (C:=(mg.map (Value.int .u8)).toArray) (fr:=(0,0)) (mN w1 _) ?_;refine aQ (fun V=>Below w1.heap.size w1 V∧w1.heap.size<V.heap.size∧Bz V w1.heap.size 0 mg) (yL w1 mg _ rfl) ?_;rintro V ⟨hb1,hs1,hz1⟩;rw [←eg.out] at hs1 hz1 ⊢)
  | (refine gd rfl _ rfl (Lib.decDigits m) rfl ?_;intro w2 c2 hc hb2 hs2 hz2;rw [eL] at hc ⊢; replace hb1:=hb1.trans (hb2.mono hb1.size);replace hz1:=hz1.keep hb2;clear hb2)
  | (go_at_call 43;refine (CS.out _ _ g V.heap.size c2 (hb1.alloc hb1.size _) (qw rfl rfl rfl (by rw [PtC.val];show _=Value.slice _ X.length c;rw [EM.out.1]) ⟨.inr rfl,(show mg.length≤26 by decide),yM,hz1⟩ ⟨.inr rfl,hc,dz.out,hz2⟩ (HB.out _ hb1).2.1)).mono ?_;rintro e y1 ⟨rfl,hbx⟩;replace hb1:=(hb1.alloc hb1.size _).trans (hbx.mono (by have:=hb1.size;simp;omega));have tr:=(HB.out _ hb1).2.2)
  | (refine wpList_store_mid rfl 26 _ _ rfl w.heap.size 0 D.toArray rfl rfl tr (by rw [sz];kernel_rfl) oc ?_;refine aQ (fun W'=>Below w.heap.size w W'∧W'.rangeAt w.heap.size 0 D) (cG (HB.out _ hb1).1 (Nat.le_refl _) (by simpa using tr)) ?_;rintro W' ⟨B',hD⟩))
 have ld:=run_loadVar_mid (P:=Tryz.prog) W' w.heap.size 0 26 D _ hD Tryz.underlying26 rfl (by rw [KD.out];kernel_rfl)
 refine bodyPost_ret (v:=.agg D.toArray) ?_ rfl ⟨rfl,B'⟩
 simp [results,Tryz.results24,Act.put,asAddr,ld]
end Go.Proofs.YtnnnaajgjniiaaaGreatDoor
