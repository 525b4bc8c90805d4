import Derived.Test.YtnnnaajgjniiaaaGreatDoorCSumK
import Derived.Deep.MidRow
import Derived.Test.YtnnnaajgjniiaaaGreatDoorAb
set_option maxRecDepth 100000
set_option maxHeartbeats 8000000
namespace Go.Proofs.YtnnnaajgjniiaaaGreatDoor
open Go.RowKit Go.Sort
structure T3 where
 x:Int
 y:Int
 z:Int
def T3.cs (t:T3):List Value:=[.int .u64 (l0 t.x),.int .u64 (l1 t.x),.int .u64 (l2 t.x),.int .u64 (l3 t.x),.int .u64 (l0 t.y),.int .u64 (l1 t.y),.int .u64 (l2 t.y),.int .u64 (l3 t.y),.int .u64 (l0 t.z),.int .u64 (l1 t.z),.int .u64 (l2 t.z),.int .u64 (l3 t.z)]
def T3.j (t:T3):EC.J:=J3 t.x t.y t.z
def T3.Low (t:T3):Prop:=EC.Low t.x∧EC.Low t.y∧EC.Low t.z
def dK:List T3→List Value
 | []=>[]
 | t :: L=>t.cs++dK L
theorem T3.len (t:T3):t.cs.length=12:=rfl
theorem hJ:∀ L,(dK L).length=L.length*12
 | []=>rfl
 | t :: L=>by show (t.cs++dK L).length=(L.length+1)*12;rw [List.length_append,hJ L,t.len];omega
theorem ma:∀ (L:List T3) (i j:Nat),j<12→(dK L)[i*12+j]?=(L[i]?).bind fun t=>t.cs[j]?
 | [],i,j,_=>by simp [dK]
 | t :: L,0,j,h=>by
  show (t.cs++dK L)[0*12+j]?=_
  rw [List.getElem?_append_left (by rw [t.len];omega)]
  simp
 | t :: L,i+1,j,h=>by
  show (t.cs++dK L)[(i+1)*12+j]?=_
  rw [List.getElem?_append_right (by rw [t.len];omega),t.len,show (i+1)*12+j-12=i*12+j by omega,ma L i j h]
  simp
theorem mc:∀ (L:List T3),∀ v∈dK L,v.oneCell'=true
 | [],v,h=>by simp [dK] at h
 | t :: L,v,h=>by
  have h':v∈t.cs++dK L:=h
  rcases List.mem_append.1 h' with h1|h1
  ·simp [T3.cs] at h1
   rcases h1 with rfl|rfl|rfl|rfl|rfl|rfl|rfl|rfl|rfl|rfl|rfl|rfl<;>rfl
  ·exact mc L v h1
def bJ (W:World) (b:Nat) (L:List T3):Prop:=W.rangeAt b 0 (dK L)
theorem bJ.at {W:World} {b:Nat} {L:List T3} (h:bJ W b L) {i:Nat} (hi:i<L.length) (j:Nat) (hj:j<12) {v:Value} (e:(L.getD i ⟨0,0,0⟩).cs[j]?=some v):W.cell? ⟨b,i*12+j,none⟩=some v:=by
 have:=h (i*12+j) v (by rw [ma L i j hj,List.getElem?_eq_getElem hi];simpa [List.getD,List.getElem?_eq_getElem hi] using e)
 rwa [Nat.zero_add] at this
theorem bJ.lt {W:World} {b:Nat} {L:List T3} (h:bJ W b L) (hl:0<L.length):b<W.heap.size:=World.block_lt_of_cell? W ⟨b,0*12+0,none⟩ (h.at hl 0 (by decide) rfl)
theorem bJ.keep {W w1:World} {b:Nat} {L:List T3} (h:bJ W b L) (hb:Below W.heap.size W w1):bJ w1 b L:=fun j v hv=>cell_keep hb (h j v hv)
theorem bJ.alloc {W:World} {b:Nat} {L:List T3} (h:bJ W b L) (ob:Obj):bJ (W.alloc ob) b L:=World.rangeAt_alloc h ob
theorem bJ.put {W:World} {b b':Nat} {L:List T3} (h:bJ W b L) (ne:b'≠b) (x' y' z':Int):bJ (ek W b' x' y' z') b L:=fun j v hv=>by
 unfold ek
 exact cell_far (cell_far (cell_far (cell_far (cell_far (cell_far (cell_far (cell_far (cell_far (cell_far (cell_far (cell_far (h j v hv) ne) ne) ne) ne) ne) ne) ne) ne) ne) ne) ne) ne
theorem bJ.cells {W:World} {b:Nat} {L:List T3} (h:bJ W b L) {i:Nat} (hi:i<L.length):W.cell? ⟨b,i*12,none⟩=some (.int .u64 (l0 (L.getD i ⟨0,0,0⟩).x))∧W.cell? ⟨b,i*12+1,none⟩=some (.int .u64 (l1 (L.getD i ⟨0,0,0⟩).x))∧W.cell? ⟨b,i*12+2,none⟩=some (.int .u64 (l2 (L.getD i ⟨0,0,0⟩).x))∧W.cell? ⟨b,i*12+3,none⟩=some (.int .u64 (l3 (L.getD i ⟨0,0,0⟩).x))∧W.cell? ⟨b,i*12+4,none⟩=some (.int .u64 (l0 (L.getD i ⟨0,0,0⟩).y))∧W.cell? ⟨b,i*12+5,none⟩=some (.int .u64 (l1 (L.getD i ⟨0,0,0⟩).y))∧W.cell? ⟨b,i*12+6,none⟩=some (.int .u64 (l2 (L.getD i ⟨0,0,0⟩).y))∧W.cell? ⟨b,i*12+7,none⟩=some (.int .u64 (l3 (L.getD i ⟨0,0,0⟩).y))∧W.cell? ⟨b,i*12+8,none⟩=some (.int .u64 (l0 (L.getD i ⟨0,0,0⟩).z))∧W.cell? ⟨b,i*12+9,none⟩=some (.int .u64 (l1 (L.getD i ⟨0,0,0⟩).z))∧W.cell? ⟨b,i*12+10,none⟩=some (.int .u64 (l2 (L.getD i ⟨0,0,0⟩).z))∧W.cell? ⟨b,i*12+11,none⟩=some (.int .u64 (l3 (L.getD i ⟨0,0,0⟩).z)) :=
 ⟨h.at hi 0 (by decide) rfl,h.at hi 1 (by decide) rfl,h.at hi 2 (by decide) rfl,h.at hi 3 (by decide) rfl,h.at hi 4 (by decide) rfl,h.at hi 5 (by decide) rfl,h.at hi 6 (by decide) rfl,h.at hi 7 (by decide) rfl,h.at hi 8 (by decide) rfl,h.at hi 9 (by decide) rfl,h.at hi 10 (by decide) rfl,h.at hi 11 (by decide) rfl⟩
theorem bJ.grown {W:World} {b:Nat} {L:List T3} (h:bJ W b L) {i:Nat} (hi:i<L.length):∀ d os,(grow (redrawn W d) os).cell? ⟨b,i*12,none⟩=some (.int .u64 (l0 (L.getD i ⟨0,0,0⟩).x))∧(grow (redrawn W d) os).cell? ⟨b,i*12+1,none⟩=some (.int .u64 (l1 (L.getD i ⟨0,0,0⟩).x))∧(grow (redrawn W d) os).cell? ⟨b,i*12+2,none⟩=some (.int .u64 (l2 (L.getD i ⟨0,0,0⟩).x))∧(grow (redrawn W d) os).cell? ⟨b,i*12+3,none⟩=some (.int .u64 (l3 (L.getD i ⟨0,0,0⟩).x))∧(grow (redrawn W d) os).cell? ⟨b,i*12+4,none⟩=some (.int .u64 (l0 (L.getD i ⟨0,0,0⟩).y))∧(grow (redrawn W d) os).cell? ⟨b,i*12+5,none⟩=some (.int .u64 (l1 (L.getD i ⟨0,0,0⟩).y))∧(grow (redrawn W d) os).cell? ⟨b,i*12+6,none⟩=some (.int .u64 (l2 (L.getD i ⟨0,0,0⟩).y))∧(grow (redrawn W d) os).cell? ⟨b,i*12+7,none⟩=some (.int .u64 (l3 (L.getD i ⟨0,0,0⟩).y))∧(grow (redrawn W d) os).cell? ⟨b,i*12+8,none⟩=some (.int .u64 (l0 (L.getD i ⟨0,0,0⟩).z))∧(grow (redrawn W d) os).cell? ⟨b,i*12+9,none⟩=some (.int .u64 (l1 (L.getD i ⟨0,0,0⟩).z))∧(grow (redrawn W d) os).cell? ⟨b,i*12+10,none⟩=some (.int .u64 (l2 (L.getD i ⟨0,0,0⟩).z))∧(grow (redrawn W d) os).cell? ⟨b,i*12+11,none⟩=some (.int .u64 (l3 (L.getD i ⟨0,0,0⟩).z)) :=
 fun d os=>(h.keep (below_regrown W d os)).cells hi
theorem bJ.sets {W:World} {b:Nat} {L:List T3} (h:bJ W b L) {i:Nat} (hi:i<L.length) (t:T3):bJ (W.setCells b (i*12) t.cs) b (L.set i t):=by
 intro k v hk
 rw [Nat.zero_add]
 have e:k=k/12*12+k%12:=by omega
 have hj:k%12<12:=Nat.mod_lt _ (by decide)
 generalize k/12=q at e
 generalize k%12=j at e hj
 subst e
 rw [ma _ q j hj] at hk
 have some_:∀ n,n<t.cs.length→(W.cell? ⟨b,i*12+n,none⟩).isSome=true:=fun n hn=>by
  have hn':n<12:=hn
  rw [h.at hi n hn' (List.getElem?_eq_getElem (by rw [T3.len];exact hn'))];rfl
 by_cases hq:q=i
 ·subst hq
  rw [List.getElem?_set_self hi] at hk
  have hk':t.cs[j]?=some v:=hk
  rw [World.cell?_setCells_in b t.cs _ W some_ j (by rw [T3.len];exact hj),←hk',List.getElem?_eq_getElem]
 ·rw [List.getElem?_set_ne (Ne.symm hq)] at hk
  have hql:q<L.length:=by
   rcases Nat.lt_or_ge q L.length with h1|h1
   ·exact h1
   ·rw [List.getElem?_eq_none h1] at hk;cases hk
  rw [World.cell?_setCells_out b t.cs _ W _ (fun _ _=>by show q*12+j<i*12∨i*12+t.cs.length≤q*12+j;rw [T3.len];omega)]
  refine h.at hql j hj ?_
  rw [List.getElem?_eq_getElem hql] at hk
  simpa [List.getD,List.getElem?_eq_getElem hql] using hk
theorem Cl.cells_put {W:World} {b b':Nat} {l:List Value} (h:Cl W b l) (ne:b'≠b):∀ (vs:List Value) (o:Nat),Cl (W.setCells b' o vs) b l:=fun vs o k hk=>by
 rw [World.cell?_setCells_out b' vs o W _ (fun e _=>absurd e.symm ne)];exact h k hk
theorem au.cells_put {W:World} {b b' n:Nat} (h:au W b n) (vs:List Value) (o:Nat):au (W.setCells b' o vs) b n:=fun k hk=>by
 rw [World.frozen?_setCells];exact h k hk
theorem Mds.cells_put {W:World} {b':Nat} (h:Mds W) (ne:b'≠1) (vs:List Value) (o:Nat):Mds (W.setCells b' o vs):=by
 induction vs generalizing W o with
 | nil=>exact h
 | cons v r ih=>exact ih (h.set ne v) (o+1)
theorem ia {W w:World} {n b:Nat} (h:Below n w W) (hb:n≤b):∀ (vs:List Value) (o:Nat),Below n w (W.setCells b o vs):=fun vs=>by
 induction vs generalizing W with
 | nil=>exact fun _=>h
 | cons v r ih=>exact fun o=>ih (h.setCell (p:=⟨b,o,none⟩) hb v) (o+1)
theorem bJ.other {W:World} {b b':Nat} {L:List T3} (h:bJ W b L) (ne:b'≠b) (vs:List Value) (o:Nat):bJ (W.setCells b' o vs) b L:=World.rangeAt_setCells_apart h _ _ _ (.inl (Ne.symm ne))
theorem bJ.there {W:World} {b:Nat} {L:List T3} (h:bJ W b L) {n:Nat} (hL:au W b n) (e:L.length*12=n) {o m:Nat} (hm:o+m≤n):W.there b o m:=fun j hj=>by
 refine ⟨?_,hL _ (by omega)⟩
 have hl:=hJ L
 have h1:o+j<(dK L).length:=by omega
 have:=h (o+j) _ (List.getElem?_eq_getElem h1)
 rw [Nat.zero_add] at this
 rw [this];rfl
open Go.RowKit Go.Sort
theorem T3.one (t:T3):∀ v∈t.cs,v.oneCell'=true:=fun v h=>by
 simp only [T3.cs,List.mem_cons,List.not_mem_nil,or_false] at h
 rcases h with rfl|rfl|rfl|rfl|rfl|rfl|rfl|rfl|rfl|rfl|rfl|rfl<;>rfl
theorem dk:EC.Low 0:=⟨by decide,by decide⟩
theorem tM {x y:Int} {i:Bool} (hp:Vd x y i):∃ (a:T3) (f:Nat→T3),(∀ w,Rt 82 #[P9 x y i] w (.agg #[.int .u64 (l0 a.x),.int .u64 (l1 a.x),.int .u64 (l2 a.x),.int .u64 (l3 a.x),.int .u64 (l0 a.y),.int .u64 (l1 a.y),.int .u64 (l2 a.y),.int .u64 (l3 a.y),.int .u64 (l0 a.z),.int .u64 (l1 a.z),.int .u64 (l2 a.z),.int .u64 (l3 a.z)]))∧f 0=⟨0,0,0⟩ ∧
  ∀ k,(f k).Low∧(f k).j.pt=EC.smul k (bI x y i)∧∀ w,Mds w→Rt 80 #[.agg #[.int .u64 (l0 (f k).x),.int .u64 (l1 (f k).x),.int .u64 (l2 (f k).x),.int .u64 (l3 (f k).x),.int .u64 (l0 (f k).y),.int .u64 (l1 (f k).y),.int .u64 (l2 (f k).y),.int .u64 (l3 (f k).y),.int .u64 (l0 (f k).z),.int .u64 (l1 (f k).z),.int .u64 (l2 (f k).z),.int .u64 (l3 (f k).z)],.agg #[.int .u64 (l0 a.x),.int .u64 (l1 a.x),.int .u64 (l2 a.x),.int .u64 (l3 a.x),.int .u64 (l0 a.y),.int .u64 (l1 a.y),.int .u64 (l2 a.y),.int .u64 (l3 a.y),.int .u64 (l0 a.z),.int .u64 (l1 a.z),.int .u64 (l2 a.z),.int .u64 (l3 a.z)]] w (.agg #[.int .u64 (l0 (f (k+1)).x),.int .u64 (l1 (f (k+1)).x),.int .u64 (l2 (f (k+1)).x),.int .u64 (l3 (f (k+1)).x),.int .u64 (l0 (f (k+1)).y),.int .u64 (l1 (f (k+1)).y),.int .u64 (l2 (f (k+1)).y),.int .u64 (l3 (f (k+1)).y),.int .u64 (l0 (f (k+1)).z),.int .u64 (l1 (f (k+1)).z),.int .u64 (l2 (f (k+1)).z),.int .u64 (l3 (f (k+1)).z)]):=by
 obtain ⟨a1,a2,a3,k1,k2,k3,ew,CW⟩:=l9 hp
 have step:∀ t:{t:T3 // t.Low},∃ u:{t:T3 // t.Low},u.1.j=EC.ja t.1.j (J3 a1 a2 a3)∧∀ w,Mds w→Rt 80 #[.agg #[.int .u64 (l0 (t.1).x),.int .u64 (l1 (t.1).x),.int .u64 (l2 (t.1).x),.int .u64 (l3 (t.1).x),.int .u64 (l0 (t.1).y),.int .u64 (l1 (t.1).y),.int .u64 (l2 (t.1).y),.int .u64 (l3 (t.1).y),.int .u64 (l0 (t.1).z),.int .u64 (l1 (t.1).z),.int .u64 (l2 (t.1).z),.int .u64 (l3 (t.1).z)],.agg #[.int .u64 (l0 a1),.int .u64 (l1 a1),.int .u64 (l2 a1),.int .u64 (l3 a1),.int .u64 (l0 a2),.int .u64 (l1 a2),.int .u64 (l2 a2),.int .u64 (l3 a2),.int .u64 (l0 a3),.int .u64 (l1 a3),.int .u64 (l2 a3),.int .u64 (l3 a3)]] w (.agg #[.int .u64 (l0 (u.1).x),.int .u64 (l1 (u.1).x),.int .u64 (l2 (u.1).x),.int .u64 (l3 (u.1).x),.int .u64 (l0 (u.1).y),.int .u64 (l1 (u.1).y),.int .u64 (l2 (u.1).y),.int .u64 (l3 (u.1).y),.int .u64 (l0 (u.1).z),.int .u64 (l1 (u.1).z),.int .u64 (l2 (u.1).z),.int .u64 (l3 (u.1).z)]):=by
  intro ⟨t,lt⟩
  obtain ⟨b1,b2,b3,m1,m2,m3,ea,CA⟩:=l8 lt.1 lt.2.1 lt.2.2 k1 k2 k3
  exact ⟨⟨⟨b1,b2,b3⟩,m1,m2,m3⟩,ea,CA⟩
 obtain ⟨G,hG⟩:=Classical.skolem.1 step
 let h:Nat→{t:T3 // t.Low}:=fun k=>Nat.rec ⟨⟨0,0,0⟩,dk,dk,dk⟩ (fun _ t=>G t) k
 have on2:EC.On (J3 a1 a2 a3).pt:=by rw [ew];exact hp.on
 have hpt:∀ k,(h k).1.j.pt=EC.smul k (bI x y i):=by
  intro k
  induction k with
  | zero=>exact EC.pt_o EC.fp_zero
  | succ k ih =>
   show (G (h k)).1.j.pt=(EC.smul k (bI x y i)).add (bI x y i)
   rw [(hG (h k)).1,EC.ja_pt (by rw [ih];exact EC.smul_on hp.on k) on2,ih,ew]
 exact ⟨⟨a1,a2,a3⟩,fun k=>(h k).1,CW,rfl,fun k=>⟨(h k).2,hpt k,(hG (h k)).2⟩⟩
def aQ (f:Nat→T3) (i:Nat):List T3:=(List.range 16).map fun k=>if k<i then f k else ⟨0,0,0⟩
theorem cA (f:Nat→T3) (i:Nat):(aQ f i).length=16:=by simp [aQ]
theorem jN (f:Nat→T3) {i k:Nat} (hk:k<i) (h:k<16):(aQ f i).getD k ⟨0,0,0⟩=f k:=by
 simp [aQ,List.getD,h,hk]
theorem tN (f:Nat→T3) {i:Nat}:(aQ f i).set i (f i)=aQ f (i+1):=by
 apply List.ext_getElem (by simp [aQ])
 intro k h1 h2
 rw [List.getElem_set]
 simp only [aQ,List.getElem_map,List.getElem_range]
 by_cases e:i=k
 ·subst e;simp
 ·rw [if_neg e]
  by_cases hk:k<i
  ·rw [if_pos hk,if_pos (by omega)]
  ·rw [if_neg hk,if_neg (by omega)]
theorem tO {f:Nat→T3} (h0:f 0=⟨0,0,0⟩):aQ f 1=List.replicate 16 ⟨0,0,0⟩:=by
 apply List.ext_getElem (by simp [aQ])
 intro k h1 h2
 simp only [aQ,List.getElem_map,List.getElem_range,List.getElem_replicate]
 by_cases hk:k<1
 ·obtain rfl:k=0:=by omega
  rw [if_pos hk,h0]
 ·rw [if_neg hk]
theorem qW:Tryz.zeroCells103.toList=dK (List.replicate 16 (⟨0,0,0⟩:T3)):=by kernel_rfl
theorem bJ.new {W:World} {b:Nat} {t:TypeId} (e:b=W.heap.size):bJ (W.alloc (.cells Tryz.zeroCells103 t)) b (List.replicate 16 (⟨0,0,0⟩:T3)):=by
 subst e
 intro j v hv
 rw [←qW,Array.getElem?_toList] at hv
 rw [Nat.zero_add]
 simpa [go_sem] using hv
theorem iB {W:World} {b n:Nat} {cs:Array Value} {t:TypeId} (e:b=W.heap.size):au (W.alloc (.cells cs t)) b n:=by subst e;exact au.new _ _ _ _
theorem pL {x y:Int} {i:Bool} {a:T3} {f:Nat→T3} (CW:Hid (∀ w,Rt 82 #[P9 x y i] w (.agg #[.int .u64 (l0 a.x),.int .u64 (l1 a.x),.int .u64 (l2 a.x),.int .u64 (l3 a.x),.int .u64 (l0 a.y),.int .u64 (l1 a.y),.int .u64 (l2 a.y),.int .u64 (l3 a.y),.int .u64 (l0 a.z),.int .u64 (l1 a.z),.int .u64 (l2 a.z),.int .u64 (l3 a.z)]))) (h0:f 0=⟨0,0,0⟩)
    (CA:Hid (∀ k w,Mds w→Rt 80 #[.agg #[.int .u64 (l0 (f k).x),.int .u64 (l1 (f k).x),.int .u64 (l2 (f k).x),.int .u64 (l3 (f k).x),.int .u64 (l0 (f k).y),.int .u64 (l1 (f k).y),.int .u64 (l2 (f k).y),.int .u64 (l3 (f k).y),.int .u64 (l0 (f k).z),.int .u64 (l1 (f k).z),.int .u64 (l2 (f k).z),.int .u64 (l3 (f k).z)],.agg #[.int .u64 (l0 a.x),.int .u64 (l1 a.x),.int .u64 (l2 a.x),.int .u64 (l3 a.x),.int .u64 (l0 a.y),.int .u64 (l1 a.y),.int .u64 (l2 a.y),.int .u64 (l3 a.y),.int .u64 (l0 a.z),.int .u64 (l1 a.z),.int .u64 (l2 a.z),.int .u64 (l3 a.z)]] w (.agg #[.int .u64 (l0 (f (k+1)).x),.int .u64 (l1 (f (k+1)).x),.int .u64 (l2 (f (k+1)).x),.int .u64 (l3 (f (k+1)).x),.int .u64 (l0 (f (k+1)).y),.int .u64 (l1 (f (k+1)).y),.int .u64 (l2 (f (k+1)).y),.int .u64 (l3 (f (k+1)).y),.int .u64 (l0 (f (k+1)).z),.int .u64 (l1 (f (k+1)).z),.int .u64 (l2 (f (k+1)).z),.int .u64 (l3 (f (k+1)).z)]))) (w:World) (hm:Mds w) :
    Rt 78 #[P9 x y i] w (.agg (dK (aQ f 16)).toArray):=by
  go_enter Tryz.func78,Tryz.ntmps78
  go_wp2_with fail
  refine af (fun W=>Below w.heap.size w W∧Mds W∧Pnt W w.heap.size x y i∧bJ W (w.heap.size+1) (List.replicate 16 (⟨0,0,0⟩:T3))∧au W (w.heap.size+1) 192∧bJ W (w.heap.size+1+1) (aQ f 1)∧au W (w.heap.size+1+1) 192)
    ⟨by repeat (first|with_reducible exact Below.refl _ _|with_reducible refine Below.alloc ?_ (by first|omega|(simp;done)|(simp;omega)) _),((hm.alloc _).alloc _).alloc _,((Pnt.new rfl).alloc _).alloc _,(bJ.new (by simp)).alloc _,(iB (by simp)).alloc (by simp) _,by rw [tO h0];exact bJ.new (by simp),iB (by simp)⟩ ?_
  rintro W ⟨B,hD,hP,hR,lR,hF,lF⟩
  have o1:w.heap.size≤w.heap.size+1:=by omega
  have o2:w.heap.size≤w.heap.size+1+1:=by omega
  have n1:w.heap.size+1+1≠w.heap.size+1:=by omega
  have n2:w.heap.size+1+1≠w.heap.size:=by omega
  have nd:w.heap.size+1+1≠1:=by have:=hm.lt;omega
  clear h0
  generalize w.heap.size+1+1=bf at *
  generalize w.heap.size+1=br at *
  go_loopg [4] 15 (fun k iv wr=>∃ n:Nat,k=16-n∧1≤n∧n≤16∧iv = .int .i64 (n:Int)∧Below w.heap.size w wr∧Mds wr∧Pnt wr w.heap.size x y i∧bJ wr br (List.replicate 16 (⟨0,0,0⟩:T3))∧au wr br 192∧bJ wr bf (aQ f n)∧au wr bf 192)
  case atStart=>exact ⟨1,rfl,by decide,by decide,rfl,B,hD,hP,hR,lR,hF,lF⟩
  case round =>
    clear B hD hP hR lR hF lF W
    obtain ⟨n,hk,hn1,hn,rfl,B,hD,hP,hR,lR,hF,lF⟩:=hrel
    have HK:Hid (gk=16-n∧1≤n∧n≤16):=⟨hk,hn1,hn⟩
    by_cases hz:n=16
    · subst hz
      have sz:((dK (aQ f 16)).toArray).size=192:=by simp [hJ,cA]
      have tr:wr.there br 0 ((dK (aQ f 16)).toArray).size:=by rw [sz];exact hR.there lR (by simp) (by simp)
      have oc:=all_oneCell_toArray (mc (aQ f 16))
      have rb:wr.rangeAt bf 0 (dK (aQ f 16)):=hF
      have HM:Hid ((dK (aQ f 16)).length=192):=by show _=_;simp [hJ,cA]
      clear hk hn1 hn hR lR hF lF hP hD
      generalize hM:dK (aQ f 16)=M at *
      go_wp2_with (first|refine wpList_load_mid rfl 103 _ rfl bf 0 rfl M _ rb Tryz.underlying103 rfl (by rw [HM.out];kernel_rfl) ?_|refine wpList_store_mid rfl 103 _ _ rfl br 0 _ rfl rfl tr (by rw [sz];kernel_rfl) oc ?_)
      have ld:=run_loadVar_mid (P:=Tryz.prog) (wr.setCells br 0 M) br 0 103 M _ (World.rangeAt_setCells_same _ _ _ _ (by simpa using tr)) Tryz.underlying103 rfl (by rw [HM.out];kernel_rfl)
      refine bodyPost_ret (v:=.agg M.toArray) ?_ rfl ⟨by rw [←hM],ia B o1 M 0⟩
      simp [results,Tryz.results78,Act.put,asAddr,ld]
    · have hlt:n<16:=by omega
      obtain ⟨m,rfl⟩:∃ m,n=m+1:=⟨n-1,by omega⟩
      have ht:aQ f (m+1)=aQ f (m+1):=rfl
      have gF:=hF.grown (i:=m) (by rw [cA];omega)
      rw [jN f (by omega) (by omega)] at gF
      have CAH:Hid (∀ w,Mds w→Rt 80 #[.agg #[.int .u64 (l0 (f m).x),.int .u64 (l1 (f m).x),.int .u64 (l2 (f m).x),.int .u64 (l3 (f m).x),.int .u64 (l0 (f m).y),.int .u64 (l1 (f m).y),.int .u64 (l2 (f m).y),.int .u64 (l3 (f m).y),.int .u64 (l0 (f m).z),.int .u64 (l1 (f m).z),.int .u64 (l2 (f m).z),.int .u64 (l3 (f m).z)],.agg #[.int .u64 (l0 a.x),.int .u64 (l1 a.x),.int .u64 (l2 a.x),.int .u64 (l3 a.x),.int .u64 (l0 a.y),.int .u64 (l1 a.y),.int .u64 (l2 a.y),.int .u64 (l3 a.y),.int .u64 (l0 a.z),.int .u64 (l1 a.z),.int .u64 (l2 a.z),.int .u64 (l3 a.z)]] w (.agg #[.int .u64 (l0 (f (m+1)).x),.int .u64 (l1 (f (m+1)).x),.int .u64 (l2 (f (m+1)).x),.int .u64 (l3 (f (m+1)).x),.int .u64 (l0 (f (m+1)).y),.int .u64 (l1 (f (m+1)).y),.int .u64 (l2 (f (m+1)).y),.int .u64 (l3 (f (m+1)).y),.int .u64 (l0 (f (m+1)).z),.int .u64 (l1 (f (m+1)).z),.int .u64 (l2 (f (m+1)).z),.int .u64 (l3 (f (m+1)).z)])):=fun w hm=>CA.out m w hm
      have e1:IntKind.i64.wrap (((m+1:Nat):Int)-1)=(m:Int):=by rw [IntKind.wrap_i64];omega
      have e2:((m:Int)).toNat=m:=by omega
      have e3:(((m+1:Nat):Int)).toNat=m+1:=by omega
      have q1:(0:Int)≤m∧(m:Int)<16:=by omega
      have q2:(0:Int)≤((m+1:Nat):Int)∧((m+1:Nat):Int)<16:=by omega
      have gP:=hP.grown
      have hDg:∀ d os,Mds (grow (redrawn wr d) os):=fun d os=>hD.keep (below_regrown wr d os)
      clear ht hk hn1 hn hz
      go_wp2_with fail
      refine aL 9 (by kernel_rfl) (by kernel_rfl) ?_
      simp only [List.take_succ_cons,List.take_zero,List.drop_succ_cons,List.drop_zero]
      repeat
        first
          | go_big_quiet_skip
          | (go_big_quiet_want;go_big_quiet_op;go_big_quiet_on)
          | (go_big_quiet_want
             go_big_quiet_op
             apply Exists.intro
             refine ⟨fun p=>?_,?_⟩
             · (first|(go_at_call 82;with_reducible exact Calls.regrown_of (CW.out _))|(go_at_call 80;with_reducible exact Calls.regrown_of (CAH.out _ (hDg p.d p.os))))
             go_big_quiet_on)
      refine wpQuiet_nil ?_
      rintro w2 ⟨p,rfl⟩
      have hb:=below_regrown wr p.d p.os
      generalize grow (redrawn wr p.d) p.os=w2 at *
      replace B:=B.trans (hb.mono B.size)
      replace lR:=lR.keep hb (hR.lt (by simp));replace lF:=lF.keep hb (hF.lt (by rw [cA];decide))
      replace hD:=hD.keep hb;replace hP:=hP.keep hb;replace hR:=hR.keep hb;replace hF:=hF.keep hb
      clear hb gF gP hDg wr
      have tr:w2.there bf ((m+1)*12) 12:=hF.there lF (by rw [cA]) (by omega)
      have oc:=all_oneCell_toArray (T3.one (f (m+1)))
      have hF':bJ (w2.setCells bf ((m+1)*12) (f (m+1)).cs) bf (aQ f (m+1+1)):=by
        rw [←tN]
        exact hF.sets (by rw [cA];omega) _
      have FF:Hid (Below w.heap.size w (w2.setCells bf ((m+1)*12) (f (m+1)).cs)∧Mds (w2.setCells bf ((m+1)*12) (f (m+1)).cs)∧Pnt (w2.setCells bf ((m+1)*12) (f (m+1)).cs) w.heap.size x y i∧bJ (w2.setCells bf ((m+1)*12) (f (m+1)).cs) br (List.replicate 16 (⟨0,0,0⟩:T3))∧au (w2.setCells bf ((m+1)*12) (f (m+1)).cs) br 192∧bJ (w2.setCells bf ((m+1)*12) (f (m+1)).cs) bf (aQ f (m+1+1))∧au (w2.setCells bf ((m+1)*12) (f (m+1)).cs) bf 192) :=
        ⟨ia B o2 _ _,hD.cells_put nd _ _,Cl.cells_put hP n2 _ _,hR.other n1 _ _,lR.cells_put _ _,hF',lF.cells_put _ _⟩
      clear B hD hP hR lR hF hF' lF
      refine wpList_store_mid rfl 80 _ _ rfl bf ((m+1)*12) (f (m+1)).cs.toArray rfl rfl tr (by kernel_rfl) oc ?_
      refine aA (fun W=>Below w.heap.size w W∧Mds W∧Pnt W w.heap.size x y i∧bJ W br (List.replicate 16 (⟨0,0,0⟩:T3))∧au W br 192∧bJ W bf (aQ f (m+1+1))∧au W bf 192) FF.out ?_
      clear FF tr oc w2
      rintro W ⟨B,hD,hP,hR,lR,hF,lF⟩
      go_wp2_with fail
      go_roundg (16-(m+1+1))
      case measure=>have:=HK.out.1;omega
      case rel=>exact ⟨m+1+1,rfl,by omega,by omega,by go_num,B,hD,hP,hR,lR,hF,lF⟩
end Go.Proofs.YtnnnaajgjniiaaaGreatDoor
