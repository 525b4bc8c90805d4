import Derived.RangeFuncNested
import Derived.RangeFuncBound
import Derived.RangeFuncCalls
import Derived.RangeFuncLeaves
import Derived.RangeFuncFrom
import Derived.Shelf.Abstract
import Derived.Shelf.RegionOpen
import Derived.OwnWalkIn
import Derived.TacticsInMore
import Derived.LoopNIn
import Derived.LoopIn
import Derived.Test.YtjoandmehahfgaaGreatDoorRjA
set_option maxRecDepth 100000
set_option maxHeartbeats 8000000
namespace Go.Proofs.YtjoandmehahfgaaGreatDoor
open Go.RowKit Go.Shelf
attribute [local go_sem] Oper.semAt_some
theorem nT {P:Program} {n:Nat} {g:Operand} {ps:Array Tmp} {assign body:Code} {Q:Exit→Act→World→Prop} {a:Act} {w:World}
  (h1:1≤n) {gf:Nat} {lb:Array Value} (hg:a.eval g = .func (.func gf) #[] lb) (eg:∀ args w,(callFunc gf args).run P w = .ok (.enter gf args) w)
  {encs:Nat→Array Value} (N:Nat) (hps:∀ k,(encs k).size=ps.size)
  (I:Nat→World→Prop) (hI:OwnFrom w.heap.size I) (h0:I 0 w) (Ax:Nat→Act→World→Prop) (hAx:∀ k a',OwnFrom w.heap.size (fun (_:Unit) W=>Ax k a' W))
  (hit:∀ (l:Nat) (J:Nat→World→Prop) (W:World),(∀ k W1,J k W1→I k W1)→J 0 W→(∀ k W1,k<N→J k W1→YieldAt Fence.wide (n-1-1) P l (encs k) W1 fun e W'=>e = .returned (.bool true)∧J (k+1) W') →
   CallsIn Fence.wide (n-1) P gf (#[.func (.yield l) #[] #[]]++lb) W fun e W'=>(∃ v,e = .returned v)∧J N W')
  (hassign:∀ (l k:Nat) (W:World) (K:Act→World→Prop),k<N→I k W→(∀ a' W',KeepsFrom w.heap.size W W'→I k W'→Ax k a' W'→K a' W') →
   assign.wpIn (Fence.wide.inRound l) (n-1-1) P (Exit.then K (fun _ _ _=>False)) { tmps:=(ps.zip (encs k)).foldl (fun t (p,v)=>t.setIfInBounds p v) a.tmps,defers:=[] } W)
  (hbody:∀ (l k:Nat) (a':Act) (W:World),k<N→I k W→Ax k a' W→body.wpIn (Fence.wide.inRound l) (n-1-1) P (fun e _ W'=>e = .normal∧KeepsFrom w.heap.size W W'∧I (k+1) W') a' W)
  (hdone:∀ (D:Nat) (W:World),w.heap.size≤D→I N W→W.heap[D]?=some (.deferred (some []))→Q .normal { a with defers:={ target:=.collected D,args:=#[] } :: a.defers } W) :
  (Code.rangeFunc g ps assign body).wpIn Fence.wide n P Q a w:=by
 refine wpIn_rangeFunc fun fn hfn=>?_
 rw [show Fence.wide.round=none from rfl]
 obtain ⟨rc,hrc⟩:∃ rc:LoopState→Option Code→Loop,rc=fun st pe=>{ state:=st,pending:=pe,fn,tmps:=a.tmps,params:=ps,assign,body,defers:=w.heap.size }:=⟨_,rfl⟩
 obtain ⟨W1,hW1⟩:∃ W1,(w.alloc (.deferred (some []))).alloc (.loop (rc .ready none))=W1:=⟨_,rfl⟩
 have s0:(w.alloc (.deferred (some []))).heap.size=w.heap.size+1:=World.size_alloc _ _
 have L1:W1.heap[w.heap.size+1]?=some (.loop (rc .ready none)):=by
  rw [←hW1]
  have h:=World.alloc_heap_new (w.alloc (.deferred (some []))) (.loop (rc .ready none))
  rwa [s0] at h
 have D1:W1.heap[w.heap.size]?=some (.deferred (some [])):=by
  rw [←hW1]
  exact (Below.heap_alloc _ _ _ (by rw [s0];omega)).trans (World.alloc_heap_new w _)
 have I1:I 0 W1:=by rw [←hW1];exact hI.alloc _ (hI.alloc _ h0)
 refine ⟨w.heap.size+1,[{ target:=.collected w.heap.size,args:=#[] }],W1,{ target:=.fn (.func gf) lb,args:=#[.func (.yield (w.heap.size+1)) #[] #[]] },W1,gf,#[.func (.yield (w.heap.size+1)) #[] #[]]++lb,W1,?_,?_,?_,?_,fun _=>h1,?_⟩
 ·rw [←hW1,hrc];exact run_enterLoop_outer _ _ _ _ _
 ·simp only [resolve,hg]
  simp [go_sem]
 ·intro f' _
  trivial
 ·simp [invoke,go_sem,eg]
 ·refine (hit (w.heap.size+1) (fun k W=>I k W∧W.heap[w.heap.size+1]?=some (.loop (rc .ready none))∧W.heap[w.heap.size]?=some (.deferred (some []))) W1 (fun k W h=>h.1) ⟨I1,L1,D1⟩ ?_).mono ?_
  ·rintro k W hkN ⟨hi,hl,hd⟩
   have hy:=run_yield (P:=P) (args:=encs k) hl (by rw [hrc];exact hps k)
   rw [hrc] at hy
   refine ⟨fn,_,assign,body,hy,roundIn_of_wpIn hfn (hassign _ k W _ hkN hi ?_)⟩
   clear hy
   intro a' V hkf hi2 hax
   have hl1:=hkf.same _ _ (by omega) hl rfl
   have hd1:=hkf.same _ _ (Nat.le_refl _) hd rfl
   have hlt:w.heap.size+1<V.heap.size:=(Array.getElem?_eq_some_iff.1 hl1).1
   refine ⟨_,run_beginRound hl1 (by rw [hrc]),?_⟩
   have hl2:(V.putObj (w.heap.size+1) (.loop { rc .ready none with state:=.busy })).heap[w.heap.size+1]?=some (.loop { rc .ready none with state:=.busy }):=World.putObj_heap_same hlt
   have hd2:(V.putObj (w.heap.size+1) (.loop { rc .ready none with state:=.busy })).heap[w.heap.size]?=some (.deferred (some [])):=(World.putObj_heap_other (by omega)).trans hd1
   refine wpIn_mono (hbody (w.heap.size+1) k a' _ hkN (hI.putObj _ hi2 (by omega) hl1 rfl) ((hAx k a').putObj (s:=()) _ hax (by omega) hl1 rfl)) ?_
   rintro e a3 W3 ⟨rfl,hk3,hi3⟩
   have hl3:=hk3.same _ _ (by omega) hl2 rfl
   have hd3:=hk3.same _ _ (Nat.le_refl _) hd2 rfl
   have he:=run_endRound (P:=P) none hl3
   refine ⟨_,_,he,rfl,?_⟩
   refine ⟨hI.putObj _ hi3 (by omega) hl3 rfl,?_,(World.putObj_heap_other (by omega)).trans hd3⟩
   rw [World.putObj_heap_same (Array.getElem?_eq_some_iff.1 hl3).1,hrc]
   rfl
  ·rintro e W2 ⟨⟨v,rfl⟩,hi,L2,D2⟩
   have he:=run_endLoop (P:=P) L2 (by simp [hrc])
   have hp:(rc .ready none).pending=none:=by rw [hrc]
   rw [hp] at he
   exact ⟨none,_,he,hdone _ _ (Nat.le_refl _) (hI.putObj _ hi (by omega) L2 rfl) ((World.putObj_heap_other (by omega)).trans D2)⟩
def Bx3 (W:World) (b o:Nat) (l:Bool) (d q:Value):Prop:=W.cell? ⟨b,o,none⟩=some (.bool l)∧W.cell? ⟨b,o+1,none⟩=some d∧W.cell? ⟨b,o+2,none⟩=some q
theorem qb (a:Option Addr) (len cap:Nat) (w:World) :
  Calls Tryz.prog 90 #[.slice a len cap] w fun e w'=>e = .returned (.func (.func 121) #[] #[.pointer (some ⟨w.heap.size,0,none⟩)])∧w'=w.alloc (.cells #[.slice a len cap] 67):=by
 go_enter Tryz.func90,Tryz.ntmps90
 go_wp2
 simp [bodyPost,results,Tryz.results90,go_sem]
theorem vX (n:Nat) (hn:1≤n) (l Bs b o c N:Nat) (a:Option Addr) (ha:N=0∨a=some ⟨b,o,none⟩) (hN:(N:Int)≤4194304) (lf:Nat→Bool) (df qf:Nat→Value) (J:Nat→World→Prop)
  (hR:∀ k W,J k W→W.cell? ⟨Bs,0,none⟩=some (.slice a N c)∧∀ i,i<N→Bx3 W b (o+i*3) (lf i) (df i) (qf i))
  (hY:∀ k W1,k<N→J k W1→YieldAt Fence.wide (n-1) Tryz.prog l #[.int .i64 ((N-1-k:Nat):Int),.agg #[.bool (lf (N-1-k)),df (N-1-k),qf (N-1-k)]] W1 fun e W'=>e = .returned (.bool true)∧J (k+1) W')
  (W:World) (h0:J 0 W) :
  CallsIn Fence.wide n Tryz.prog 121 #[.func (.yield l) #[] #[],.pointer (some ⟨Bs,0,none⟩)] W fun e W'=>(∃ v,e = .returned v)∧J N W':=by
 have hB:=(hR 0 W h0).1
 refine callsIn_of_wp Tryz.func121 rfl trivial ?_ rfl
 simp only [Tryz.ntmps121,List.size_toArray,List.length_cons,List.length_nil,Nat.reduceAdd,Nat.reduceSub,Array.replicate_succ,Array.replicate_zero,List.push_toArray,List.append_toArray,List.nil_append,List.cons_append]
 gi_wp2
 gi_loopw [3] (fun i wr=>∃ k:Nat,k≤N∧i = .int .i64 ((N:Int)-1-k)∧J k wr) (fun i _=>(intOf i+1).toNat)
 case atStart=>exact ⟨0,Nat.zero_le _,by simp,h0⟩
 case round =>
  clear hB
  obtain ⟨k,hk,rfl,hJ⟩:=hrel
  obtain ⟨r1,r2⟩:=hR k wr hJ
  by_cases hlt:k<N
  ·obtain ⟨j,hj⟩:∃ j,j=N-1-k:=⟨_,rfl⟩
   have ej:(N:Int)-1-k=(j:Int):=by omega
   obtain rfl:a=some ⟨b,o,none⟩:=ha.resolve_left (by omega)
   obtain ⟨c0,c1,c2⟩:=r2 j (by omega)
   obtain ⟨fn,tmps,assign,body,hy,hRd⟩:=hY k wr hlt hJ
   rw [←hj] at hy
   have hjN:(j:Int)<(N:Int):=by omega
   have hj0:(0:Int)≤(j:Int):=by omega
   rw [ej]
   have HJ:Hid (j=N-1-k∧(N:Int)-1-k=(j:Int)):=⟨hj,ej⟩
   clear hj ej ha r2
   gi_wp2
   refine hRd.mono ?_
   rintro e W3 ⟨rfl,hJ3⟩
   gi_wp2
   go_roundw
   case rel=>exact ⟨k+1,by omega,by have:=HJ.out.2;simp;omega,hJ3⟩
   case measure=>simp [intOf]
  ·obtain rfl:k=N:=by omega
   have ej:(k:Int)-1-k = -1:=by omega
   rw [ej]
   gi_wp2
   go_end0
   exact ⟨⟨_,rfl⟩,hJ⟩
open Go.RowKit Go.Shelf
attribute [local go_sem] Oper.semAt_some
theorem iJ {w0 w W:World} {row:Option Nat} (hB:Below w0.heap.size w0 w) (hg:w.grownBy W row) (hr:∀ r,row=some r→w0.heap.size≤r):Below w0.heap.size w0 W :=
 ⟨hg.os.trans hB.os,hg.tape.trans hB.tape,hg.output.trans hB.output,Nat.le_trans hB.size hg.size,fun k hk=>(hg.block k (Nat.lt_of_lt_of_le hk hB.size) fun e=>by have:=hr k e.symm;omega).trans (hB.block k hk)⟩
theorem vY {ts:List Tr} {k:Nat} (h:k<ts.length):aM (ts.drop (ts.length-(k+1)))=bT (ts.getD (ts.length-1-k) zT)++aM (ts.drop (ts.length-k)):=by
 have e:ts.drop (ts.length-(k+1))=ts.getD (ts.length-1-k) zT :: ts.drop (ts.length-k):=by
  rw [List.drop_eq_getElem_cons (by omega)]
  congr 1
  ·rw [List.getD,List.getElem?_eq_getElem (by omega)]
   simp only [Option.getD_some]
   congr 1
   omega
  ·congr 1;omega
 rw [e,aM]
theorem qc (ts:List Tr) (k:Nat):(aM (ts.drop k)).length≤(aM ts).length:=by
 have:=nK (ts.take k) (ts.drop k)
 rw [List.take_append_drop] at this
 rw [this,List.length_append];omega
theorem sV {X:List Int} {ts:List Tr} {a a':Option Addr} {b o c c' gr m n:Nat} {L:List Int} (hX:X.length<16777216) (ha:Az a b o X) (w0 w:World) (hB:Below w0.heap.size w0 w) (hz:Bz w0 b o X) (hgr:w0.heap.size≤gr) (hL:L.length=n) (hm:m≤n) (hx:(cV X).length≤m) (hn:n<1000000000) (hr:Rq w gr L) :
  Calls Tryz.prog 57 #[.slice (some ⟨gr,0,none⟩) m n,.agg #[.bool false,.slice a X.length c,.slice a' ts.length c']] w fun e w'=>e = .returned (.slice (some ⟨gr,0,none⟩) (m-(cV X).length) n)∧Rq w' gr (ovr L m (cV X))∧w.grownBy w' (some gr):=by
 have PT:Hid (∀ W,Below w.heap.size w W→Calls Tryz.prog 89 #[.slice (some ⟨gr,0,none⟩) m n,.slice a X.length c] W fun e w'=>e = .returned (.slice (some ⟨gr,0,none⟩) (m-(cV X).length) n)∧Rq w' gr (ovr L m (cV X))∧W.grownBy w' (some gr)):=fun W B=>vW hL hm hx hn hX ha w0 W (hB.trans (B.mono hB.size)) hz hgr (hr.keep B)
 clear hX ha hz hgr hL hm hx hn hr hB
 generalize (cV X).length=EL at *
 generalize cV X=EX at *
 generalize X.length=XL at *
 generalize ts.length=TL at *
 go_enter Tryz.func57,Tryz.ntmps57
 go_wp2_with (go_at_call 89;(with_reducible refine (PT.out _ ((Below.refl _ _).alloc (Nat.le_refl _) _)).mono ?_);rintro e1 w1 ⟨rfl,r1,g1⟩)
 simp [bodyPost,results,Tryz.results57,go_sem]
 exact ⟨r1,(aH _ _ _).trans g1⟩
theorem sW {X:List Int} {ts:List Tr} {a a':Option Addr} {b o c c' gr m n:Nat} {L:List Int} (hts:wtS ts<4194304) (ha:ts=[]∨a'=some ⟨b,o,none⟩) (w0 w:World) (hB:Below w0.heap.size w0 w) (hI:Its w0 b o ts) (hgr:w0.heap.size≤gr) (hL:L.length=n) (hm:m≤n) (hx:(hdR 192 (aM ts).length++aM ts).length≤m) (hn:n<1000000000) (hr:Rq w gr L)
  (ih:∀ t∈ts,∀ {d q:Value} (w0:World) (_:It w0 t d q) (w:World) (_:Below w0.heap.size w0 w) {gr m n:Nat} {L:List Int} (_:w0.heap.size≤gr) (_:L.length=n) (_:m≤n) (_:(bT t).length≤m) (_:n<1000000000) (_:Rq w gr L),Calls Tryz.prog 57 #[.slice (some ⟨gr,0,none⟩) m n,itV t d q] w fun e w'=>e = .returned (.slice (some ⟨gr,0,none⟩) (m-(bT t).length) n)∧Rq w' gr (ovr L m (bT t))∧w.grownBy w' (some gr)) :
  Calls Tryz.prog 57 #[.slice (some ⟨gr,0,none⟩) m n,.agg #[.bool true,.slice a X.length c,.slice a' ts.length c']] w fun e w'=>e = .returned (.slice (some ⟨gr,0,none⟩) (m-(hdR 192 (aM ts).length++aM ts).length) n)∧Rq w' gr (ovr L m (hdR 192 (aM ts).length++aM ts))∧w.grownBy w' (some gr):=by
 have hlen:=pV ts
 have hEl:=gi ts
 obtain ⟨ps,hp,hrg,hits⟩:=hI.cells
 have hgw:=hr.lt
 rw [List.length_append] at hx
 have hN:(ts.length:Int)≤4194304:=by omega
 -- what holds between two rounds
 obtain ⟨E,hE⟩:∃ E:Nat→Nat,∀ k,E k=(aM (ts.drop (ts.length-k))).length:=⟨_,fun _=>rfl⟩
 obtain ⟨I,hIdef⟩:∃ I:Nat→World→Prop,∀ k W,I k W↔(w.grownBy W (some gr)∧w.heap.size+3≤W.heap.size∧W.cell? ⟨w.heap.size+2,0,none⟩=some (.slice a' ts.length c')∧W.cell? ⟨w.heap.size+1,0,none⟩=some (.slice (some ⟨gr,0,none⟩) (m-E k) n)∧W.frozen? ⟨w.heap.size+1,0,none⟩=false∧Rq W gr (ovr L m (aM (ts.drop (ts.length-k))))):=⟨_,fun _ _=>Iff.rfl⟩
 have hOwn:OwnFrom (w.heap.size+3) I:=fun k A B row hA hg' hrow=>by
  obtain ⟨i1,i2,i3,i4,i5,i6⟩:=(hIdef k A).1 hA
  have far:∀ j,j<w.heap.size+3→some j≠row:=fun j hj e=>by have:=(hrow j e.symm).1;omega
  have sm:∀ j,j<w.heap.size+3→B.heap[j]?=A.heap[j]?:=fun j hj=>hg'.block j (by omega) (far j hj)
  refine (hIdef k B).2 ⟨⟨hg'.os.trans i1.os,hg'.tape.trans i1.tape,hg'.output.trans i1.output,Nat.le_trans i1.size hg'.size,fun j hj hn=>(sm j (by omega)).trans (i1.block j hj hn)⟩,Nat.le_trans i2 hg'.size,?_,?_,?_,(sm gr (by omega)).trans i6⟩
  ·rw [World.cell?_of_block (w:=A) (a:=⟨w.heap.size+2,0,none⟩) (sm _ (by show w.heap.size+2<_;omega))];exact i3
  ·rw [World.cell?_of_block (w:=A) (a:=⟨w.heap.size+1,0,none⟩) (sm _ (by show w.heap.size+1<_;omega))];exact i4
  ·rw [World.frozen?_of_block (w:=A) (a:=⟨w.heap.size+1,0,none⟩) (sm _ (by show w.heap.size+1<_;omega))];exact i5
 have HID:Hid (∀ k W,I k W↔(w.grownBy W (some gr)∧w.heap.size+3≤W.heap.size∧W.cell? ⟨w.heap.size+2,0,none⟩=some (.slice a' ts.length c')∧W.cell? ⟨w.heap.size+1,0,none⟩=some (.slice (some ⟨gr,0,none⟩) (m-E k) n)∧W.frozen? ⟨w.heap.size+1,0,none⟩=false∧Rq W gr (ovr L m (aM (ts.drop (ts.length-k)))))):=hIdef
 clear hIdef
 refine (callsIn_wide (n:=3)).1 ?_
 refine callsIn_of_wp_marks Tryz.func57 rfl trivial ?_ rfl
 simp only [Tryz.ntmps57,List.size_toArray,List.length_cons,List.length_nil,Nat.reduceAdd,Nat.reduceSub,Array.replicate_succ,Array.replicate_zero,List.push_toArray,List.append_toArray,List.nil_append,List.cons_append]
 have BK:Hid (∀ W,Calls Tryz.prog 90 #[.slice a' ts.length c'] W fun e w'=>e = .returned (.func (.func 121) #[] #[.pointer (some ⟨W.heap.size,0,none⟩)])∧w'=W.alloc (.cells #[.slice a' ts.length c'] 67)):=fun W=>qb _ _ _ W
 gi_wp2_with (refine ⟨trivial,?_⟩;gi_at_call 90;refine (callsIn_wide.2 (BK.out _)).mono ?_;rintro e w1 ⟨rfl,rfl⟩)
 obtain ⟨V,hV⟩:∃ V,((w.alloc (.cells #[.bool true,.slice a X.length c,.slice a' ts.length c'] 69)).alloc (.cells #[.slice (some ⟨gr,0,none⟩) m n] 52)).alloc (.cells #[.slice a' ts.length c'] 67)=V:=⟨_,rfl⟩
 rw [hV]
 have hVs:V.heap.size=w.heap.size+3:=by rw [←hV];simp
 have HVs:Hid (V.heap.size=w.heap.size+3):=hVs
 have hV0:I 0 V:=by
  have hBV:Below w.heap.size w V:=by
   rw [←hV]
   exact (((Below.refl _ w).alloc (Nat.le_refl _) _).alloc (by simp) _).alloc (by simp;omega) _
  have e0:E 0=0:=by rw [hE,Nat.sub_zero,List.drop_length,aM];rfl
  refine (HID.out 0 V).2 ⟨ri _ hBV,by omega,?_,?_,?_,?_⟩
  ·rw [←hV];simp [go_sem]
  ·rw [←hV,e0];simp [go_sem]
  ·rw [←hV];simp [go_sem]
  ·rw [Nat.sub_zero,List.drop_length,aM,uh]
   exact hr.keep hBV
 clear hV hVs
 have HB0:Hid (∀ k W,I k W→Below w0.heap.size w0 W):=fun k W h=>iJ hB ((HID.out k W).1 h).1 fun r e=>by have:=Option.some.inj e;omega
 have hla:ts.length=0∨a'=some ⟨b,o,none⟩:=ha.imp (fun e=>by rw [e];rfl) id
 refine nT (P:=Tryz.prog) (n:=3) (by decide) (gf:=121) (lb:=#[.pointer (some ⟨w.heap.size+1+1,0,none⟩)]) rfl (enters_of Tryz.func121 (by kernel_rfl) rfl) (encs:=fun k=>#[.int .i64 ((ts.length-1-k:Nat):Int),.agg #[.bool (ts.getD (ts.length-1-k) zT).l,(ps.getD (ts.length-1-k) zV).1,(ps.getD (ts.length-1-k) zV).2]]) ts.length (fun k=>rfl) I (by rw [HVs.out];exact hOwn) hV0
  (fun k ac W=>∃ bx,w.heap.size+3≤bx∧Bx W bx (ts.getD (ts.length-1-k) zT).l (ps.getD (ts.length-1-k) zV).1 (ps.getD (ts.length-1-k) zV).2∧ac={ tmps:=#[.slice (some ⟨gr,0,none⟩) m n,.agg #[.bool true,.slice a X.length c,.slice a' ts.length c'],undef,.pointer (some ⟨w.heap.size,0,none⟩),.slice none 0 0,.pointer (some ⟨w.heap.size+1,0,none⟩),undef,.pointer (some ⟨bx,0,none⟩),.pointer (some ⟨w.heap.size,0,none⟩),.bool true,.bool false,undef,undef,undef,undef,.slice (some ⟨gr,0,none⟩) m n,.pointer (some ⟨w.heap.size,2,none⟩),.slice a' ts.length c',.func (.func 121) #[] #[.pointer (some ⟨w.heap.size+1+1,0,none⟩)],.int .i64 ((ts.length-1-k:Nat):Int),.agg #[.bool (ts.getD (ts.length-1-k) zT).l,(ps.getD (ts.length-1-k) zV).1,(ps.getD (ts.length-1-k) zV).2],undef,undef,undef,undef,undef,undef,undef,undef,undef,undef],defers:=[] })
  (fun k ac _ A B row hA hg' hrow=>by
   obtain ⟨bx,h1,hx,e⟩:=hA
   exact ⟨bx,h1,⟨cell_kept hx.1 hg' fun r e=>(hrow r e).2,cell_kept hx.2.1 hg' fun r e=>(hrow r e).2,cell_kept hx.2.2 hg' fun r e=>(hrow r e).2⟩,e⟩) ?hit ?hassign ?hbody ?hdone
 case hit =>
  intro l J W hJI hJ0 hY
  refine vX 2 (by decide) l (w.heap.size+2) b o c' ts.length a' hla hN (fun i=>(ts.getD i zT).l) (fun i=>(ps.getD i zV).1) (fun i=>(ps.getD i zV).2) J (fun k W h=>?_) hY W hJ0
  have hIk:=hJI k W h
  refine ⟨((HID.out k W).1 hIk).2.2.1,fun i hi=>?_⟩
  have hr':=fC hrg (HB0.out k W hIk)
  obtain ⟨c0,c1,c2⟩:=sQ ts ps hp i hi
  exact ⟨hr' _ _ c0,by rw [Nat.add_assoc];exact hr' _ _ c1,by rw [Nat.add_assoc];exact hr' _ _ c2⟩
 case hassign =>
  intro l k W K hk hIk hK
  have hIk2:=(HID.out k W).1 hIk
  have hsz2:=hIk2.2.1
  clear hIk2
  obtain ⟨k1,k2,k3,k4,k5,k6,e1,e2⟩:=(hits (ts.length-1-k) (by omega)).slices
  have HK2:Hid (∀ a' W',KeepsFrom V.heap.size W W'→I k W'→(∃ bx,w.heap.size+3≤bx∧Bx W' bx (ts.getD (ts.length-1-k) zT).l (ps.getD (ts.length-1-k) zV).1 (ps.getD (ts.length-1-k) zV).2∧a'=_)→K a' W'):=hK
  clear hK
  generalize (ts.getD (ts.length-1-k) zT).l=lj at *
  generalize (ps.getD (ts.length-1-k) zV).1=dd at *
  generalize (ps.getD (ts.length-1-k) zV).2=qq at *
  subst e1 e2
  generalize ((ts.length-1-k:Nat):Int)=jv at *
  gi_wp2
  exact HK2.out _ _ ((KeepsOthers.alloc _ _).from _) (hOwn.alloc _ hIk) ⟨W.heap.size,by omega,Bx.new,rfl⟩
 case hbody =>
  intro l k ac W hk hIk hax
  obtain ⟨bx,hbx,hX,rfl⟩:=hax
  have hIk2:=(HID.out k W).1 hIk
  obtain ⟨i1,i2,i3,i4,i5,i6⟩:=hIk2
  have hitj:=hits (ts.length-1-k) (by omega)
  have hdr:=vY hk
  have hle:=qc ts (ts.length-(k+1))
  have hEk:=hE k
  have hEk1:=hE (k+1)
  rw [hdr,List.length_append] at hEk1 hle
  have hmem:=iG (show (ts.length-1-k)<ts.length by omega)
  have PI:Hid (Calls Tryz.prog 57 #[.slice (some ⟨gr,0,none⟩) (m-E k) n,.agg #[.bool (ts.getD (ts.length-1-k) zT).l,(ps.getD (ts.length-1-k) zV).1,(ps.getD (ts.length-1-k) zV).2]] W fun e w'=>e = .returned (.slice (some ⟨gr,0,none⟩) (m-E (k+1)) n)∧Rq w' gr (ovr L m (aM (ts.drop (ts.length-(k+1)))))∧W.grownBy w' (some gr)):=by
   have r:=ih (ts.getD (ts.length-1-k) zT) hmem w0 hitj W (HB0.out k W hIk) (gr:=gr) (m:=m-E k) (n:=n) (L:=ovr L m (aM (ts.drop (ts.length-k)))) hgr (by rw [pZ (by omega) (by omega)];exact hL) (by omega) (by omega) hn i6
   rw [hEk,p8 (by omega) (by omega),←hdr] at r
   rw [hEk1,hEk,show m-((bT (ts.getD (ts.length-1-k) zT)).length+(aM (ts.drop (ts.length-k))).length)=m-(aM (ts.drop (ts.length-k))).length-(bT (ts.getD (ts.length-1-k) zT)).length by omega]
   exact r
  obtain ⟨k1,k2,k3,k4,k5,k6,e1,e2⟩:=hitj.slices
  have NX:Hid (∀ W',w.grownBy W' (some gr)→w.heap.size+3≤W'.heap.size→W'.cell? ⟨w.heap.size+2,0,none⟩=some (.slice a' ts.length c')→W'.cell? ⟨w.heap.size+1,0,none⟩=some (.slice (some ⟨gr,0,none⟩) (m-E (k+1)) n)→W'.frozen? ⟨w.heap.size+1,0,none⟩=false→Rq W' gr (ovr L m (aM (ts.drop (ts.length-(k+1)))))→I (k+1) W'):=fun W' j1 j2 j3 j4 j5 j6=>(HID.out (k+1) W').2 ⟨j1,j2,j3,j4,j5,j6⟩
  clear hitj hdr hle hEk hEk1 hmem
  generalize (ts.getD (ts.length-1-k) zT).l=lj at *
  generalize (ps.getD (ts.length-1-k) zV).1=dd at *
  generalize (ps.getD (ts.length-1-k) zV).2=qq at *
  subst e1 e2
  generalize ((ts.length-1-k:Nat):Int)=jv at *
  generalize aM (ts.drop (ts.length-(k+1)))=EB at *
  generalize m-E (k+1)=m1 at *
  generalize m-E k=m0 at *
  obtain ⟨x0,x1,x2⟩:=hX
  have hne:w.heap.size+1≠gr:=by omega
  have hne2:w.heap.size+2≠gr:=by omega
  gi_wp2_with (refine ⟨trivial,?_⟩;gi_at_call 57;refine (CallsIn.inRound l (callsIn_wide.2 PI.out)).mono ?_;rintro e W2 ⟨rfl,r2,g2⟩;(have y4:W2.cell? ⟨w.heap.size+1,0,none⟩=some (.slice (some ⟨gr,0,none⟩) m0 n):=g2.cell i4 (fun e=>hne (Option.some.inj e)));(have y5:W2.frozen? ⟨w.heap.size+1,0,none⟩=false:=by rw [World.frozen?_of_block (w:=W) (a:=⟨w.heap.size+1,0,none⟩) (g2.block _ (by show w.heap.size+1<_;omega) (fun e=>hne (Option.some.inj e)))];exact i5);(have y3:W2.cell? ⟨w.heap.size+2,0,none⟩=some (.slice a' ts.length c'):=g2.cell i3 (fun e=>hne2 (Option.some.inj e))))
  have g3:=o8 W2 ⟨w.heap.size+1,0,none⟩ (.slice (some ⟨gr,0,none⟩) m1 n)
  refine ⟨(KeepsFrom.of_grownBy g2 fun j e=>by have:=Option.some.inj e;have:=HVs.out;omega).trans (KeepsFrom.of_grownBy g3 fun j e=>by have:w.heap.size+1=j:=Option.some.inj e;have:=HVs.out;omega),NX.out _ (jc (i1.trans g2) g3 (by show w.heap.size≤w.heap.size+1;omega)) (by rw [World.size_setCell];exact Nat.le_trans i2 g2.size) (g3.cell y3 (fun e=>by have:w.heap.size+2=w.heap.size+1:=Option.some.inj e;omega)) (by simp [go_sem,y4]) (by rw [World.frozen?_setCell];exact y5) (r2.grown g3 fun e=>hne (Option.some.inj e))⟩
 case hdone =>
  intro D W hD hIN hK
  obtain ⟨i1,i2,i3,i4,i5,i6⟩:=(HID.out _ W).1 hIN
  have eN:ts.length-ts.length=0:=Nat.sub_self _
  have hEN:=hE ts.length
  rw [eN,List.drop_zero] at hEN i6
  have PH:Hid (Calls Tryz.prog 91 #[.slice (some ⟨gr,0,none⟩) (m-E ts.length) n,.bool true,.int .i64 ((E ts.length:Nat):Int)] W fun e w'=>e = .returned (.slice (some ⟨gr,0,none⟩) (m-(hdR 192 (aM ts).length++aM ts).length) n)∧Rq w' gr (ovr L m (hdR 192 (aM ts).length++aM ts))∧W.grownBy w' (some gr)):=by
   have r:=sU (L:=ovr L m (aM ts)) (gr:=gr) (m:=m-(aM ts).length) (n:=n) (h:=(aM ts).length) (by rw [pZ (by omega) (by omega)];exact hL) (by omega) (by omega) hn (by omega) W i6
   rw [p8 (by omega) (by omega)] at r
   rw [hEN,List.length_append,show m-((hdR 192 (aM ts).length).length+(aM ts).length)=m-(aM ts).length-(hdR 192 (aM ts).length).length by omega]
   exact r
  have hEm:E ts.length≤m:=by omega
  have hsub:(m:Int)-((m-E ts.length:Nat):Int)=((E ts.length:Nat):Int):=by omega
  clear hEN
  generalize E ts.length=EN at *
  have HE:Hid (∃ EB m2,hdR 192 (aM ts).length++aM ts=EB∧m-(hdR 192 (aM ts).length++aM ts).length=m2):=⟨_,_,rfl,rfl⟩
  obtain ⟨EB,m2,hq1,hq2⟩:=HE.out
  have HE2:Hid (hdR 192 (aM ts).length++aM ts=EB∧m-(hdR 192 (aM ts).length++aM ts).length=m2):=⟨hq1,hq2⟩
  rw [hq2,hq1] at PH
  clear hq1 hq2 HE
  have hmm:((m-EN:Nat):Int)≤(m:Int):=by omega
  generalize m-EN=m1 at *
  gi_wp2_with (refine ⟨trivial,?_⟩;gi_at_call 91;refine (callsIn_wide.2 PH.out).mono ?_;rintro e W2 ⟨rfl,r2,g2⟩)
  have hDs:=HVs.out
  have hK2:W2.heap[D]?=some (.deferred (some [])):=(g2.block D (Array.getElem?_eq_some_iff.1 hK).1 fun e=>by have:=Option.some.inj e;omega).trans hK
  rw [HE2.out.2,HE2.out.1]
  have g4:W2.grownBy (W2.putObj D (.deferred none)) (some D):=grownBy_putObj' _ _ _
  refine ⟨by simp,.inl ⟨_,_,rfl,run_takeDeferred hK2,?_⟩⟩
  refine ⟨.slice (some ⟨gr,0,none⟩) m2 n,?_,rfl,r2.grown g4 (fun e=>by have:=Option.some.inj e;omega),jc (i1.trans g2) g4 (by omega)⟩
  simp [results,Tryz.f57,go_sem]
theorem vZ:∀ (t:Tr) {d q:Value} (_:g9 t=false) (_:wtT t<4194304) (w0:World) (_:It w0 t d q) (w:World) (_:Below w0.heap.size w0 w) {gr m n:Nat} {L:List Int} (_:w0.heap.size≤gr) (_:L.length=n) (_:m≤n) (_:(bT t).length≤m) (_:n<1000000000) (_:Rq w gr L),Calls Tryz.prog 57 #[.slice (some ⟨gr,0,none⟩) m n,itV t d q] w fun e w'=>e = .returned (.slice (some ⟨gr,0,none⟩) (m-(bT t).length) n)∧Rq w' gr (ovr L m (bT t))∧w.grownBy w' (some gr):=by
 refine Tr.ind fun l X ts ih d q ho hw w0 hI w hB gr m n L hgr hL hm hx hn hr=>?_
 rw [It] at hI
 obtain ⟨⟨a,b,o,c,rfl,h2,h3,h4⟩,a',b',o',c',rfl,k2,k3,k4⟩:=hI
 rw [g9,Bool.or_eq_false_iff] at ho
 rw [wtT] at hw
 cases l with
 | false =>
  rw [bT,if_neg Bool.false_ne_true] at hx ⊢
  exact sV (by omega) h3 w0 w hB h4 hgr hL hm hx hn hr
 | true =>
  rw [bT,if_pos rfl] at hx ⊢
  refine sW (by omega) k3 w0 w hB k4 hgr hL hm hx hn hr fun t ht d q w0 h1 w h5 gr m n L e1 e2 e3 e4 e5 e6=>?_
  obtain ⟨i,hi,rfl⟩:=List.getElem_of_mem ht
  have hwt:=pT hi
  rw [List.getD,List.getElem?_eq_getElem hi,Option.getD_some] at hwt
  have hod:g9 ts[i]=false:=by
   cases e:g9 ts[i] with
   | false=>rfl
   | true =>
    have:=nM (ts.take (i+1)) (ts.drop (i+1))
    rw [List.take_append_drop,da hi,lw] at this
    rw [List.getD,List.getElem?_eq_getElem hi,Option.getD_some,e] at this
    rw [ho.2] at this
    simp at this
  exact ih _ ht hod (by omega) w0 h1 w h5 e1 e2 e3 e4 e5 e6
open Go.RowKit Go.Sort
theorem AH {L X:List Int} (h:L.length=X.length):ovr L X.length X=X:=by
 unfold ovr
 rw [Nat.sub_self,List.take_zero,List.nil_append,List.drop_of_length_le (by omega),List.append_nil]
theorem Rq.own {W:World} {B gr n:Nat} {L:List Int} (h:Rq W gr L) (hB:B≤gr) (hL:L.length=n) (hn:n<1000000000):cc B W (.slice (some ⟨gr,0,none⟩) n n) L:=by
 subst hL
 refine ⟨by simp,.inr ⟨gr,L.length,(L.map (Value.int .u8)).toArray,rfl,hB,h,Nat.le_refl _,by unfold maxLen;omega,by simp,?_⟩⟩
 rw [Nat.mul_one]
 exact List.take_of_length_le (by simp)
theorem AJ {w W:World} {n:Nat} (h:W.ownsRow w.heap.size 5 1 (.slice (some ⟨w.heap.size,0,none⟩) n n) n (madeCells (Value.int .u8 0).cells (n*1)).toList):Rq W w.heap.size (List.replicate n 0):=by
 have r:=Av h
 have e:(madeCells (Value.int .u8 0).cells (n*1)).toList=(List.replicate n (0:Int)).map (Value.int .u8):=by
  rw [Nat.mul_one,List.map_replicate]
  exact toList_madeCells_one _ _
 rw [e] at r
 exact r
theorem sX {t:Tr} {d q:Value} (hw:wtT t<4194304) (w:World) (h:It w t d q) :
  Calls Tryz.prog 25 #[itV t d q] w fun e w'=>∃ v',e = .returned (.tuple #[v',.int .i64 (iI t)])∧cc w.heap.size w' v' (sP t)∧Below w.heap.size w w':=by
 have M1:Hid (∀ W,Below w.heap.size w W→Calls Tryz.prog 56 #[.agg #[.bool t.l,d,q]] W fun e w'=>e = .returned (.tuple #[.int .i64 (nO t),.int .i64 (iI t)])∧Below W.heap.size W w'):=fun W B=>yw hw W (It.keep B t h)
 obtain ⟨i0,hi,hz0,hz1,hz2⟩:=info_parts dE
 have HI:=h
 obtain ⟨k1,k2,k3,k4,k5,k6,rfl,rfl⟩:=h.slices
 by_cases he:iI t=0
 ·have ho:g9 t=false:=by
   cases e:g9 t with
   | false=>rfl
   | true=>unfold iI at he;rw [if_pos e] at he;cases he
  have hel:=iH t
  have hsz:nO t=((bT t).length:Nat):=by unfold nO;rw [if_pos he]
  have es:sP t=bT t:=by unfold sP;rw [if_pos he]
  have PI:Hid (∀ W gr,Below w.heap.size w W→w.heap.size≤gr→Rq W gr (List.replicate (bT t).length 0)→Calls Tryz.prog 57 #[.slice (some ⟨gr,0,none⟩) (bT t).length (bT t).length,.agg #[.bool t.l,.slice k1 k2 k3,.slice k4 k5 k6]] W fun e w'=>(∃ v,e = .returned v)∧cc w.heap.size w' (.slice (some ⟨gr,0,none⟩) (bT t).length (bT t).length) (bT t)∧W.grownBy w' (some gr)):=fun W gr B hg r=>by
   refine (vZ t ho hw w HI W B (gr:=gr) (m:=(bT t).length) (n:=(bT t).length) (L:=List.replicate (bT t).length 0) hg (by simp) (Nat.le_refl _) (Nat.le_refl _) (by omega) r).mono ?_
   rintro e w' ⟨rfl,r2,g2⟩
   rw [AH (by simp)] at r2
   exact ⟨⟨_,rfl⟩,r2.own hg rfl (by omega),g2⟩
  have hlen:((bT t).length:Int)≤16777216:=by omega
  rw [es,he]
  rw [he,hsz] at M1
  clear es he ho hel hsz hw HI h
  unfold itV
  generalize t.l=l at *
  generalize hEL:bT t=EX at *
  obtain ⟨n,hn⟩:∃ n,n=EX.length:=⟨_,rfl⟩
  rw [←hn] at PI M1 hlen
  have HEL:Hid (n=EX.length):=hn
  clear hn hEL
  go_enter Tryz.func25,Tryz.ntmps25
  refine wp_seq_k fun K h=>?_
  have H:Hid _:=h
  clear h
  go_wp2_with fail
  refine H.out _ _ ?_
  clear H K
  refine ah (fun W=>Below w.heap.size w W∧Bx W w.heap.size l (.slice k1 k2 k3) (.slice k4 k5 k6)) ⟨(Below.refl _ _).alloc (Nat.le_refl _) _,⟨by simp [go_sem],by simp [go_sem],by simp [go_sem]⟩⟩ ?_
  rintro W ⟨B,hX⟩
  have hX':=hX
  obtain ⟨x0,x1,x2⟩:=hX'
  refine wp_seq_k fun K h=>?_
  have H:Hid _:=h
  clear h
  go_wp2_with ((with_reducible refine (M1.out _ B).mono ?_);rintro e1 w1 ⟨rfl,hw1⟩)
  refine H.out _ _ ?_
  clear H K x0 x1 x2 M1
  replace B:=B.trans (hw1.mono B.size)
  replace hX:=hX.keep hw1
  clear hw1 W
  go_wp2_with (first
   | (at_make;refine wpList_make_full _ rfl _ _ 52 rfl w1.heap.size 5 i0 (.int .u8 0) 1 Tryz.underlying52 hi hz0 hz1 .i64 .i64 _ _ n rfl rfl rfl rfl (by rw [hz2];omega) (by unfold maxLen;omega) (Nat.le_refl _) ?_;intro w2 hown hgrow;(have R2:Rq w2 w1.heap.size (List.replicate n 0):=AJ hown);(have BB:RowKit.Below w1.heap.size w1 w2:=⟨hgrow.os,hgrow.tape,hgrow.output,hgrow.size,fun k hk=>hgrow.block k hk (by simp)⟩);(have B2:RowKit.Below w.heap.size w w2:=B.trans (BB.mono B.size));(obtain ⟨x0,x1,x2⟩:=hX.keep BB))
   | (go_at_call 57;(with_reducible refine (PI.out _ w1.heap.size B2 B.size R2).mono ?_);rintro e3 w3 ⟨⟨v3,rfl⟩,o3,g3⟩))
  simp [bodyPost,results,Tryz.results25,go_sem]
  exact ⟨o3,iJ B2 g3 fun r e=>by have:=Option.some.inj e;have:=B.size;omega⟩
 ·have es:sP t=[]:=by unfold sP;rw [if_neg he]
  rw [es]
  clear es HI h hw
  unfold itV
  generalize t.l=l at *
  generalize iI t=y at *
  generalize nO t=z at *
  have he':(y==0)=false:=by simpa using he
  go_enter Tryz.func25,Tryz.ntmps25
  go_wp2_with ((with_reducible refine (M1.out _ ((Below.refl _ _).alloc (Nat.le_refl _) _)).mono ?_);rintro e1 w1 ⟨rfl,hw⟩;(have B1:Below w.heap.size w w1:=((Below.refl w.heap.size w).alloc (Nat.le_refl _) _).trans (hw.mono (by simp))))
  all_goals simp [bodyPost,results,Tryz.results25,go_sem]
  all_goals exact ⟨cc.nil _ _,B1⟩
open Go.RowKit Go.Sort
theorem AK {n:Nat} (h:n<16777216):Bys (beN n):=by
 unfold beN
 intro x hx
 split at hx
 ·simp at hx;omega
 ·split at hx
  ·simp at hx;omega
  ·simp at hx;omega
theorem ui {f:Int} {n:Nat} (hf:f=128∨f=192) (h:n<16777216):Bys (hdR f n):=by
 unfold hdR
 intro x hx
 split at hx
 ·simp at hx;omega
 ·have hl:=kw n
  rcases List.mem_cons.1 hx with e|e
  ·omega
  ·exact AK h x e
mutual
def ByT:Tr→Prop
 | .mk _ X ts=>Bys X∧ByS ts
def ByS:List Tr→Prop
 | []=>True
 | t :: ts=>ByT t∧ByS ts
end
mutual
theorem rk:∀ t:Tr,ByT t→wtT t<4194304→Bys (bT t)
 | .mk l X ts=>fun h hw=>by
  rw [ByT] at h
  rw [wtT] at hw
  have hE:=gi ts
  rw [bT]
  split
  ·exact (ui (.inr rfl) (by omega)).app (rl ts h.2 (by omega))
  ·unfold cV
   split
   ·exact h.1
   ·exact (ui (.inl rfl) (by omega)).app h.1
theorem rl:∀ ts:List Tr,ByS ts→wtS ts<4194304→Bys (aM ts)
 | []=>fun _ _ x hx=>by rw [aM] at hx;cases hx
 | t :: ts=>fun h hw=>by
  rw [ByS] at h
  rw [wtS] at hw
  rw [aM]
  exact (rk t h.1 (by omega)).app (rl ts h.2 (by omega))
end
end Go.Proofs.YtjoandmehahfgaaGreatDoor
