import Derived.Test.YtnnnaajgjniiaaaGreatDoorSRRoots
import Derived.Deep.AppendLies
import Derived.Test.YtnnnaajgjniiaaaGreatDoorAb
import Derived.Test.YtnnnaajgjniiaaaGreatDoorSComp
import Derived.Test.YtnnnaajgjniiaaaGreatDoorSPad
import Derived.Test.YtnnnaajgjniiaaaGreatDoorTail
import Derived.Laws.OwnMore
import Derived.Test.YtnnnaajgjniiaaaGreatDoorQTail
set_option maxRecDepth 100000
set_option maxHeartbeats 16000000
namespace Go.Proofs.YtnnnaajgjniiaaaGreatDoor.S
open Go.RowKit Go.Sort
theorem qn {B:Nat} {w:World} {v:Value} {X:List (BitVec 32)} {u:BitVec 32} {ty:TypeId} {ad:Addr} {c:Nat} (h:OwW B w v X) (hl:X.length<1073741824) (hB:B≤w.heap.size) (hu:∀ j x,[Value.int .u32 (U u)][j]?=some x→w.cell? (ad.add j)=some x) :
  ∃ g cap w',(Builtin.append_ #[179,179] ty #[v,.slice (some ad) 1 c]).run Tryz.prog w = .ok (.slice (some ⟨g,0,none⟩) (X.length+1) cap) w' ∧
   OwW B w' (.slice (some ⟨g,0,none⟩) (X.length+1) cap) (X++[u])∧w.grownBy w' v.ownBlock∧(v.ownBlock=some g∨(g=w.heap.size∧w.grownBy w' Option.none)):=by
 obtain ⟨i0,hi,hz0,hz1,hz2⟩:=eX iJ
 have h1:∀ x∈[Value.int .u32 (U u)],x.oneCell'=true:=fun x hx=>by simp at hx;subst hx;rfl
 have eo:∀ {w':World} {v':Value},w'.ownsRow B 119 1 v' (X.length+1) (aE X++[.int .u32 (U u)])→OwW B w' v' (X++[u]):=fun {w'} {v'} h=>by
  rw [OwW,List.length_append,←fq];exact h
 obtain ⟨v',w',hr,h2,h3,_,h5⟩:=run_append_own_at (P:=Tryz.prog) w B 179 ty 119 i0 (.int .u32 0) 1 4 Tryz.underlying179 hi hz0 hz1 hz2 rfl (by decide) v X.length _ h ad 1 c [.int .u32 (U u)] rfl hu h1 (by unfold maxLen;omega) (by omega) hB
 obtain ⟨g,cap,rfl,_,hlt⟩:=h2.form (by omega)
 refine ⟨g,cap,w',hr,eo h2,h3,?_⟩
 rcases h.2 with ⟨rfl,h0⟩|⟨g0,cap0,cur,rfl,hb,hc,hle,h63,hs,ht⟩
 ·right
  refine ⟨?_,h3⟩
  rcases h5 with h5|h5
  ·cases h5
  ·exact Option.some.inj h5
 ·by_cases hroom:X.length+1≤cap0
  ·left
   obtain ⟨w2,hr2,_,_⟩:=run_append_fits (P:=Tryz.prog) w B 179 ty 119 i0 1 Tryz.underlying179 hi hz1 g0 X.length cap0 _ h ad 1 c [.int .u32 (U u)] rfl hu h1 hroom
   replace hr2:=hr.symm.trans hr2
   have e1:=(Result.ok.inj hr2).1
   have e5:g=g0:=congrArg Addr.block (Option.some.inj (Value.slice.inj e1).1)
   rw [e5]
   rfl
  ·right
   have hr2:=run_append_grow (P:=Tryz.prog) w 179 ty 119 i0 (.int .u32 0) Tryz.underlying179 hi hz0 ⟨g0,0,none⟩ X.length cap0 (aE X) (by rw [hz1,aP];simp) (World.ownsRow.cells h (g:=g0) rfl) ad 1 c [.int .u32 (U u)] (by rw [hz1];rfl) hu (by omega) (by omega) (by rw [hz2];exact growslice_fits (by omega) (by omega))
   replace hr2:=hr.symm.trans hr2
   have e1:=(Result.ok.inj hr2).1
   have e5:=congrArg Addr.block (Option.some.inj (Value.slice.inj e1).1)
   refine ⟨e5,?_⟩
   rw [(Result.ok.inj hr2).2]
   exact ⟨rfl,rfl,rfl,by simp,fun k hk _=>heap_alloc_old w.drew _ hk⟩
theorem OwW.cell {B:Nat} {W:World} {g c:Nat} {L:List (BitVec 32)} (h:OwW B W (.slice (some ⟨g,0,none⟩) L.length c) L) {j:Nat} (hj:j<L.length):W.cell? ⟨g,j,none⟩=some (.int .u32 (U (L.getD j 0))):=by
 rw [World.ownsRow.cellAt h j (by omega),aE,List.getElem?_map,List.getElem?_eq_getElem hj,List.getD,List.getElem?_eq_getElem hj];rfl
theorem jV {ops:Array Oper} {o:Oper} {a:Act} {K:Act→World→Prop} {Q:Exit→Act→World→Prop} {E:Prop} {w:World} (hgd:o.guard=Option.none) (s x:Operand)
  (ho:o.op = .call { callee:=.builtin .append,args:=#[s,x],argTypes:=#[179,179] }) (B:Nat) (v:Value) (X:List (BitVec 32)) (u:BitVec 32) (ad:Addr) (c:Nat) (hs:a.eval s=v) (hx:a.eval x = .slice (some ad) 1 c)
  (h:OwW B w v X) (hl:X.length<1073741824) (hB:B≤w.heap.size) (hu:∀ j y,[Value.int .u32 (U u)][j]?=some y→w.cell? (ad.add j)=some y)
  (hK0:∀ g cap w',OwW B w' (.slice (some ⟨g,0,none⟩) (X.length+1) cap) (X++[u])→w.grownBy w' v.ownBlock→(v.ownBlock=some g∨(g=w.heap.size∧w.grownBy w' Option.none))→K (a.put o.dst (.slice (some ⟨g,0,none⟩) (X.length+1) cap)) w') :
  if Region.wanted o (yielded ops a.tmps)=true then Oper.wp Tryz.prog o a w K Q else E:=by
 have hw:Region.wanted o (yielded ops a.tmps)=true:=by simp [Region.wanted,hgd]
 rw [if_pos hw]
 obtain ⟨g,cap,w',hr,h2,h3,h4⟩:=qn (ty:=o.type) (c:=c) h hl hB hu
 unfold Oper.wp execOp
 simp only [ho,resolve,invoke,builtin,Sem.run_bind,Sem.run_pure,Result.andThen_ok,List.map_toArray,List.map_cons,List.map_nil,hs,hx,hr]
 exact hK0 g cap w' h2 h3 h4
theorem uu {W:World} {t:TypeId} {v:Value}:∀ j u,[v][j]?=some u→(W.alloc (.cells #[v] t)).drew.cell? ((⟨W.heap.size,0,none⟩:Addr).add j)=some u:=fun j u hu=>by
 rw [Addr.add_mid,Nat.zero_add]
 show (W.alloc _).cell? _=_
 rw [World.cell?_alloc_mark]
 simpa using hu
theorem rG {bd od cd:Nat} {B:List (BitVec 8)} {S:List (BitVec 32)} (hl:B.length=64) (hS:S.length=64) (h1:∀ t,t<16→S.getD t 0=i5 B t) (h2:∀ t,16≤t→t<64→S.getD t 0=iQ S t) (w:World) (hB:Byo w bd od B) :
  Calls Tryz.prog 194 #[.slice (some ⟨bd,od,none⟩) 64 cd] w fun e w'=>(∃ v,e = .returned v∧OwW w.heap.size w' v S)∧Below w.heap.size w w':=by
 obtain ⟨i0,hi,hz0,hz1,hz2⟩:=eX iJ
 have HA:Hid (B.length=64∧S.length=64∧(∀ t,t<16→S.getD t 0=i5 B t)∧(∀ t,16≤t→t<64→S.getD t 0=iQ S t)∧Byo w bd od B):=⟨hl,hS,h1,h2,hB⟩
 clear hl hS h1 h2 hB
 go_enter Tryz.func194,Tryz.ntmps194
 go_wp2_with fail
 go_loopg [3,4] 16 (fun k lv iv wr=>∃ (t:Nat),k=16-t∧t≤16∧iv = .int .i64 (t:Int)∧OwW w.heap.size wr lv (S.take t)∧Below w.heap.size w wr)
 case atStart=>exact ⟨0,rfl,by decide,rfl,OwW.nil,Below.refl _ _⟩
 case round =>
  obtain ⟨t,hk,ht,rfl,hown,Bw⟩:=hrel
  have HK:Hid (gk=16-t):=hk
  have HF:Hid (OwW w.heap.size wr u3 (S.take t)∧Below w.heap.size w wr):=⟨hown,Bw⟩
  clear hk hown Bw
  by_cases h8:t=16
  ·subst h8
   have HF2:Hid (OwW w.heap.size wr u3 (S.take 16)∧Below w.heap.size w wr):=HF
   clear HF
   go_wp2_with fail
   go_loopg [3,5] 48 (fun k lv iv wr=>∃ (t:Nat),k=64-t∧16≤t∧t≤64∧iv = .int .i64 (t:Int)∧OwW w.heap.size wr lv (S.take t)∧Below w.heap.size w wr)
   case atStart=>exact ⟨16,rfl,by decide,by decide,rfl,HF2.out.1,HF2.out.2⟩
   case round =>
    clear HF2 HK
    obtain ⟨t,hk,t16,ht,rfl,hown,Bw⟩:=hrel
    have HK:Hid (gk=64-t):=hk
    clear hk
    by_cases h8:t=64
    ·subst h8
     have HF:Hid (OwW w.heap.size wr u3 (S.take 64)∧Below w.heap.size w wr):=⟨hown,Bw⟩
     have HR:Hid (S.take 64=S):=by rw [←HA.out.2.1];exact List.take_length
     clear hown Bw t16 ht
     go_wp2
     go_ret
     exact ⟨⟨_,rfl,by have h:=HF.out.1;rw [HR.out] at h;exact h⟩,HF.out.2⟩
    ·have tl:(S.take t).length=t:=by rw [List.length_take,HA.out.2.1];omega
     obtain ⟨g,c,rfl⟩:∃ g c,u3 = .slice (some ⟨g,0,none⟩) t c:=by
      rcases hown.2 with ⟨e,hx⟩|⟨g,cap,cur,e,_⟩
      ·exfalso;rw [tl] at hx;omega
      ·exact ⟨g,cap,by rw [tl] at e;exact e⟩
     have HF:Hid (OwW w.heap.size wr (.slice (some ⟨g,0,none⟩) t c) (S.take t)∧Below w.heap.size w wr):=⟨hown,Bw⟩
     have cl:∀ j,j<t→wr.cell? ⟨g,j,none⟩=some (.int .u32 (U (S.getD j 0))):=fun j hj=>by
      have ho:=hown
      rw [←tl] at ho
      have h:=OwW.cell (L:=S.take t) (by rw [tl] at ho ⊢; exact ho) (j:=j) (by omega)
      rw [h,List.getD,List.getElem?_take_of_lt hj,←List.getD]
     have ga:=cl (t-15) (by omega)
     have gb:=cl (t-2) (by omega)
     have gc:=cl (t-7) (by omega)
     have gd:=cl (t-16) (by omega)
     have NX:Hid (S.take (t+1)=S.take t++[iQ S t]):=(by rw [fK (by rw [HA.out.2.1];omega),HA.out.2.2.2.1 t t16 (by omega)]:S.take (t+1)=S.take t++[iQ S t])
     have LR:Hid ((S.take t).length=t∧t<64∧16≤t):=⟨tl,by omega,t16⟩
     have ea:((t:Int)-15).toNat=t-15:=by omega
     have eb:((t:Int)-2).toNat=t-2:=by omega
     have ec:((t:Int)-7).toNat=t-7:=by omega
     have ed:((t:Int)-16).toNat=t-16:=by omega
     have i1:(t:Int)<64:=by omega
     have i2:(16:Int)≤(t:Int):=by omega
     unfold iQ at NX
     generalize S.getD (t-15) 0=a at *
     generalize S.getD (t-2) 0=b at *
     generalize S.getD (t-7) 0=cc at *
     generalize S.getD (t-16) 0=dd at *
     clear cl tl hown Bw ht t16 h8
     go_wp2_with fail
     refine (bV a (n:=7) rfl (by decide) (by decide) _).mono ?_
     rintro e wa ⟨rfl,hb⟩
     replace HF:Hid (OwW w.heap.size wa (.slice (some ⟨g,0,none⟩) t c) (S.take t)∧Below w.heap.size w wa):=⟨HF.out.1.keep hb,HF.out.2.trans (hb.mono HF.out.2.size)⟩
     replace ga:=cell_keep hb ga;replace gb:=cell_keep hb gb;replace gc:=cell_keep hb gc;replace gd:=cell_keep hb gd
     clear hb
     go_wp2_with fail
     refine (bV a (n:=18) rfl (by decide) (by decide) _).mono ?_
     rintro e wb ⟨rfl,hb⟩
     replace HF:Hid (OwW w.heap.size wb (.slice (some ⟨g,0,none⟩) t c) (S.take t)∧Below w.heap.size w wb):=⟨HF.out.1.keep hb,HF.out.2.trans (hb.mono HF.out.2.size)⟩
     replace ga:=cell_keep hb ga;replace gb:=cell_keep hb gb;replace gc:=cell_keep hb gc;replace gd:=cell_keep hb gd
     clear hb
     have x1:=cN (bD a 7) (bD a 18)
     have x2:bits .xor .u32 (U (bD a 7 ^^^ bD a 18)) (U a/8)=U (sml a 7 18 3):=by
      have h:=nB a 3
      rw [show (2:Int) ^ 3=8 by decide] at h
      rw [h,cN,sml]
     go_wp2_with fail
     refine (bV b (n:=17) rfl (by decide) (by decide) _).mono ?_
     rintro e wc ⟨rfl,hb⟩
     replace HF:Hid (OwW w.heap.size wc (.slice (some ⟨g,0,none⟩) t c) (S.take t)∧Below w.heap.size w wc):=⟨HF.out.1.keep hb,HF.out.2.trans (hb.mono HF.out.2.size)⟩
     replace ga:=cell_keep hb ga;replace gb:=cell_keep hb gb;replace gc:=cell_keep hb gc;replace gd:=cell_keep hb gd
     clear hb
     go_wp2_with fail
     refine (bV b (n:=19) rfl (by decide) (by decide) _).mono ?_
     rintro e we ⟨rfl,hb⟩
     replace HF:Hid (OwW w.heap.size we (.slice (some ⟨g,0,none⟩) t c) (S.take t)∧Below w.heap.size w we):=⟨HF.out.1.keep hb,HF.out.2.trans (hb.mono HF.out.2.size)⟩
     replace gc:=cell_keep hb gc;replace gd:=cell_keep hb gd
     clear hb ga gb
     have x3:=cN (bD b 17) (bD b 19)
     have x4:bits .xor .u32 (U (bD b 17 ^^^ bD b 19)) (U b/1024)=U (sml b 17 19 10):=by
      have h:=nB b 10
      rw [show (2:Int) ^ 10=1024 by decide] at h
      rw [h,cN,sml]
     clear wa wb wc wr
     go_wp2_with fail
     generalize sml a 7 18 3=s0 at *
     generalize sml b 17 19 10=s1 at *
     have p1:=sr s1 cc
     have p2:=sr (s1+cc) s0
     have p3:=sr (s1+cc+s0) dd
     have w1:IntKind.i64.wrap ((t:Int)-7)=(t:Int)-7:=by rw [IntKind.wrap_i64];omega
     have w2:IntKind.i64.wrap ((t:Int)-16)=(t:Int)-16:=by rw [IntKind.wrap_i64];omega
     have k1:0≤(t:Int)-7:=by omega
     have k5:¬((t:Int)<7):=by omega
     have k6:¬((t:Int)<16):=by omega
     have k2:(t:Int)-7<(t:Int):=by omega
     have k3:0≤(t:Int)-16:=by omega
     have k4:(t:Int)-16<(t:Int):=by omega
     refine wp_region_held_drew (S:=fun w'=>w'.cell? ⟨g,t-7,none⟩=some (.int .u32 (U cc))∧w'.cell? ⟨g,t-16,none⟩=some (.int .u32 (U dd))) (by kernel_rfl) ⟨gc,gd⟩ (fun hHeld=>?_)
     refine wpAnyH_take (i:=0) (oi:=_) (v:=.slice (some ⟨g,0,none⟩) t c) rfl (by kernel_rfl) (by kernel_rfl) (by kernel_rfl) (fun _ _ _ h=>h) (Or.inl ⟨by rfl,?_⟩) (by assumption) ?_
     ·intro wq hSw;obtain ⟨hq1,hq2⟩:=hSw
      first|(go_simp;done)|(go_simp;rfl)|(simp [go_sem, *];done)
     (try simp only [Act.put,List.setIfInBounds_toArray])
     refine wpAnyH_take (i:=1) (oi:=_) (v:=.int .u32 (U s1)) rfl (by kernel_rfl) (by kernel_rfl) (by kernel_rfl) (fun _ _ _ h=>h) (Or.inl ⟨by rfl,?_⟩) (by assumption) ?_
     ·intro wq hSw;obtain ⟨hq1,hq2⟩:=hSw
      first|(go_simp;done)|(go_simp;rfl)|(simp [go_sem, *];done)
     (try simp only [Act.put])
     refine wpAnyH_take (i:=2) (oi:=_) (v:=.slice (some ⟨g,0,none⟩) t c) rfl (by kernel_rfl) (by kernel_rfl) (by kernel_rfl) (fun _ _ _ h=>h) (Or.inl ⟨by rfl,?_⟩) (by assumption) ?_
     ·intro wq hSw;obtain ⟨hq1,hq2⟩:=hSw
      first|(go_simp;done)|(go_simp;rfl)|(simp [go_sem, *];done)
     (try simp only [Act.put])
     refine wpAnyH_take (i:=3) (oi:=_) (v:=.int .i64 (t:Int)) rfl (by kernel_rfl) (by kernel_rfl) (by kernel_rfl) (fun _ _ _ h=>h) (Or.inl ⟨by rfl,?_⟩) (by assumption) ?_
     ·intro wq hSw;obtain ⟨hq1,hq2⟩:=hSw
      first|(go_simp;done)|(go_simp;rfl)|(simp [go_sem, *];done)
     (try simp only [Act.put])
     refine wpAnyH_take (i:=4) (oi:=_) (v:=.int .i64 ((t:Int)-7)) rfl (by kernel_rfl) (by kernel_rfl) (by kernel_rfl) (fun _ _ _ h=>h) (Or.inl ⟨by rfl,?_⟩) (by assumption) ?_
     ·intro wq hSw;obtain ⟨hq1,hq2⟩:=hSw
      first|(go_simp;done)|(go_simp;rfl)|(simp [go_sem, *];done)
     (try simp only [Act.put])
     refine wpAnyH_take (i:=5) (oi:=_) (v:=.pointer (some ⟨g,t-7,none⟩)) rfl (by kernel_rfl) (by kernel_rfl) (by kernel_rfl) (fun _ _ _ h=>h) (Or.inl ⟨by rfl,?_⟩) (by assumption) ?_
     ·intro wq hSw;obtain ⟨hq1,hq2⟩:=hSw
      first|(go_simp;done)|(go_simp;rfl)|(simp [go_sem, *];done)
     (try simp only [Act.put])
     refine wpAnyH_take (i:=6) (oi:=_) (v:=.int .u32 (U cc)) rfl (by kernel_rfl) (by kernel_rfl) (by kernel_rfl) (fun _ _ _ h=>h) (Or.inl ⟨by rfl,?_⟩) (by assumption) ?_
     ·intro wq hSw;obtain ⟨hq1,hq2⟩:=hSw
      first|(go_simp;done)|(go_simp;rfl)|(simp [go_sem, *];done)
     (try simp only [Act.put])
     refine wpAnyH_take (i:=7) (oi:=_) (v:=.int .u32 (U (s1+cc))) rfl (by kernel_rfl) (by kernel_rfl) (by kernel_rfl) (fun _ _ _ h=>h) (Or.inl ⟨by rfl,?_⟩) (by assumption) ?_
     ·intro wq hSw;obtain ⟨hq1,hq2⟩:=hSw
      first|(go_simp;done)|(go_simp;rfl)|(simp [go_sem, *];done)
     (try simp only [Act.put])
     refine wpAnyH_take (i:=8) (oi:=_) (v:=.int .u32 (U s0)) rfl (by kernel_rfl) (by kernel_rfl) (by kernel_rfl) (fun _ _ _ h=>h) (Or.inl ⟨by rfl,?_⟩) (by assumption) ?_
     ·intro wq hSw;obtain ⟨hq1,hq2⟩:=hSw
      first|(go_simp;done)|(go_simp;rfl)|(simp [go_sem, *];done)
     (try simp only [Act.put])
     refine wpAnyH_take (i:=9) (oi:=_) (v:=.int .u32 (U (s1+cc+s0))) rfl (by kernel_rfl) (by kernel_rfl) (by kernel_rfl) (fun _ _ _ h=>h) (Or.inl ⟨by rfl,?_⟩) (by assumption) ?_
     ·intro wq hSw;obtain ⟨hq1,hq2⟩:=hSw
      first|(go_simp;done)|(go_simp;rfl)|(simp [go_sem, *];done)
     (try simp only [Act.put])
     refine wpAnyH_take (i:=10) (oi:=_) (v:=.slice (some ⟨g,0,none⟩) t c) rfl (by kernel_rfl) (by kernel_rfl) (by kernel_rfl) (fun _ _ _ h=>h) (Or.inl ⟨by rfl,?_⟩) (by assumption) ?_
     ·intro wq hSw;obtain ⟨hq1,hq2⟩:=hSw
      first|(go_simp;done)|(go_simp;rfl)|(simp [go_sem, *];done)
     (try simp only [Act.put])
     refine wpAnyH_take (i:=11) (oi:=_) (v:=.int .i64 (t:Int)) rfl (by kernel_rfl) (by kernel_rfl) (by kernel_rfl) (fun _ _ _ h=>h) (Or.inl ⟨by rfl,?_⟩) (by assumption) ?_
     ·intro wq hSw;obtain ⟨hq1,hq2⟩:=hSw
      first|(go_simp;done)|(go_simp;rfl)|(simp [go_sem, *];done)
     (try simp only [Act.put])
     refine wpAnyH_take (i:=12) (oi:=_) (v:=.int .i64 ((t:Int)-16)) rfl (by kernel_rfl) (by kernel_rfl) (by kernel_rfl) (fun _ _ _ h=>h) (Or.inl ⟨by rfl,?_⟩) (by assumption) ?_
     ·intro wq hSw;obtain ⟨hq1,hq2⟩:=hSw
      first|(go_simp;done)|(go_simp;rfl)|(simp [go_sem, *];done)
     (try simp only [Act.put])
     refine wpAnyH_take (i:=13) (oi:=_) (v:=.pointer (some ⟨g,t-16,none⟩)) rfl (by kernel_rfl) (by kernel_rfl) (by kernel_rfl) (fun _ _ _ h=>h) (Or.inl ⟨by rfl,?_⟩) (by assumption) ?_
     ·intro wq hSw;obtain ⟨hq1,hq2⟩:=hSw
      first|(go_simp;done)|(go_simp;rfl)|(simp [go_sem, *];done)
     (try simp only [Act.put])
     refine wpAnyH_take (i:=14) (oi:=_) (v:=.int .u32 (U dd)) rfl (by kernel_rfl) (by kernel_rfl) (by kernel_rfl) (fun _ _ _ h=>h) (Or.inl ⟨by rfl,?_⟩) (by assumption) ?_
     ·intro wq hSw;obtain ⟨hq1,hq2⟩:=hSw
      first|(go_simp;done)|(go_simp;rfl)|(simp [go_sem, *];done)
     (try simp only [Act.put])
     refine wpAnyH_take (i:=15) (oi:=_) (v:=.int .u32 (U (s1+cc+s0+dd))) rfl (by kernel_rfl) (by kernel_rfl) (by kernel_rfl) (fun _ _ _ h=>h) (Or.inl ⟨by rfl,?_⟩) (by assumption) ?_
     ·intro wq hSw;obtain ⟨hq1,hq2⟩:=hSw
      first|(go_simp;done)|(go_simp;rfl)|(simp [go_sem, *];done)
     (try simp only [Act.put])
     refine wpAnyH_ready (rs:=[16]) (by kernel_rfl) (by simp) ?_
     refine AllReadyH.cons rfl (fun K hK=>?_) AllReadyH.nil
     go_simp
     have HB:Hid (Below we.heap.size we (we.alloc (.cells #[.int .u32 (U (s1+cc+s0+dd))] 119)).drew):=((Below.refl _ _).alloc (Nat.le_refl _) _).drew
     refine hK.out _ _ ⟨cell_keep HB.out gc,cell_keep HB.out gd⟩ (fun hHeld=>?_)
     clear hK K
     refine wpAnyH_ready (rs:=[17]) (by kernel_rfl) (by simp) ?_
     refine AllReadyH.cons rfl (fun K hK=>?_) AllReadyH.nil
     refine jV rfl _ _ rfl w.heap.size (.slice (some ⟨g,0,none⟩) t c) (S.take t) (s1+cc+s0+dd) ⟨we.heap.size,0,none⟩ 1 rfl rfl (HF.out.1.keep HB.out) (by have:=LR.out;omega) (by have:=HF.out.2.size;simp;omega) uu ?_
     intro g3 cap3 w3 hown' hgrow3 hblk
     have HO:Hid (OwW w.heap.size w3 (.slice (some ⟨g3,0,none⟩) ((S.take t).length+1) cap3) (S.take (t+1))∧Below w.heap.size w w3):=by
      refine ⟨by rw [NX.out];exact hown',?_⟩
      exact (HF.out.2.trans (HB.out.mono HF.out.2.size)).grown hgrow3 (by have:=HF.out.2.size;simp;omega) (fun k hk=>(World.ownsRow.lt HF.out.1 k hk).1)
     have ec:∀ j,j<t→∀ z,we.cell? ⟨g,j,none⟩=some z→w3.cell? ⟨g,j,none⟩=some z:=fun j hj z hz=>by
      rcases hblk with e|⟨_,hg⟩
      ·have eg:g=g3:=Option.some.inj e
       subst eg
       have lq:(S.take (t+1)).length=(S.take t).length+1:=by rw [NX.out];simp
       have ho1:=HO.out.1
       have ho2:=HF.out.1
       rw [OwW,lq] at ho1
       rw [OwW,LR.out.1] at ho2
       have h1:=World.ownsRow.cellAt ho1 j (by rw [LR.out.1];omega)
       have h2:=World.ownsRow.cellAt ho2 j (by omega)
       rw [h1,NX.out,←fq,List.getElem?_append_left (by rw [aP,LR.out.1];exact hj),←h2]
       exact hz
      ·have h:=cell_keep HB.out hz
       rw [World.grownBy.cell_far hg ⟨g,j,none⟩ (World.block_lt_of_cell? _ _ h) (by simp)]
       exact h
     refine hK.out _ _ ⟨ec (t-7) (by have:=LR.out;omega) _ gc,ec (t-16) (by have:=LR.out;omega) _ gd⟩ (fun hHeld=>?_)
     clear hK K ec hown' hgrow3 hblk
     generalize Value.slice (some ⟨g3,0,none⟩) ((S.take t).length+1) cap3=v' at *
     refine wpAnyH_take (i:=18) (oi:=_) (v:=v') rfl (by kernel_rfl) (by kernel_rfl) (by kernel_rfl) (fun _ _ _ h=>h) (Or.inl ⟨by rfl,?_⟩) (by assumption) ?_
     ·intro wq hSw
      first|(go_simp;done)|(go_simp;rfl)|(simp [go_sem, *];done)
     (try simp only [Act.put])
     refine wpAnyH_done (by kernel_rfl) ?_ _
     go_wp2
     go_roundg (64-(t+1))
     case measure=>have:=HK.out;have:=LR.out;omega
     case rel=>exact ⟨t+1,rfl,by have:=LR.out;omega,by have:=LR.out;omega,by go_num,HO.out.1,HO.out.2⟩
  ·have hlt:t<16:=by omega
   have hlt':(t:Int)<16:=by omega
   have bb:Byo wr bd od B:=fun j hj=>by
    have h:=HA.out.2.2.2.2 j hj
    rw [HF.out.2.cell (p:=⟨bd,od+j,none⟩) (World.block_lt_of_cell? w _ h)];exact h
   go_wp2_with fail
   refine (xu HA.out.1 hlt _ bb).mono ?_
   rw [←HA.out.2.2.1 t hlt]
   rintro e w2 ⟨rfl,hb⟩
   have HJ:Hid (OwW w.heap.size w2 u3 (S.take t)∧Below w.heap.size w w2):=⟨HF.out.1.keep hb,HF.out.2.trans (hb.mono HF.out.2.size)⟩
   have NX:Hid (S.take (t+1)=S.take t++[S.getD t 0]):=fK (by rw [HA.out.2.1];omega)
   have LR:Hid ((S.take t).length=t∧t<16):=⟨by rw [List.length_take,HA.out.2.1];omega,hlt⟩
   generalize S.getD t 0=x at *
   clear hb HF bb wr
   go_wp2_with ((at_builtin;go_loud (refine wpList_append_own_at _ rfl _ _ 179 rfl w.heap.size 119 i0 (.int .u32 0) 1 4 Tryz.underlying179 hi hz0 hz1 hz2 rfl (by decide) u3 _ _ rfl (World.ownsRow.alloc HJ.out.1 _) ⟨w2.heap.size,0,none⟩ 1 1 [.int .u32 (U x)] rfl rfl (cell_one_new _ _ _) (fun u hu=>by simp at hu;subst hu;rfl) (by unfold maxLen;have:=LR.out;omega) (by have:=LR.out;omega) (by have:=HJ.out.2.size;simp;omega) ?_);intro v' w3 hown' hgrow3 hnil3 hblk))
   have HO:Hid (OwW w.heap.size w3 v' (S.take (t+1))∧Below w.heap.size w w3):=by
    refine ⟨?_,?_⟩
    ·rw [NX.out,OwW,List.length_append,←fq]
     exact hown'
    ·exact (HJ.out.2.alloc HJ.out.2.size _).grown hgrow3 (by have:=HJ.out.2.size;simp;omega) (fun k hk=>(World.ownsRow.lt HJ.out.1 k hk).1)
   clear hown' hgrow3 hnil3 hblk
   go_roundg (16-(t+1))
   case measure=>have:=HK.out;omega
   case rel=>exact ⟨t+1,rfl,by omega,by go_num,HO.out.1,HO.out.2⟩
open Go.RowKit Go.Sort
theorem E8.setA {W:World} {b i:Nat} {L:List (BitVec 32)} (h:E8 W b L) (hi:i<8) (v:BitVec 32):E8 (W.setCell ⟨b,i,none⟩ (.int .u32 (U v))) b (L.set i v):=by
 refine ⟨by rw [List.length_set];exact h.1,?_,h.2.2.set _ _⟩
 have:=h.2.1.set i (by rw [h.1];exact hi) v
 simpa using this
theorem E8.otherA {W:World} {b b' i:Nat} {L:List (BitVec 32)} (h:E8 W b L) (ne:b'≠b) (v:Value):E8 (W.setCell ⟨b',i,none⟩ v) b L:=⟨h.1,h.2.1.other ne v,h.2.2.set _ _⟩
theorem E8.allocA {W:World} {b:Nat} {L:List (BitVec 32)} (h:E8 W b L) (o:Obj):E8 (W.alloc o) b L:=h.keep ((Below.refl _ _).alloc (Nat.le_refl _) o)
def Rw (W:World) (g:Nat) (L:List (BitVec 32)):Prop:=∀ t,t<L.length→W.cell? ⟨g,t,none⟩=some (.int .u32 (U (L.getD t 0)))
theorem Rw.keep {W w1:World} {g:Nat} {L:List (BitVec 32)} (h:Rw W g L) (hb:Below W.heap.size W w1):Rw w1 g L:=fun t ht=>cell_keep hb (h t ht)
theorem Rw.lt {W:World} {g:Nat} {L:List (BitVec 32)} (h:Rw W g L) (hl:0<L.length):g<W.heap.size:=World.block_lt_of_cell? W _ (h 0 hl)
theorem Rw.other {W:World} {g b' i:Nat} {L:List (BitVec 32)} (h:Rw W g L) (ne:b'≠g) (v:Value):Rw (W.setCell ⟨b',i,none⟩ v) g L:=fun t ht=>by rw [World.cell?_setCell_far _ _ _ _ ne];exact h t ht
theorem Rw.otherCells {W:World} {g b' i:Nat} {L:List (BitVec 32)} (h:Rw W g L) (ne:b'≠g) (cs:List Value):Rw (W.setCells b' i cs) g L:=fun t ht=>by rw [World.cell?_setCells_out _ _ _ _ _ (fun e=>absurd e.symm ne)];exact h t ht
theorem Rw.alloc {W:World} {g:Nat} {L:List (BitVec 32)} (h:Rw W g L) (o:Obj):Rw (W.alloc o) g L:=h.keep ((Below.refl _ _).alloc (Nat.le_refl _) o)
theorem OwW.rw' {B:Nat} {W:World} {v:Value} {L:List (BitVec 32)} (h:OwW B W v L) (hl:0<L.length):∃ g c,v = .slice (some ⟨g,0,none⟩) L.length c∧Rw W g L∧B≤g:=by
 rcases h.2 with ⟨e,hx⟩|⟨g,cap,cur,e,hb,_⟩
 ·omega
 ·subst e
  exact ⟨g,cap,rfl,fun t ht=>OwW.cell h ht,hb⟩
def stL (s:St):List (BitVec 32):=[s.a,s.b,s.c,s.d,s.e,s.f,s.g,s.h]
theorem xv (x:BitVec 32) (w:World):Rt 195 #[.int .u32 (U x),.int .u64 6] w (.int .u32 (U (bD x 6))):=bV x (n:=6) rfl (by decide) (by decide) w
theorem uv (x:BitVec 32) (w:World):Rt 195 #[.int .u32 (U x),.int .u64 11] w (.int .u32 (U (bD x 11))):=bV x (n:=11) rfl (by decide) (by decide) w
theorem uw (x:BitVec 32) (w:World):Rt 195 #[.int .u32 (U x),.int .u64 25] w (.int .u32 (U (bD x 25))):=bV x (n:=25) rfl (by decide) (by decide) w
theorem xw (x:BitVec 32) (w:World):Rt 195 #[.int .u32 (U x),.int .u64 2] w (.int .u32 (U (bD x 2))):=bV x (n:=2) rfl (by decide) (by decide) w
theorem ux (x:BitVec 32) (w:World):Rt 195 #[.int .u32 (U x),.int .u64 13] w (.int .u32 (U (bD x 13))):=bV x (n:=13) rfl (by decide) (by decide) w
theorem uy (x:BitVec 32) (w:World):Rt 195 #[.int .u32 (U x),.int .u64 22] w (.int .u32 (U (bD x 22))):=bV x (n:=22) rfl (by decide) (by decide) w
theorem rH {bd od cd bk ck:Nat} {S:List (BitVec 32)} {B:List (BitVec 8)} (hs:S.length=8) (hl:B.length=64) (w:World) (hB:Byo w bd od B) (hk:Rw w bk kN) :
    Rt 178 #[.agg (aE S).toArray,.slice (some ⟨bd,od,none⟩) 64 cd,.slice (some ⟨bk,0,none⟩) 64 ck] w (.agg (aE (dO S B)).toArray):=by
  obtain ⟨s0,s1,s2,s3,s4,s5,s6,s7,rfl⟩:=ib hs
  have HC:Hid (dO [s0,s1,s2,s3,s4,s5,s6,s7] B=Ah [s0,s1,s2,s3,s4,s5,s6,s7] (ud kN (bB B) ⟨s0,s1,s2,s3,s4,s5,s6,s7⟩ 64)):=rfl
  have ew:(aE [s0,s1,s2,s3,s4,s5,s6,s7]).toArray=#[.int .u32 (U s0),.int .u32 (U s1),.int .u32 (U s2),.int .u32 (U s3),.int .u32 (U s4),.int .u32 (U s5),.int .u32 (U s6),.int .u32 (U s7)]:=rfl
  rw [ew]
  have HB:Hid (Byo w bd od B∧B.length=64∧Rw w bk kN):=⟨hB,hl,hk⟩
  clear hB hl hk ew hs
  go_enter Tryz.func178,Tryz.ntmps178
  go_wp2_with fail
  refine aa (fun W=>Below w.heap.size w W∧E8 W w.heap.size [s0,s1,s2,s3,s4,s5,s6,s7]∧E8 W (w.heap.size+1) (List.replicate 8 0)) ⟨by repeat (first|with_reducible exact Below.refl _ _|with_reducible refine Below.alloc ?_ (by first|omega|(simp;done)|(simp;omega)) _),(E8.new rfl _ rfl).keep ((Below.refl _ _).alloc (Nat.le_refl _) _),E8.zeros _ (by simp)⟩ ?_
  rintro W ⟨b0,hA,hR⟩
  refine (rG (S:=bB B) HB.out.2.1 (cY B) (fun t h=>ql B h) (fun t h1 h2=>qm B h1 h2) _ (HB.out.1.keep b0)).mono ?_
  rintro e W2 ⟨⟨v,rfl,ho⟩,hb⟩
  obtain ⟨L,kL⟩:∃ L,bB B=L:=⟨_,rfl⟩
  have LL:Hid (L.length=64):=by rw [←kL];exact cY B
  rw [kL] at HC ho
  obtain ⟨bw,cw,rfl,hw,gw⟩:=ho.rw' (by rw [LL.out];decide)
  rw [LL.out]
  have H2:Hid (Below w.heap.size w W2∧E8 W2 w.heap.size [s0,s1,s2,s3,s4,s5,s6,s7]∧E8 W2 (w.heap.size+1) (List.replicate 8 0)∧Rw W2 bw L∧Rw W2 bk kN):=⟨b0.trans (hb.mono b0.size),hA.keep hb,hR.keep hb,hw,(HB.out.2.2.keep b0).keep hb⟩
  have GW:Hid (w.heap.size+1<bw):=Nat.lt_of_lt_of_le hR.lt gw
  clear hb b0 hA hR hw gw ho kL W
  have g0:=H2.out.2.1.at (i:=0) (by decide)
  have g1:=H2.out.2.1.at (i:=1) (by decide)
  have g2:=H2.out.2.1.at (i:=2) (by decide)
  have g3:=H2.out.2.1.at (i:=3) (by decide)
  have g4:=H2.out.2.1.at (i:=4) (by decide)
  have g5:=H2.out.2.1.at (i:=5) (by decide)
  have g6:=H2.out.2.1.at (i:=6) (by decide)
  have g7:=H2.out.2.1.at (i:=7) (by decide)
  simp only [List.getD_cons_zero,List.getD_cons_succ] at g0 g1 g2 g3 g4 g5 g6 g7
  go_wp2_with fail
  obtain ⟨R,kR⟩:∃ R:Nat→St,R=ud kN L ⟨s0,s1,s2,s3,s4,s5,s6,s7⟩:=⟨_,rfl⟩
  have RS:Hid (R 0=⟨s0,s1,s2,s3,s4,s5,s6,s7⟩∧∀ t,R (t+1)=rnd (R t) (kN.getD t 0) (L.getD t 0)):=by rw [kR];exact ⟨rfl,fun _=>rfl⟩
  rw [←kR] at HC
  clear kR g0 g1 g2 g3 g4 g5 g6 g7
  refine af (fun W=>Below w.heap.size w W∧E8 W w.heap.size [s0,s1,s2,s3,s4,s5,s6,s7]∧E8 W (w.heap.size+1) (List.replicate 8 0)∧Rw W bw L∧Rw W bk kN∧E8 W W2.heap.size (stL (R 0))) ⟨H2.out.1.alloc H2.out.1.size _,H2.out.2.1.allocA _,H2.out.2.2.1.allocA _,H2.out.2.2.2.1.alloc _,H2.out.2.2.2.2.alloc _,by rw [RS.out.1];exact E8.new rfl _ rfl⟩ ?_
  have NB:Hid (W2.heap.size≠w.heap.size∧W2.heap.size≠w.heap.size+1∧W2.heap.size≠bw∧W2.heap.size≠bk∧w.heap.size≤W2.heap.size):=⟨Nat.ne_of_gt H2.out.2.1.lt,Nat.ne_of_gt H2.out.2.2.1.lt,Nat.ne_of_gt (H2.out.2.2.2.1.lt (by rw [LL.out];decide)),Nat.ne_of_gt (H2.out.2.2.2.2.lt (by decide)),H2.out.1.size⟩
  clear H2
  rintro V hV
  have HV:Hid (Below w.heap.size w V∧E8 V w.heap.size [s0,s1,s2,s3,s4,s5,s6,s7]∧E8 V (w.heap.size+1) (List.replicate 8 0)∧Rw V bw L∧Rw V bk kN∧E8 V W2.heap.size (stL (R 0))):=hV
  clear hV
  generalize W2.heap.size=bv at *
  clear W2
  go_loopg [9] 64 (fun n iv wr=>∃ t:Nat,n=64-t∧t≤64∧iv = .int .i64 t∧(Below w.heap.size w wr∧E8 wr w.heap.size [s0,s1,s2,s3,s4,s5,s6,s7]∧E8 wr (w.heap.size+1) (List.replicate 8 0)∧Rw wr bw L∧Rw wr bk kN∧E8 wr bv (stL (R t))))
  case atStart=>exact ⟨0,rfl,by decide,rfl,HV.out⟩
  case round =>
    clear HV V
    obtain ⟨t,hk,ht,rfl,hf⟩:=hrel
    have HK:Hid (gk=64-t):=hk
    have HF:Hid (Below w.heap.size w wr∧E8 wr w.heap.size [s0,s1,s2,s3,s4,s5,s6,s7]∧E8 wr (w.heap.size+1) (List.replicate 8 0)∧Rw wr bw L∧Rw wr bk kN∧E8 wr bv (stL (R t))):=hf
    clear hk hf
    by_cases h8:t=64
    · subst h8
      obtain ⟨q,kq⟩:∃ q,R 64=q:=⟨_,rfl⟩
      rw [kq] at HC HF
      clear kq
      obtain ⟨a,b,c,d,e,f,g,h⟩:=q
      have EM:Hid (dO [s0,s1,s2,s3,s4,s5,s6,s7] B=[s0+a,s1+b,s2+c,s3+d,s4+e,s5+f,s6+g,s7+h]):=by rw [HC.out];exact rfl
      obtain ⟨M,kM⟩:∃ M,M=[s0+a,s1+b,s2+c,s3+d,s4+e,s5+f,s6+g,s7+h]:=⟨_,rfl⟩
      rw [←kM] at EM
      have KM:Hid (M.length=8∧∀ j,j<8→M.getD j 0=(stL ⟨a,b,c,d,e,f,g,h⟩).getD j 0+[s0,s1,s2,s3,s4,s5,s6,s7].getD j 0):=by
        rw [kM]
        refine ⟨rfl,fun j hj=>?_⟩
        have:j=0∨j=1∨j=2∨j=3∨j=4∨j=5∨j=6∨j=7:=by omega
        rcases this with rfl|rfl|rfl|rfl|rfl|rfl|rfl|rfl<;>exact BitVec.add_comm _ _
      clear kM HC
      have LV:Hid ((stL ⟨a,b,c,d,e,f,g,h⟩).length=8):=rfl
      generalize stL ⟨a,b,c,d,e,f,g,h⟩=X at *
      have NBx:=NB.out
      go_wp2_with fail
      go_loopg [18] 8 (fun n iv wr=>∃ (i:Nat) (N:List (BitVec 32)),n=8-i∧i≤8∧iv = .int .i64 i∧(∀ j,j<i→N.getD j 0=M.getD j 0)∧(∀ j,i≤j→N.getD j 0=X.getD j 0)∧(Below w.heap.size w wr∧E8 wr w.heap.size [s0,s1,s2,s3,s4,s5,s6,s7]∧E8 wr (w.heap.size+1) (List.replicate 8 0)∧E8 wr bv N))
      case atStart=>exact ⟨0,X,rfl,by decide,rfl,fun j h=>absurd h (Nat.not_lt_zero _),fun j _=>rfl,HF.out.1,HF.out.2.1,HF.out.2.2.1,HF.out.2.2.2.2.2⟩
      case round =>
        clear HF
        obtain ⟨i,N,hk,hi,rfl,ev,eu,hf⟩:=hrel
        have HK2:Hid (gk=8-i):=hk
        have EV:Hid ((∀ j,j<i→N.getD j 0=M.getD j 0)∧(∀ j,i≤j→N.getD j 0=X.getD j 0)):=⟨ev,eu⟩
        have HG:Hid (Below w.heap.size w wr∧E8 wr w.heap.size [s0,s1,s2,s3,s4,s5,s6,s7]∧E8 wr (w.heap.size+1) (List.replicate 8 0)∧E8 wr bv N):=hf
        clear hk ev eu hf
        by_cases h8:i=8
        · subst h8
          have eN:N=M:=by
            apply List.ext_getElem (by rw [HG.out.2.2.2.1,KM.out.1])
            intro j h1 h2
            have:=EV.out.1 j (by rw [HG.out.2.2.2.1] at h1;omega)
            rw [List.getD,List.getElem?_eq_getElem h1,List.getD,List.getElem?_eq_getElem h2] at this
            simpa using this
          subst eN
          have rb:=HG.out.2.2.2.2.1.range
          have lN:Hid ((aE N).length=8):=by rw [aP];exact KM.out.1
          have sz:((aE N).toArray).size=8:=by simp [lN.out]
          have oc:=dp N
          have il:(Tryz.prog.info? 120).map (·.size)=some ((aE N).toArray).size:=by rw [sz];kernel_rfl
          have il2:(Tryz.prog.info? 120).map (·.size)=some (aE N).length:=by rw [lN.out];kernel_rfl
          have tr:wr.there (w.heap.size+1) 0 ((aE N).toArray).size:=by rw [sz];exact HG.out.2.2.1.there
          clear EV sz
          go_wp2_with (first|((with_reducible refine aH (ty:=120) bv 0 (aE N) _ rb Tryz.underlying120 ?_ il2 ?_ ?_);rfl;rfl;simp only [Act.put,List.setIfInBounds_toArray,List.set_cons_succ,List.set_cons_zero])|((with_reducible refine an (ty:=120) (w.heap.size+1) 0 (aE N).toArray tr il oc ?_ ?_ ?_);rfl;rfl))
          have ld:=run_loadVar_mid (P:=Tryz.prog) (wr.setCells (w.heap.size+1) 0 (aE N)) (w.heap.size+1) 0 120 (aE N) _ (World.rangeAt_setCells_same _ _ _ _ (by simpa using tr)) Tryz.underlying120 rfl (by rw [lN.out];kernel_rfl)
          refine bodyPost_ret (v:=.agg (aE N).toArray) ?_ rfl ⟨by rw [EM.out],below_setCells (by omega) (aE N) 0 wr HG.out.1⟩
          simp [results,Tryz.results178,Act.put,asAddr,ld]
        · have hi':(i:Int)<8:=by omega
          have gx:=HG.out.2.2.2.at (i:=i) (by omega)
          rw [EV.out.2 i (Nat.le_refl _)] at gx
          have gs:=HG.out.2.1.at (i:=i) (by omega)
          have fx:=HG.out.2.2.2.2.2 i (by omega)
          have KI:=KM.out.2 i (by omega)
          generalize [s0,s1,s2,s3,s4,s5,s6,s7].getD i 0=s at *
          generalize X.getD i 0=x at *
          have y1:=bG x s
          have KI2:Hid (M.getD i 0=x+s):=KI
          clear KI
          go_wp2_with fail
          refine aC 9 (by kernel_rfl) (by kernel_rfl) ?_
          simp only [List.take_succ_cons,List.take_zero,List.drop_succ_cons,List.drop_zero]
          repeat (first|go_big_quiet_skip|(go_big_quiet_want;go_big_quiet_op;go_big_quiet_on))
          refine wpQuiet_nil ?_
          go_wp2
          go_roundg (8-(i+1))
          case measure=>have:=HK2.out;omega
          case rel =>
            skip
            refine ⟨i+1,N.set i (x+s),rfl,by omega,by go_num,fun j h1=>?_,fun j h1=>?_,HG.out.1.drew.setCell NBx.2.2.2.2 _,HG.out.2.1.drew.otherA NBx.1 _,HG.out.2.2.1.drew.otherA NBx.2.1 _,HG.out.2.2.2.drew.setA (by omega) _⟩
            · by_cases ce:j=i
              · subst ce
                rw [List.getD,List.getElem?_set_self (by rw [HG.out.2.2.2.1];omega),Option.getD_some];exact KI2.out.symm
              · rw [List.getD,List.getElem?_set_ne (by omega),←List.getD];exact EV.out.1 j (by omega)
            · rw [List.getD,List.getElem?_set_ne (by omega),←List.getD];exact EV.out.2 j (by omega)
    · have ht':(t:Int)<64:=by omega
      have gk0:=HF.out.2.2.2.2.1 t (by show t<64;omega)
      have gw0:=HF.out.2.2.2.1 t (by rw [LL.out];omega)
      have RN:Hid (R (t+1)=rnd (R t) (kN.getD t 0) (L.getD t 0)):=RS.out.2 t
      generalize kN.getD t 0=k at *
      generalize L.getD t 0=x at *
      obtain ⟨q,kq⟩:∃ q,R t=q:=⟨_,rfl⟩
      rw [kq] at RN HF
      clear kq
      obtain ⟨a,b,c,d,e,f,g,h⟩:=q
      have g0:wr.cell? ⟨bv,0,none⟩=some (.int .u32 (U a)):=HF.out.2.2.2.2.2.at (i:=0) (by decide)
      have g1:wr.cell? ⟨bv,1,none⟩=some (.int .u32 (U b)):=HF.out.2.2.2.2.2.at (i:=1) (by decide)
      have g2:wr.cell? ⟨bv,2,none⟩=some (.int .u32 (U c)):=HF.out.2.2.2.2.2.at (i:=2) (by decide)
      have g3:wr.cell? ⟨bv,3,none⟩=some (.int .u32 (U d)):=HF.out.2.2.2.2.2.at (i:=3) (by decide)
      have g4:wr.cell? ⟨bv,4,none⟩=some (.int .u32 (U e)):=HF.out.2.2.2.2.2.at (i:=4) (by decide)
      have g5:wr.cell? ⟨bv,5,none⟩=some (.int .u32 (U f)):=HF.out.2.2.2.2.2.at (i:=5) (by decide)
      have g6:wr.cell? ⟨bv,6,none⟩=some (.int .u32 (U g)):=HF.out.2.2.2.2.2.at (i:=6) (by decide)
      have g7:wr.cell? ⟨bv,7,none⟩=some (.int .u32 (U h)):=HF.out.2.2.2.2.2.at (i:=7) (by decide)
      have q5:=fun d os=>cell_regrown g5 d os
      have q6:=fun d os=>cell_regrown g6 d os
      have q7:=fun d os=>cell_regrown g7 d os
      have qk:=fun d os=>cell_regrown gk0 d os
      have qw:=fun d os=>cell_regrown gw0 d os
      have m1:=cN (bD e 6) (bD e 11)
      have m2:bits .xor .u32 (U (bD e 6 ^^^ bD e 11)) (U (bD e 25))=U (tri e 6 11 25):=cN _ _
      have a1:=bG h (tri e 6 11 25)
      have n1:=iP e f
      have n2:bits .xor .u32 (if IntKind.u32.signed=true then -1 else IntKind.u32.max) (U e)=U (~~~e):=by rw [if_neg (by decide)];exact zq e
      have n3:=iP (~~~e) g
      have n4:bits .xor .u32 (U (e &&& f)) (U (~~~e &&& g))=U (chs e f g):=cN _ _
      have a2:=bG (h+tri e 6 11 25) (chs e f g)
      have a3:=bG (h+tri e 6 11 25+chs e f g) k
      have a4:=bG (h+tri e 6 11 25+chs e f g+k) x
      clear g5 g6 g7 gk0 gw0
      go_wp2_with fail
      refine wp_region_quiet_below (by kernel_rfl) (by kernel_rfl) ?_
      repeat
        first
          | go_big_quiet_skip
          | (go_big_quiet_want;go_big_quiet_op;go_big_quiet_on)
          | (go_big_quiet_want
             go_big_quiet_op
             apply Exists.intro
             refine ⟨fun p=>?_,?_⟩
             · (first|(go_at_call 195;with_reducible exact Calls.regrown_of (xv e _))|(go_at_call 195;with_reducible exact Calls.regrown_of (uv e _))|(go_at_call 195;with_reducible exact Calls.regrown_of (uw e _)))
             go_big_quiet_on)
      refine wpQuiet_nil ?_
      rintro W4 ⟨p,rfl⟩
      have hb:=below_regrown wr p.d p.os
      have H4:Hid (Below w.heap.size w (grow (redrawn wr p.d) p.os)∧E8 (grow (redrawn wr p.d) p.os) w.heap.size [s0,s1,s2,s3,s4,s5,s6,s7]∧E8 (grow (redrawn wr p.d) p.os) (w.heap.size+1) (List.replicate 8 0)∧Rw (grow (redrawn wr p.d) p.os) bw L∧Rw (grow (redrawn wr p.d) p.os) bk kN∧E8 (grow (redrawn wr p.d) p.os) bv (stL ⟨a,b,c,d,e,f,g,h⟩)):=⟨HF.out.1.trans (hb.mono HF.out.1.size),HF.out.2.1.keep hb,HF.out.2.2.1.keep hb,HF.out.2.2.2.1.keep hb,HF.out.2.2.2.2.1.keep hb,HF.out.2.2.2.2.2.keep hb⟩
      generalize grow (redrawn wr p.d) p.os=W4 at *
      clear HF hb q5 q6 q7 qk qw g0 g1 g2 g3 g4 wr m1 m2 a1 n1 n2 n3 n4 a2 a3
      rw [a4]
      clear a4
      have T1:Hid (wU ⟨a,b,c,d,e,f,g,h⟩ k x=h+tri e 6 11 25+chs e f g+k+x):=rfl
      generalize h+tri e 6 11 25+chs e f g+k+x=t1 at *
      go_wp2_with fail
      refine (xw a _).mono ?_
      rintro e1 W5 ⟨rfl,hb⟩
      have H5:Hid (Below w.heap.size w W5∧E8 W5 w.heap.size [s0,s1,s2,s3,s4,s5,s6,s7]∧E8 W5 (w.heap.size+1) (List.replicate 8 0)∧Rw W5 bw L∧Rw W5 bk kN∧E8 W5 bv (stL ⟨a,b,c,d,e,f,g,h⟩)):=⟨H4.out.1.trans (hb.mono H4.out.1.size),H4.out.2.1.keep hb,H4.out.2.2.1.keep hb,H4.out.2.2.2.1.keep hb,H4.out.2.2.2.2.1.keep hb,H4.out.2.2.2.2.2.keep hb⟩
      clear hb H4 W4
      go_wp2_with fail
      refine (ux a _).mono ?_
      rintro e1 W6 ⟨rfl,hb⟩
      have H6:Hid (Below w.heap.size w W6∧E8 W6 w.heap.size [s0,s1,s2,s3,s4,s5,s6,s7]∧E8 W6 (w.heap.size+1) (List.replicate 8 0)∧Rw W6 bw L∧Rw W6 bk kN∧E8 W6 bv (stL ⟨a,b,c,d,e,f,g,h⟩)):=⟨H5.out.1.trans (hb.mono H5.out.1.size),H5.out.2.1.keep hb,H5.out.2.2.1.keep hb,H5.out.2.2.2.1.keep hb,H5.out.2.2.2.2.1.keep hb,H5.out.2.2.2.2.2.keep hb⟩
      clear hb H5 W5
      have p1:=cN (bD a 2) (bD a 13)
      go_wp2_with fail
      refine (uy a _).mono ?_
      rintro e1 W7 ⟨rfl,hb⟩
      have H7:Hid (Below w.heap.size w W7∧E8 W7 w.heap.size [s0,s1,s2,s3,s4,s5,s6,s7]∧E8 W7 (w.heap.size+1) (List.replicate 8 0)∧Rw W7 bw L∧Rw W7 bk kN∧E8 W7 bv (stL ⟨a,b,c,d,e,f,g,h⟩)):=⟨H6.out.1.trans (hb.mono H6.out.1.size),H6.out.2.1.keep hb,H6.out.2.2.1.keep hb,H6.out.2.2.2.1.keep hb,H6.out.2.2.2.2.1.keep hb,H6.out.2.2.2.2.2.keep hb⟩
      clear hb H6 W6
      have p2:bits .xor .u32 (U (bD a 2 ^^^ bD a 13)) (U (bD a 22))=U (tri a 2 13 22):=cN _ _
      have p3:=iP a b
      have p4:=iP a c
      have p5:=cN (a &&& b) (a &&& c)
      have p6:=iP b c
      have p7:bits .xor .u32 (U ((a &&& b) ^^^ (a &&& c))) (U (b &&& c))=U (maj a b c):=cN _ _
      have p8:=bG (tri a 2 13 22) (maj a b c)
      go_wp2_with fail
      rw [p8]
      have T2:Hid (yK ⟨a,b,c,d,e,f,g,h⟩=tri a 2 13 22+maj a b c):=rfl
      generalize tri a 2 13 22+maj a b c=t2 at *
      clear p1 p2 p3 p4 p5 p6 p7 p8
      refine af (fun V=>Below w.heap.size w V∧E8 V w.heap.size [s0,s1,s2,s3,s4,s5,s6,s7]∧E8 V (w.heap.size+1) (List.replicate 8 0)∧Rw V bw L∧Rw V bk kN∧E8 V bv (stL ⟨a,b,c,d,e,f,g,h⟩)∧E8 V W7.heap.size (List.replicate 8 0)) ⟨H7.out.1.alloc H7.out.1.size _,H7.out.2.1.allocA _,H7.out.2.2.1.allocA _,H7.out.2.2.2.1.alloc _,H7.out.2.2.2.2.1.alloc _,H7.out.2.2.2.2.2.allocA _,E8.zeros _ rfl⟩ ?_
      have NN:Hid (W7.heap.size≠w.heap.size∧W7.heap.size≠w.heap.size+1∧W7.heap.size≠bw∧W7.heap.size≠bk∧W7.heap.size≠bv∧w.heap.size≤W7.heap.size):=⟨Nat.ne_of_gt H7.out.2.1.lt,Nat.ne_of_gt H7.out.2.2.1.lt,Nat.ne_of_gt (H7.out.2.2.2.1.lt (by rw [LL.out];decide)),Nat.ne_of_gt (H7.out.2.2.2.2.1.lt (by decide)),Nat.ne_of_gt H7.out.2.2.2.2.2.lt,H7.out.1.size⟩
      clear H7
      rintro V hV
      have HV:Hid (Below w.heap.size w V∧E8 V w.heap.size [s0,s1,s2,s3,s4,s5,s6,s7]∧E8 V (w.heap.size+1) (List.replicate 8 0)∧Rw V bw L∧Rw V bk kN∧E8 V bv (stL ⟨a,b,c,d,e,f,g,h⟩)∧E8 V W7.heap.size (List.replicate 8 0)):=hV
      clear hV
      generalize W7.heap.size=bn at *
      clear W7
      go_loopg [17] 7 (fun n iv wr=>∃ (i:Nat) (N:List (BitVec 32)),n=8-i∧1≤i∧i≤8∧iv = .int .i64 i∧N.getD 0 0=0∧(∀ j,1≤j→j<i→N.getD j 0=(stL ⟨a,b,c,d,e,f,g,h⟩).getD (j-1) 0)∧(Below w.heap.size w wr∧E8 wr w.heap.size [s0,s1,s2,s3,s4,s5,s6,s7]∧E8 wr (w.heap.size+1) (List.replicate 8 0)∧Rw wr bw L∧Rw wr bk kN∧E8 wr bv (stL ⟨a,b,c,d,e,f,g,h⟩)∧E8 wr bn N))
      case atStart=>exact ⟨1,_,rfl,by decide,by decide,rfl,rfl,fun j h1 h2=>by omega,HV.out⟩
      case round =>
        clear HV V
        obtain ⟨i,N,hk,i1,hi,rfl,z0,ev,hf⟩:=hrel
        have HK2:Hid (gk=8-i):=hk
        have EV:Hid (N.getD 0 0=0∧∀ j,1≤j→j<i→N.getD j 0=(stL ⟨a,b,c,d,e,f,g,h⟩).getD (j-1) 0):=⟨z0,ev⟩
        have HG:Hid (Below w.heap.size w wr∧E8 wr w.heap.size [s0,s1,s2,s3,s4,s5,s6,s7]∧E8 wr (w.heap.size+1) (List.replicate 8 0)∧Rw wr bw L∧Rw wr bk kN∧E8 wr bv (stL ⟨a,b,c,d,e,f,g,h⟩)∧E8 wr bn N):=hf
        clear hk z0 ev hf
        by_cases h8:i=8
        · subst h8
          obtain ⟨n0,n1,n2,n3,n4,n5,n6,n7,rfl⟩:=ib HG.out.2.2.2.2.2.2.1
          have e0:n0=0:=EV.out.1
          have e1:n1=a:=EV.out.2 1 (by decide) (by decide)
          have e2:n2=b:=EV.out.2 2 (by decide) (by decide)
          have e3:n3=c:=EV.out.2 3 (by decide) (by decide)
          have e4:n4=d:=EV.out.2 4 (by decide) (by decide)
          have e5:n5=e:=EV.out.2 5 (by decide) (by decide)
          have e6:n6=f:=EV.out.2 6 (by decide) (by decide)
          have e7:n7=g:=EV.out.2 7 (by decide) (by decide)
          subst e1 e2 e3 e4 e5 e6 e7 e0
          have c3:wr.cell? ⟨bv,3,none⟩=some (.int .u32 (U n4)):=HG.out.2.2.2.2.2.1.at (i:=3) (by decide)
          have b0:wr.cell? ⟨bn,0,none⟩=some (.int .u32 (U 0)):=HG.out.2.2.2.2.2.2.at (i:=0) (by decide)
          have f0:=HG.out.2.2.2.2.2.2.2.2 0 (by decide)
          have v0:=HG.out.2.2.2.2.2.1.at (i:=0) (by decide)
          have u0:=HG.out.2.2.2.2.2.1.2.2 0 (by decide)
          have b1:wr.cell? ⟨bn,1,none⟩=some (.int .u32 (U n1)):=HG.out.2.2.2.2.2.2.at (i:=1) (by decide)
          have f1:=HG.out.2.2.2.2.2.2.2.2 1 (by decide)
          have v1:=HG.out.2.2.2.2.2.1.at (i:=1) (by decide)
          have u1:=HG.out.2.2.2.2.2.1.2.2 1 (by decide)
          have b2:wr.cell? ⟨bn,2,none⟩=some (.int .u32 (U n2)):=HG.out.2.2.2.2.2.2.at (i:=2) (by decide)
          have f2:=HG.out.2.2.2.2.2.2.2.2 2 (by decide)
          have v2:=HG.out.2.2.2.2.2.1.at (i:=2) (by decide)
          have u2:=HG.out.2.2.2.2.2.1.2.2 2 (by decide)
          have b3:wr.cell? ⟨bn,3,none⟩=some (.int .u32 (U n3)):=HG.out.2.2.2.2.2.2.at (i:=3) (by decide)
          have f3:=HG.out.2.2.2.2.2.2.2.2 3 (by decide)
          have v3:=HG.out.2.2.2.2.2.1.at (i:=3) (by decide)
          have u3:=HG.out.2.2.2.2.2.1.2.2 3 (by decide)
          have b4:wr.cell? ⟨bn,4,none⟩=some (.int .u32 (U n4)):=HG.out.2.2.2.2.2.2.at (i:=4) (by decide)
          have f4:=HG.out.2.2.2.2.2.2.2.2 4 (by decide)
          have v4:=HG.out.2.2.2.2.2.1.at (i:=4) (by decide)
          have u4:=HG.out.2.2.2.2.2.1.2.2 4 (by decide)
          have b5:wr.cell? ⟨bn,5,none⟩=some (.int .u32 (U n5)):=HG.out.2.2.2.2.2.2.at (i:=5) (by decide)
          have f5:=HG.out.2.2.2.2.2.2.2.2 5 (by decide)
          have v5:=HG.out.2.2.2.2.2.1.at (i:=5) (by decide)
          have u5:=HG.out.2.2.2.2.2.1.2.2 5 (by decide)
          have b6:wr.cell? ⟨bn,6,none⟩=some (.int .u32 (U n6)):=HG.out.2.2.2.2.2.2.at (i:=6) (by decide)
          have f6:=HG.out.2.2.2.2.2.2.2.2 6 (by decide)
          have v6:=HG.out.2.2.2.2.2.1.at (i:=6) (by decide)
          have u6:=HG.out.2.2.2.2.2.1.2.2 6 (by decide)
          have b7:wr.cell? ⟨bn,7,none⟩=some (.int .u32 (U n7)):=HG.out.2.2.2.2.2.2.at (i:=7) (by decide)
          have f7:=HG.out.2.2.2.2.2.2.2.2 7 (by decide)
          have v7:=HG.out.2.2.2.2.2.1.at (i:=7) (by decide)
          have u7:=HG.out.2.2.2.2.2.1.2.2 7 (by decide)
          have y1:=bG t1 t2
          have y2:=bG n4 t1
          have RR:Hid (R (t+1)=⟨t1+t2,n1,n2,n3,n4+t1,n5,n6,n7⟩):=by rw [RN.out,rnd,T1.out,T2.out];exact rfl
          have nn:=NN.out.2.2.2.2.1
          have nn':=nn.symm
          clear EV
          go_wp2
          go_roundg (64-(t+1))
          case measure=>have:=HK.out;omega
          case rel =>
            refine ⟨t+1,rfl,by omega,by go_num,?_⟩
            rw [RR.out]
            refine ⟨?_,?_,?_,?_,?_,?_⟩
            · repeat (first|with_reducible exact HG.out.1|with_reducible refine Below.setCell ?_ (by first|with_reducible exact NN.out.2.2.2.2.2|with_reducible exact NB.out.2.2.2.2) _)
            · repeat (first|with_reducible exact HG.out.2.1|with_reducible refine E8.otherA ?_ (by first|with_reducible exact NN.out.1|with_reducible exact NB.out.1) _)
            · repeat (first|with_reducible exact HG.out.2.2.1|with_reducible refine E8.otherA ?_ (by first|with_reducible exact NN.out.2.1|with_reducible exact NB.out.2.1) _)
            · repeat (first|with_reducible exact HG.out.2.2.2.1|with_reducible refine Rw.other ?_ (by first|with_reducible exact NN.out.2.2.1|with_reducible exact NB.out.2.2.1) _)
            · repeat (first|with_reducible exact HG.out.2.2.2.2.1|with_reducible refine Rw.other ?_ (by first|with_reducible exact NN.out.2.2.2.1|with_reducible exact NB.out.2.2.2.1) _)
            · skip
              have h0:=(HG.out.2.2.2.2.2.1.otherA (b':=bn) (i:=0) NN.out.2.2.2.2.1 (.int .u32 (U (t1+t2)))).otherA (b':=bn) (i:=4) NN.out.2.2.2.2.1 (.int .u32 (U (n4+t1)))
              exact (((((((h0.setA (i:=0) (by decide) (t1+t2)).setA (i:=1) (by decide) n1).setA (i:=2) (by decide) n2).setA (i:=3) (by decide) n3).setA (i:=4) (by decide) (n4+t1)).setA (i:=5) (by decide) n5).setA (i:=6) (by decide) n6).setA (i:=7) (by decide) n7
        · have hi':(i:Int)<8:=by omega
          have i1':(1:Int)≤(i:Int):=by omega
          have ei:((i:Int)-1).toNat=i-1:=by omega
          have gx:=HG.out.2.2.2.2.2.1.at (i:=i-1) (by omega)
          have gn:=HG.out.2.2.2.2.2.2.at (i:=i) (by omega)
          have fn:=HG.out.2.2.2.2.2.2.2.2 i (by omega)
          obtain ⟨z,kz⟩:∃ z,z=(stL ⟨a,b,c,d,e,f,g,h⟩).getD (i-1) 0:=⟨_,rfl⟩
          rw [←kz] at gx
          have KZ:Hid (z=(stL ⟨a,b,c,d,e,f,g,h⟩).getD (i-1) 0):=kz
          clear kz
          go_wp2
          go_roundg (8-(i+1))
          case measure=>have:=HK2.out;omega
          case rel =>
            refine ⟨i+1,N.set i z,rfl,by omega,by omega,by go_num,?_,fun j h1 h2=>?_,HG.out.1.setCell NN.out.2.2.2.2.2 _,HG.out.2.1.otherA NN.out.1 _,HG.out.2.2.1.otherA NN.out.2.1 _,HG.out.2.2.2.1.other NN.out.2.2.1 _,HG.out.2.2.2.2.1.other NN.out.2.2.2.1 _,HG.out.2.2.2.2.2.1.otherA NN.out.2.2.2.2.1 _,HG.out.2.2.2.2.2.2.setA (by omega) _⟩
            · rw [List.getD,List.getElem?_set_ne (by omega),←List.getD];exact EV.out.1
            · by_cases ce:j=i
              · subst ce
                rw [List.getD,List.getElem?_set_self (by rw [HG.out.2.2.2.2.2.2.1];omega),Option.getD_some];exact KZ.out
              · rw [List.getD,List.getElem?_set_ne (by omega),←List.getD];exact EV.out.2 j h1 (by omega)
open Go.RowKit Go.Sort
theorem xy {W:World} {base:Nat} {x:BitVec 8} (h:base≤W.heap.size) {t:TypeId} (et:t=5):Own base (W.alloc (.cells #[.int .u8 (Y x)] t)) (.slice (some ⟨W.heap.size,0,none⟩) 1 1) [x]:=by
 subst et
 refine ⟨rfl,.inr ⟨W.heap.size,1,#[.int .u8 (Y x)],rfl,h,?_,Nat.le_refl _,by unfold maxLen;decide,rfl,rfl⟩⟩
 show (W.heap.push _)[W.heap.size]?=_
 simp
theorem Own.formS {B:Nat} {W:World} {v:Value} {X:List (BitVec 8)} (h:Own B W v X):∃ a c,v = .slice a X.length c:=by
 rcases h.2 with ⟨e,hx⟩|⟨g,cap,cur,e,_⟩
 ·exact ⟨none,0,by rw [e,hx]⟩
 ·exact ⟨_,cap,e⟩
def pz (j:Nat):List (BitVec 8):=128 :: List.replicate j 0
theorem oW (j:Nat):(pz j).length=j+1:=by simp [pz]
theorem y9 (j:Nat):pz (j+1)=pz j++[0]:=by simp [pz,List.replicate_succ']
def pb (n m:Nat):List (BitVec 8):=pz (zn n)++lbs n m
theorem Ar (n m:Nat):(pb n m).length=zn n+1+m:=by simp [pb,oW,jA]
theorem Bp (n:Nat):pb n 0=pz (zn n):=by simp [pb,lbs]
theorem za (n m:Nat):pb n (m+1)=pb n m++[lb n m]:=by rw [pb,pY,←List.append_assoc];rfl
theorem Bq (n:Nat):pb n 8=eI n:=by simp [pb,pz,eI]
theorem xz {n:Nat} (hn:n<1073741824) (w:World) :
  Calls Tryz.prog 175 #[.int .i64 (n:Int)] w fun e w'=>(∃ v,e = .returned (.tuple #[v,.int .i64 0])∧Own w.heap.size w' v (eI n))∧Below w.heap.size w w':=by
 obtain ⟨i0,hi,hz0,hz1,hz2⟩:=info_parts info_byte
 have hn':(n:Int)<1073741824:=by omega
 have HN:Hid (n<1073741824):=hn
 have n0:¬((n:Int)<0):=by omega
 have y128:Y 128=128:=by rw [Y_eq];rfl
 have yz:Hid (Y 0=0):=Y_zero
 have HO1:Hid (Own w.heap.size (w.alloc (.cells #[.int .u8 128] 5)) (.slice (some ⟨w.heap.size,0,none⟩) 1 1) (pz 0)):=by
  have h:=xy (W:=w) (base:=w.heap.size) (x:=128) (Nat.le_refl _) rfl
  rw [y128] at h
  exact h
 clear hn y128
 go_enter Tryz.func175,Tryz.ntmps175
 go_wp2_with fail
 go_loopg [4] (zn n) (fun k lv wr=>∃ (j:Nat) (a:Option Addr) (c:Nat),k=zn n-j∧j≤zn n∧lv = .slice a (j+1) c∧Own w.heap.size wr lv (pz j)∧Below w.heap.size w wr)
 case atStart=>exact ⟨0,_,_,rfl,Nat.zero_le _,rfl,HO1.out,(Below.refl _ _).alloc (Nat.le_refl _) _⟩
 case round =>
  clear HO1
  obtain ⟨j,a,c,hk,hj,rfl,hown,B⟩:=hrel
  have HK:Hid (gk=zn n-j):=hk
  have HF:Hid (Own w.heap.size wr (.slice a (j+1) c) (pz j)∧Below w.heap.size w wr):=⟨hown,B⟩
  have hz:=mo n
  clear hk hown B
  by_cases h8:j=zn n
  ·have tz:((n:Int)%64+((j:Int)+1)+8)%64=0:=by rw [h8,zn];omega
   have j64:(j:Int)<64:=by omega
   have HJ:Hid (j=zn n):=h8
   clear h8 hj hz
   go_wp2_with fail
   have HG:Hid (Own w.heap.size wr (.slice a (j+1) c) (pb n 0)∧Below w.heap.size w wr):=by rw [Bp,←HJ.out];exact HF.out
   obtain ⟨P,hP⟩:∃ P:Nat,P=8*n:=⟨_,rfl⟩
   have eP:(n:Int)*8=(P:Int):=by omega
   have HP:Hid (P=8*n%18446744073709551616):=(by have:=HN.out;rw [hP];omega:P=8*n%18446744073709551616)
   have P1:(P:Int)<8589934592:=by have:=HN.out;omega
   rw [eP]
   have PH:Hid ((P:Int)<8589934592):=P1
   clear eP hP HF tz j64 P1
   generalize Value.slice a (j+1) c=v0 at *
   go_loopg [4,6] 8 (fun k lv iv wr=>∃ (i:Nat) (jv:Int),k=i∧i≤8∧iv = .int .i64 jv∧jv=(i:Int)-1∧Own w.heap.size wr lv (pb n (8-i))∧Below w.heap.size w wr)
   case atStart=>exact ⟨8,7,rfl,by decide,rfl,by decide,HG.out.1,HG.out.2⟩
   case round =>
    clear HG
    obtain ⟨i,jv,hk,hi8,rfl,hj,hown,B⟩:=hrel
    have HK2:Hid (gk=i):=hk
    clear hk
    cases i with
    | zero =>
     obtain rfl:jv = -1:=by omega
     have HF:Hid (Own w.heap.size wr u4 (eI n)∧Below w.heap.size w wr):=by
      rw [←Bq];exact ⟨hown,B⟩
     clear hj hown B
     go_wp2
     refine bodyPost_ret (v:=.tuple #[u4,.int .i64 0]) ?_ rfl ⟨⟨_,rfl,HF.out.1⟩,HF.out.2⟩
     simp [results,Tryz.results175,go_sem]
    | succ i =>
     obtain rfl:jv=(i:Int):=by omega
     obtain ⟨m,em⟩:∃ m:Nat,m=8-(i+1):=⟨_,rfl⟩
     rw [←em] at hown
     have HF:Hid (Own w.heap.size wr u4 (pb n m)∧Below w.heap.size w wr):=⟨hown,B⟩
     have NX:Hid (pb n (8-i)=pb n m++[lb n m]):=by rw [show 8-i=m+1 by omega];exact za n m
     have LR:Hid ((pb n m).length<200):=(by rw [Ar];have:=mo n;omega:(pb n m).length<200)
     have hb:=Bb (n:=n) (i:=m) HP.out
     rw [show 56-8*m=8*i by omega,IntKind.wrap_u8'] at hb
     have i0':(0:Int)≤(i:Int):=by omega
     have i1':(i:Int)<8:=by omega
     have e8:(8*(i:Int)).toNat=8*i:=by omega
     have q8:8*i<64:=by omega
     generalize lb n m=x at *
     clear hj hown B em
     go_wp2_with ((at_builtin;go_loud (refine wpList_append_own_at _ rfl _ _ 36 rfl w.heap.size 5 i0 (.int .u8 0) 1 1 Tryz.underlying36 hi hz0 hz1 hz2 rfl (by decide) u4 _ _ rfl (HF.out.1.row.alloc _) ⟨wr.heap.size,0,none⟩ 1 1 [.int .u8 (Y x)] rfl rfl (cell_one_new _ _ _) (fun u hu=>by simp at hu;subst hu;rfl) (by unfold maxLen;have:=LR.out;omega) (by have:=LR.out;omega) (by have:=HF.out.2.size;simp;omega) ?_);intro v' w3 hown' hgrow3 hnil3 hblk))
     have HO:Hid (Own w.heap.size w3 v' (pb n (8-i))∧Below w.heap.size w w3):=by
      refine ⟨?_,?_⟩
      ·rw [NX.out,Own,List.length_append,←byts_snoc]
       exact hown'
      ·exact (HF.out.2.alloc HF.out.2.size _).grown hgrow3 (by have:=HF.out.2.size;simp;omega) (fun k hk=>(HF.out.1.row.lt k hk).1)
     clear hown' hgrow3 hnil3 hblk
     go_wp2
     go_roundg i
     case measure=>have:=HK2.out;omega
     case rel=>exact ⟨i,_,rfl,by omega,rfl,by omega,HO.out.1,HO.out.2⟩
  ·have tz:((n:Int)%64+((j:Int)+1)+8)%64≠0:=by
    have h1:j<zn n:=by omega
    rw [zn] at h1;omega
   have m0:0≤(n:Int)%64:=by omega
   have m1:(n:Int)%64<64:=by omega
   have t1:¬(((n:Int)+((j:Int)+1)+8)%64=0):=by omega
   have t2:((((n:Int)+((j:Int)+1)+8)%64)==0)=false:=beq_eq_false_iff_ne.2 t1
   have t3:((((n:Int)%64+((j:Int)+1)+8)%64)==0)=false:=beq_eq_false_iff_ne.2 tz
   have t5:((((n:Int)+((j:Int)+1)+8)%64) != 0)=true:=by rw [bne,t2];rfl
   have t6:((((n:Int)%64+((j:Int)+1)+8)%64) != 0)=true:=by rw [bne,t3];rfl
   clear t1
   clear tz
   have j64:(j:Int)<64:=by omega
   have HJ:Hid (j<zn n∧j<64):=⟨by omega,by omega⟩
   have LR:Hid ((pz j).length=j+1):=oW j
   clear h8 hj hz
   go_wp2_with ((at_builtin;go_loud (refine wpList_append_own_at _ rfl _ _ 36 rfl w.heap.size 5 i0 (.int .u8 0) 1 1 Tryz.underlying36 hi hz0 hz1 hz2 rfl (by decide) (.slice a (j+1) c) _ _ rfl (HF.out.1.row.alloc _) ⟨wr.heap.size,0,none⟩ 1 1 [.int .u8 0] rfl rfl (cell_one_new _ _ _) (fun u hu=>by simp at hu;subst hu;rfl) (by unfold maxLen;have:=LR.out;have:=HJ.out;omega) (by have:=LR.out;have:=HJ.out;omega) (by have:=HF.out.2.size;simp;omega) ?_);intro v' w3 hown' hgrow3 hnil3 hblk))
   have HO:Hid (Own w.heap.size w3 v' (pz (j+1))∧Below w.heap.size w w3):=by
    refine ⟨?_,?_⟩
    ·rw [y9,Own,List.length_append,←byts_snoc,yz.out]
     exact hown'
    ·exact (HF.out.2.alloc HF.out.2.size _).grown hgrow3 (by have:=HF.out.2.size;simp;omega) (fun k hk=>(HF.out.1.row.lt k hk).1)
   clear hown' hgrow3 hnil3 hblk
   obtain ⟨a',c',rfl⟩:=HO.out.1.formS
   rw [oW] at HO
   rw [oW]
   go_wp2
   go_roundg (zn n-(j+1))
   case measure=>have:=HK.out;have:=HJ.out;omega
   case rel=>exact ⟨j+1,a',c',rfl,by have:=HJ.out;omega,rfl,HO.out.1,HO.out.2⟩
open Go.RowKit Go.Sort
theorem rI (w:World):Calls Tryz.prog 177 #[] w fun e w'=>e = .returned (.agg (aE hN).toArray)∧Below w.heap.size w w':=by
 obtain ⟨HL,kH⟩:∃ L,L=hN:=⟨_,rfl⟩
 have KH:Hid (HL=hN∧HL.length=8):=⟨kH,by rw [kH];rfl⟩
 rw [←kH]
 clear kH
 go_enter Tryz.func177,Tryz.ntmps177
 go_wp2_with fail
 refine aa (fun W=>Below w.heap.size w W∧E8 W w.heap.size (List.replicate 8 0)) ⟨(Below.refl _ _).alloc (Nat.le_refl _) _,E8.zeros _ rfl⟩ ?_
 rintro W ⟨b0,hR⟩
 refine (yZ _).mono ?_
 rintro e W2 ⟨⟨v,rfl,ho⟩,hb⟩
 rw [←KH.out.1] at ho
 obtain ⟨g,c,rfl,hw,gw⟩:=ho.rw' (by rw [KH.out.2];decide)
 rw [KH.out.2]
 have H2:Hid (Below w.heap.size w W2∧E8 W2 w.heap.size (List.replicate 8 0)∧Rw W2 g HL):=⟨b0.trans (hb.mono b0.size),hR.keep hb,hw⟩
 clear hb b0 hR hw gw ho W
 go_wp2_with fail
 refine af (fun V=>Below w.heap.size w V∧E8 V w.heap.size (List.replicate 8 0)∧Rw V g HL∧E8 V W2.heap.size (List.replicate 8 0)) ⟨H2.out.1.alloc H2.out.1.size _,H2.out.2.1.allocA _,H2.out.2.2.alloc _,E8.zeros _ rfl⟩ ?_
 have NB:Hid (W2.heap.size≠w.heap.size∧W2.heap.size≠g∧w.heap.size≤W2.heap.size):=⟨Nat.ne_of_gt H2.out.2.1.lt,Nat.ne_of_gt (H2.out.2.2.lt (by rw [KH.out.2];decide)),H2.out.1.size⟩
 clear H2
 rintro V hV
 have HV:Hid (Below w.heap.size w V∧E8 V w.heap.size (List.replicate 8 0)∧Rw V g HL∧E8 V W2.heap.size (List.replicate 8 0)):=hV
 clear hV
 generalize W2.heap.size=bh at *
 clear W2
 go_loopg [3] 8 (fun n iv wr=>∃ (i:Nat) (N:List (BitVec 32)),n=8-i∧i≤8∧iv = .int .i64 i∧(∀ j,j<i→N.getD j 0=HL.getD j 0)∧(Below w.heap.size w wr∧E8 wr w.heap.size (List.replicate 8 0)∧Rw wr g HL∧E8 wr bh N))
 case atStart=>exact ⟨0,_,rfl,by decide,rfl,fun j h=>absurd h (Nat.not_lt_zero _),HV.out⟩
 case round =>
  clear HV V
  obtain ⟨i,N,hk,hi,rfl,ev,hf⟩:=hrel
  have HK:Hid (gk=8-i):=hk
  have EV:Hid (∀ j,j<i→N.getD j 0=HL.getD j 0):=ev
  have HG:Hid (Below w.heap.size w wr∧E8 wr w.heap.size (List.replicate 8 0)∧Rw wr g HL∧E8 wr bh N):=hf
  clear hk ev hf
  by_cases h8:i=8
  ·subst h8
   have eN:N=HL:=by
    apply List.ext_getElem (by rw [HG.out.2.2.2.1,KH.out.2])
    intro j h1 h2
    have:=EV.out j (by rw [HG.out.2.2.2.1] at h1;omega)
    rw [List.getD,List.getElem?_eq_getElem h1,List.getD,List.getElem?_eq_getElem h2] at this
    simpa using this
   subst eN
   have rb:=HG.out.2.2.2.2.1.range
   have lN:Hid ((aE N).length=8):=by rw [aP];exact KH.out.2
   have sz:((aE N).toArray).size=8:=by simp [lN.out]
   have oc:=dp N
   have il:(Tryz.prog.info? 120).map (·.size)=some ((aE N).toArray).size:=by rw [sz];kernel_rfl
   have il2:(Tryz.prog.info? 120).map (·.size)=some (aE N).length:=by rw [lN.out];kernel_rfl
   have tr:wr.there w.heap.size 0 ((aE N).toArray).size:=by rw [sz];exact HG.out.2.1.there
   clear EV sz
   go_wp2_with (first|((with_reducible refine aH (ty:=120) bh 0 (aE N) _ rb Tryz.underlying120 ?_ il2 ?_ ?_);rfl;rfl;simp only [Act.put,List.setIfInBounds_toArray,List.set_cons_succ,List.set_cons_zero])|((with_reducible refine an (ty:=120) w.heap.size 0 (aE N).toArray tr il oc ?_ ?_ ?_);rfl;rfl))
   have ld:=run_loadVar_mid (P:=Tryz.prog) (wr.setCells w.heap.size 0 (aE N)) w.heap.size 0 120 (aE N) _ (World.rangeAt_setCells_same _ _ _ _ (by simpa using tr)) Tryz.underlying120 rfl (by rw [lN.out];kernel_rfl)
   refine bodyPost_ret (v:=.agg (aE N).toArray) ?_ rfl ⟨rfl,below_setCells (Nat.le_refl _) (aE N) 0 wr HG.out.1⟩
   simp [results,Tryz.results177,Act.put,asAddr,ld]
  ·have hi':(i:Int)<8:=by omega
   have gx:=HG.out.2.2.1 i (by rw [KH.out.2];omega)
   have gb:=HG.out.2.2.2.at (i:=i) (by omega)
   have fx:=HG.out.2.2.2.2.2 i (by omega)
   obtain ⟨x,kx⟩:∃ x,x=HL.getD i 0:=⟨_,rfl⟩
   rw [←kx] at gx
   have KX:Hid (x=HL.getD i 0):=kx
   clear kx
   go_wp2
   go_roundg (8-(i+1))
   case measure=>have:=HK.out;omega
   case rel =>
    refine ⟨i+1,N.set i x,rfl,by omega,by go_num,fun j h1=>?_,HG.out.1.setCell NB.out.2.2 _,HG.out.2.1.otherA NB.out.1 _,HG.out.2.2.1.other NB.out.2.1 _,HG.out.2.2.2.setA (by omega) _⟩
    by_cases ce:j=i
    ·subst ce
     rw [List.getD,List.getElem?_set_self (by rw [HG.out.2.2.2.1];omega),Option.getD_some];exact KX.out
    ·rw [List.getD,List.getElem?_set_ne (by omega),←List.getD];exact EV.out j (by omega)
open Go.RowKit Go.Sort
def Bf (X:List (BitVec 8)):List (BitVec 8):=X.map fun x=>x ^^^ 255
open Go.RowKit Go.Sort
theorem zb {W:World} {g n:Nat} {F:List (BitVec 8)} (h:Byo W g 0 F) (hn:64*n+64≤F.length):Byo W g (64*n) (blk F n):=fun i hi=>by
 rw [ss hn] at hi
 have:=h (64*n+i) (by omega)
 rw [Nat.zero_add] at this
 rw [this,blk,List.getD,List.getD,List.getElem?_take_of_lt hi,List.getElem?_drop]
theorem mD {a:Option Addr} {bd od cd:Nat} {X:List (BitVec 8)} (hl:X.length<1073740000) (hc:X.length≤cd) (ha:At a bd od X) (w:World) (hX:Byo w bd od X) :
    Calls Tryz.prog 144 #[.slice a X.length cd] w fun e w'=>e = .returned (.agg (byts (bP X)).toArray)∧Below w.heap.size w w':=by
  have HX:Hid (X.length<1073740000∧X.length≤cd∧At a bd od X∧Byo w bd od X):=⟨hl,hc,ha,hX⟩
  have hl':(X.length:Int)<1073740000:=by omega
  clear hl hc ha hX
  go_enter Tryz.func144,Tryz.ntmps144
  go_wp2_with fail
  refine aa (fun W=>Below w.heap.size w W∧Hsh W w.heap.size (List.replicate 32 0)) ⟨(Below.refl _ _).alloc (Nat.le_refl _) _,Hsh.zeros _ rfl⟩ ?_
  rintro W ⟨b0,hR⟩
  refine (xz (by have:=HX.out.1;omega) _).mono ?_
  rintro e w1 ⟨⟨v,rfl,ho⟩,hb⟩
  obtain ⟨gp,cp,rfl,hcp⟩:=ic ho (by rw [eO];omega)
  have hp:Byo w1 gp 0 (eI X.length):=fun i hi=>by
    rw [Nat.zero_add,ho.row.cellAt i (by omega),byts,List.getElem?_map,List.getElem?_eq_getElem hi,List.getD,List.getElem?_eq_getElem hi];rfl
  have H1:Hid (Below w.heap.size w w1∧Hsh w1 w.heap.size (List.replicate 32 0)∧Byo w1 gp 0 (eI X.length)∧(eI X.length).length≤cp):=⟨b0.trans (hb.mono b0.size),hR.keep hb,hp,hcp⟩
  clear hb b0 hR hp hcp ho W
  go_wp2_with fail
  have B1:∀ o,Below w1.heap.size w1 (w1.alloc o):=fun o=>(Below.refl _ _).alloc (Nat.le_refl _) _
  refine aa (fun W=>Below w.heap.size w W∧Hsh W w.heap.size (List.replicate 32 0)∧Prts W w1.heap.size 0 [⟨a,bd,od,cd,X⟩,⟨some ⟨gp,0,none⟩,gp,0,cp,eI X.length⟩]) ⟨H1.out.1.trans ((B1 _).mono H1.out.1.size),H1.out.2.1.keep (B1 _),fun i hi=>?_⟩ ?_
  · have:i=0∨i=1:=by have:i<2:=hi;omega
    rcases this with rfl|rfl
    · exact ⟨by rw [Nat.zero_add,World.cell?_alloc_mark];rfl,HX.out.2.2.1,HX.out.2.1,(HX.out.2.2.2.keep H1.out.1).keep (B1 _)⟩
    · exact ⟨by rw [Nat.zero_add,World.cell?_alloc_mark];rfl,.inr rfl,H1.out.2.2.2,H1.out.2.2.1.keep (B1 _)⟩
  rintro W ⟨b0,hR,hP⟩
  have ec:catX [⟨a,bd,od,cd,X⟩,⟨some ⟨gp,0,none⟩,gp,0,cp,eI X.length⟩]=fo X:=by simp [catX,fo]
  have lf:(fo X).length=X.length+(zn X.length+9):=by rw [iD,eO]
  have zl:=mo X.length
  refine (dG (PS:=[⟨a,bd,od,cd,X⟩,⟨some ⟨gp,0,none⟩,gp,0,cp,eI X.length⟩]) (a:=some ⟨w1.heap.size,0,none⟩) (bp:=w1.heap.size) (op:=0) (cp:=2) (by rw [ec,lf];have:=HX.out.1;omega) (by show 2≤_;omega) (.inr rfl) _ hP).mono ?_
  rw [ec]
  rintro e w2 ⟨v,rfl,ho,hb⟩
  obtain ⟨F,kF⟩:∃ F,F=fo X:=⟨_,rfl⟩
  have fm:F.length%64=0:=by rw [kF,iD];exact nF X.length
  rw [←kF] at ho lf
  obtain ⟨gf,cf,rfl,hcf⟩:=ic ho (by omega)
  have hF:Byo w2 gf 0 F:=fun i hi=>by
    rw [Nat.zero_add,ho.row.cellAt i (by omega),byts,List.getElem?_map,List.getElem?_eq_getElem hi,List.getD,List.getElem?_eq_getElem hi];rfl
  have H2:Hid (Below w.heap.size w w2∧Hsh w2 w.heap.size (List.replicate 32 0)∧Byo w2 gf 0 F):=⟨b0.trans (hb.mono b0.size),hR.keep hb,hF⟩
  have KF:Hid (F=fo X):=kF
  have LF:Hid (F.length%64=0∧F.length<1073741824∧F.length≤cf):=⟨fm,by have:=HX.out.1;omega,hcf⟩
  have lfi:(F.length:Int)<1073741824:=by have:=LF.out;omega
  have cfi:(F.length:Int)≤(cf:Int):=by omega
  clear hb b0 hR hP hF ho ec lf zl fm kF hcf W H1 B1
  go_wp2_with fail
  refine (yY _).mono ?_
  rintro e w3 ⟨⟨v,rfl,ho⟩,hb⟩
  obtain ⟨gq,ck,rfl,hK,gqq⟩:=ho.rw' (by decide)
  rw [show kN.length=64 from rfl]
  have H3:Hid (Below w.heap.size w w3∧Hsh w3 w.heap.size (List.replicate 32 0)∧Byo w3 gf 0 F∧Rw w3 gq kN):=⟨H2.out.1.trans (hb.mono H2.out.1.size),H2.out.2.1.keep hb,H2.out.2.2.keep hb,hK⟩
  clear hb ho hK gqq H2
  go_wp2_with fail
  refine (rI _).mono ?_
  rintro e w4 ⟨rfl,hb⟩
  have H4:Hid (Below w.heap.size w w4∧Hsh w4 w.heap.size (List.replicate 32 0)∧Byo w4 gf 0 F∧Rw w4 gq kN):=⟨H3.out.1.trans (hb.mono H3.out.1.size),H3.out.2.1.keep hb,H3.out.2.2.1.keep hb,H3.out.2.2.2.keep hb⟩
  clear hb H3
  obtain ⟨S0,kS0⟩:∃ S,S=hN:=⟨_,rfl⟩
  have KS0:Hid (S0=hN∧S0.length=8):=⟨kS0,by rw [kS0];rfl⟩
  rw [←kS0]
  clear kS0
  have isC:(Tryz.prog.info? 120).map (·.size)=some (aE S0).toArray.size:=by rw [List.size_toArray,aP,KS0.out.2];kernel_rfl
  have ocC:=dp S0
  have thz:∀ t,(w4.alloc (.cells #[.int .u32 0,.int .u32 0,.int .u32 0,.int .u32 0,.int .u32 0,.int .u32 0,.int .u32 0,.int .u32 0] t)).there w4.heap.size 0 (aE S0).toArray.size:=fun t=>by
    rw [show (aE S0).toArray.size=8 by simp [aP,KS0.out.2]];exact (E8.zeros t rfl).there
  have B4:∀ t,Below w4.heap.size w4 ((w4.alloc (.cells #[.int .u32 0,.int .u32 0,.int .u32 0,.int .u32 0,.int .u32 0,.int .u32 0,.int .u32 0,.int .u32 0] t)).setCells w4.heap.size 0 (aE S0)):=fun t=>below_setCells (Nat.le_refl _) _ 0 _ ((Below.refl _ _).alloc (Nat.le_refl _) _)
  have F4:∀ t,Hid ((Below w.heap.size w ((w4.alloc (.cells #[.int .u32 0,.int .u32 0,.int .u32 0,.int .u32 0,.int .u32 0,.int .u32 0,.int .u32 0,.int .u32 0] t)).setCells w4.heap.size 0 (aE S0))∧Hsh ((w4.alloc (.cells #[.int .u32 0,.int .u32 0,.int .u32 0,.int .u32 0,.int .u32 0,.int .u32 0,.int .u32 0,.int .u32 0] t)).setCells w4.heap.size 0 (aE S0)) w.heap.size (List.replicate 32 0)∧Byo ((w4.alloc (.cells #[.int .u32 0,.int .u32 0,.int .u32 0,.int .u32 0,.int .u32 0,.int .u32 0,.int .u32 0,.int .u32 0] t)).setCells w4.heap.size 0 (aE S0)) gf 0 F∧Rw ((w4.alloc (.cells #[.int .u32 0,.int .u32 0,.int .u32 0,.int .u32 0,.int .u32 0,.int .u32 0,.int .u32 0,.int .u32 0] t)).setCells w4.heap.size 0 (aE S0)) gq kN)∧E8 ((w4.alloc (.cells #[.int .u32 0,.int .u32 0,.int .u32 0,.int .u32 0,.int .u32 0,.int .u32 0,.int .u32 0,.int .u32 0] t)).setCells w4.heap.size 0 (aE S0)) w4.heap.size S0):=fun t=>⟨⟨H4.out.1.trans ((B4 t).mono H4.out.1.size),H4.out.2.1.keep (B4 t),H4.out.2.2.1.keep (B4 t),H4.out.2.2.2.keep (B4 t)⟩,(E8.zeros t rfl).stored KS0.out.2⟩
  have NB4:Hid (w4.heap.size≠w.heap.size∧w4.heap.size≠gf∧w4.heap.size≠gq∧w.heap.size≤w4.heap.size):=⟨Nat.ne_of_gt H4.out.2.1.lt,Nat.ne_of_gt (World.block_lt_of_cell? _ _ (H4.out.2.2.1 0 (by have h:=LF.out;have:=KF.out;rw [KF.out,iD,eO];omega))),Nat.ne_of_gt (H4.out.2.2.2.lt (by decide)),H4.out.1.size⟩
  clear B4 H4
  go_wp2_with ((with_reducible refine an (ty:=120) w4.heap.size 0 (aE S0).toArray (thz _) isC ocC ?_ ?_ ?_);rfl;rfl;refine aA (fun W=>(Below w.heap.size w W∧Hsh W w.heap.size (List.replicate 32 0)∧Byo W gf 0 F∧Rw W gq kN)∧E8 W w4.heap.size S0) (F4 _).out ?_;clear F4 thz isC ocC;rintro W hW)
  have HW:Hid ((Below w.heap.size w W∧Hsh W w.heap.size (List.replicate 32 0)∧Byo W gf 0 F∧Rw W gq kN)∧E8 W w4.heap.size (eQ F 0)):=by rw [show eQ F 0=S0 from KS0.out.1.symm];exact hW
  clear hW KS0
  generalize w4.heap.size=bs at *
  go_loopg [8] (F.length/64) (fun k iv wr=>∃ n:Nat,k=F.length/64-n∧n≤F.length/64∧iv = .int .i64 (64*(n:Int))∧(Below w.heap.size w wr∧Hsh wr w.heap.size (List.replicate 32 0)∧Byo wr gf 0 F∧Rw wr gq kN)∧E8 wr bs (eQ F n))
  case atStart=>exact ⟨0,rfl,Nat.zero_le _,rfl,HW.out⟩
  case round =>
    clear HW
    obtain ⟨n,hk,hn,rfl,hf⟩:=hrel
    have HK:Hid (gk=F.length/64-n):=hk
    have HQ:Hid (Rw wr gq kN):=hf.1.2.2.2
    have HF:Hid (Below w.heap.size w wr∧Hsh wr w.heap.size (List.replicate 32 0)∧Byo wr gf 0 F∧E8 wr bs (eQ F n)):=⟨hf.1.1,hf.1.2.1,hf.1.2.2.1,hf.2⟩
    clear hk hf
    by_cases h8:n=F.length/64
    · have nx:¬(64*(n:Int)<(F.length:Int)):=by have:=LF.out;omega
      clear HQ
      have S8:Hid (bP X=ie (eQ F n)∧(eQ F n).length=8):=⟨by rw [h8,KF.out];exact rfl,jz _ _⟩
      have H8:Hid (E8 wr bs (eQ F n)):=HF.out.2.2.2
      obtain ⟨S,kS⟩:∃ S,S=eQ F n:=⟨_,rfl⟩
      rw [←kS] at S8 H8
      have HG:Hid (Below w.heap.size w wr∧Hsh wr w.heap.size (List.replicate 32 0)):=⟨HF.out.1,HF.out.2.1⟩
      clear HF kS h8 hn
      go_wp2_with fail
      refine af (fun W=>Below w.heap.size w W∧Hsh W w.heap.size (List.replicate 32 0)∧Wds W bs 0 S∧Hsh W wr.heap.size (List.replicate 32 0)) ⟨HG.out.1.alloc HG.out.1.size _,HG.out.2.alloc _,H8.out.2.1.alloc _,Hsh.zeros _ rfl⟩ ?_
      rintro W ⟨hB,hR,hA,hO⟩
      have NB:Hid (wr.heap.size≠w.heap.size∧wr.heap.size≠bs∧w.heap.size≤wr.heap.size):=by
        have h1:=HG.out.2.lt
        have h2:=H8.out.lt
        exact ⟨by omega,by omega,HG.out.1.size⟩
      clear HG H8
      generalize wr.heap.size=bo at *
      go_loopg [10] 32 (fun k iv wr=>∃ (i:Nat) (M:List (BitVec 8)),k=32-i∧i≤32∧iv = .int .i64 i∧(∀ t,t<i→M.getD t 0=mh (S.getD (t/4) 0) (24-t%4*8))∧Below w.heap.size w wr∧Wds wr bs 0 S∧Hsh wr w.heap.size (List.replicate 32 0)∧Hsh wr bo M)
      case atStart=>exact ⟨0,_,rfl,by decide,rfl,fun t h=>absurd h (Nat.not_lt_zero _),hB,hA,hR,hO⟩
      case round =>
        clear hB hA hR hO
        obtain ⟨i,M,hk,hi,rfl,up,hf⟩:=hrel
        have HK2:Hid (gk=32-i):=hk
        have HF:Hid (Below w.heap.size w wr∧Wds wr bs 0 S∧Hsh wr w.heap.size (List.replicate 32 0)∧Hsh wr bo M):=hf
        have UP:Hid (∀ t,t<i→M.getD t 0=mh (S.getD (t/4) 0) (24-t%4*8)):=up
        clear hk hf up
        by_cases h9:i=32
        · subst h9
          have EL:Hid (M=ie S):=nE HF.out.2.2.2.1 UP.out
          have rb:=HF.out.2.2.2.range
          have sz:((byts M).toArray).size=32:=by simp [byts_len,HF.out.2.2.2.1]
          have tr:wr.there w.heap.size 0 ((byts M).toArray).size:=by rw [sz];exact HF.out.2.2.1.there
          have oc:=one_byts M
          obtain ⟨N,kN⟩:∃ N,byts M=N:=⟨_,rfl⟩
          rw [kN] at rb sz tr oc
          have HM:Hid (N.length=32∧byts (bP X)=N):=⟨by rw [←kN,byts_len];exact HF.out.2.2.2.1,by rw [S8.out.1,←EL.out,kN]⟩
          clear kN
          have il:(Tryz.prog.info? 26).map (·.size)=some N.length:=by rw [HM.out.1];kernel_rfl
          have il3:(Tryz.prog.info? 26).map (·.size)=some N.toArray.size:=by rw [sz];kernel_rfl
          go_wp2_with (first
            | ((with_reducible refine aH (ty:=26) bo 0 N _ rb Tryz.underlying26 ?_ il ?_ ?_);rfl;rfl;simp only [Act.put,List.setIfInBounds_toArray,List.set_cons_succ,List.set_cons_zero])
            | ((with_reducible refine an (ty:=26) w.heap.size 0 N.toArray tr il3 oc ?_ ?_ ?_);rfl;rfl))
          have ld:=run_loadVar_mid (P:=Tryz.prog) (wr.setCells w.heap.size 0 N) w.heap.size 0 26 N _ (World.rangeAt_setCells_same _ _ _ _ (by simpa using tr)) Tryz.underlying26 rfl il
          refine bodyPost_ret (v:=.agg N.toArray) ?_ rfl ⟨by rw [HM.out.2],below_setCells (Nat.le_refl _) N 0 wr HF.out.1⟩
          simp [results,Tryz.results144,Act.put,asAddr,ld]
        · have hi':(i:Int)<32:=by omega
          have e1:((i:Int)/4).toNat=i/4:=by omega
          have e2:(24-8*((i:Int)%4)).toNat=24-i%4*8:=by omega
          have g0:=HF.out.2.1 (i/4) (by rw [S8.out.2];omega)
          rw [Nat.zero_add] at g0
          have gs:=HF.out.2.2.2.2.1 i (by omega)
          have fs:=HF.out.2.2.2.2.2 i (by omega)
          obtain ⟨z,kz⟩:∃ z,z=S.getD (i/4) 0:=⟨_,rfl⟩
          rw [←kz] at g0
          have KZ:Hid (z=S.getD (i/4) 0):=kz
          clear kz
          have v0:=jQ z;have v1:=jR z
          have vd:=zu z (24-i%4*8)
          go_wp2
          go_roundg (32-(i+1))
          case measure=>have:=HK2.out;omega
          case rel =>
            refine ⟨i+1,M.set i (mh z (24-i%4*8)),rfl,by omega,by go_num,fun t ht=>?_,HF.out.1.setCell NB.out.2.2 _,HF.out.2.1.other NB.out.2.1 _,HF.out.2.2.1.other NB.out.1 _,HF.out.2.2.2.set i (by omega) _⟩
            by_cases e:t=i
            · subst e;rw [←KZ.out];simp [List.getD,HF.out.2.2.2.1,show t<32 by omega]
            · rw [←UP.out t (by omega)];simp [List.getD,List.getElem?_set_ne (Ne.symm e)]
    · have hx:64*n+64≤F.length:=by have:=LF.out;omega
      have NX:Hid (eQ F (n+1)=dO (eQ F n) (blk F n)):=rfl
      have HB:Hid ((blk F n).length=64∧64*n+64≤F.length∧n<F.length/64):=⟨ss hx,hx,by omega⟩
      have lS:=jz F n
      obtain ⟨S,kS⟩:∃ S,S=eQ F n:=⟨_,rfl⟩
      rw [←kS] at HF NX lS
      clear kS
      obtain ⟨s0,s1,s2,s3,s4,s5,s6,s7,rfl⟩:=ib lS
      have RC:Hid (∀ W,Byo W gf 0 F→Rw W gq kN→Calls Tryz.prog 178 #[.agg #[.int .u32 (U s0),.int .u32 (U s1),.int .u32 (U s2),.int .u32 (U s3),.int .u32 (U s4),.int .u32 (U s5),.int .u32 (U s6),.int .u32 (U s7)],.slice (some ⟨gf,64*n,none⟩) 64 (cf-64*n),.slice (some ⟨gq,0,none⟩) 64 ck] W fun e w'=>e = .returned (.agg (aE (dO [s0,s1,s2,s3,s4,s5,s6,s7] (blk F n))).toArray)∧Below W.heap.size W w'):=fun W h1 h2=>rH (S:=[s0,s1,s2,s3,s4,s5,s6,s7]) rfl HB.out.1 W (zb h1 HB.out.2.1) h2
      obtain ⟨N,kN'⟩:∃ N,N=dO [s0,s1,s2,s3,s4,s5,s6,s7] (blk F n):=⟨_,rfl⟩
      rw [←kN'] at RC NX
      have LN:Hid (N.length=8):=by rw [kN'];exact jS _ _
      clear kN' lS
      obtain ⟨x,ex⟩:∃ x:Nat,x=64*n:=⟨_,rfl⟩
      have e64:64*(n:Int)=(x:Int):=by omega
      have EX:Hid (x=64*n):=ex
      rw [←ex] at RC
      rw [e64]
      have x1:(x:Int)<(F.length:Int):=by omega
      have x2:(x:Int)+64≤(cf:Int):=by have:=LF.out;omega
      have x3:(x:Int)<1073741824:=by omega
      have x4:((x:Int)+64).toNat=x+64:=by omega
      have kF:∀ d os,Byo (grow (redrawn wr d) os) gf 0 F:=fun d os=>HF.out.2.2.1.keep (below_regrown wr d os)
      have kQ:∀ d os,Rw (grow (redrawn wr d) os) gq kN:=fun d os=>HQ.out.keep (below_regrown wr d os)
      have g0:wr.cell? ⟨bs,0,none⟩=some (.int .u32 (U s0)):=HF.out.2.2.2.at (i:=0) (by decide)
      have r0:=fun d os=>cell_regrown g0 d os
      clear g0
      have g1:wr.cell? ⟨bs,1,none⟩=some (.int .u32 (U s1)):=HF.out.2.2.2.at (i:=1) (by decide)
      have r1:=fun d os=>cell_regrown g1 d os
      clear g1
      have g2:wr.cell? ⟨bs,2,none⟩=some (.int .u32 (U s2)):=HF.out.2.2.2.at (i:=2) (by decide)
      have r2:=fun d os=>cell_regrown g2 d os
      clear g2
      have g3:wr.cell? ⟨bs,3,none⟩=some (.int .u32 (U s3)):=HF.out.2.2.2.at (i:=3) (by decide)
      have r3:=fun d os=>cell_regrown g3 d os
      clear g3
      have g4:wr.cell? ⟨bs,4,none⟩=some (.int .u32 (U s4)):=HF.out.2.2.2.at (i:=4) (by decide)
      have r4:=fun d os=>cell_regrown g4 d os
      clear g4
      have g5:wr.cell? ⟨bs,5,none⟩=some (.int .u32 (U s5)):=HF.out.2.2.2.at (i:=5) (by decide)
      have r5:=fun d os=>cell_regrown g5 d os
      clear g5
      have g6:wr.cell? ⟨bs,6,none⟩=some (.int .u32 (U s6)):=HF.out.2.2.2.at (i:=6) (by decide)
      have r6:=fun d os=>cell_regrown g6 d os
      clear g6
      have g7:wr.cell? ⟨bs,7,none⟩=some (.int .u32 (U s7)):=HF.out.2.2.2.at (i:=7) (by decide)
      have r7:=fun d os=>cell_regrown g7 d os
      clear g7
      clear ex e64 hx h8 hn
      go_wp2_with fail
      refine aL 8 (by kernel_rfl) (by kernel_rfl) ?_
      simp only [List.take_succ_cons,List.take_zero,List.drop_succ_cons,List.drop_zero]
      repeat
        first
          | go_big_quiet_skip
          | (go_big_quiet_want;go_big_quiet_op;go_big_quiet_on)
          | (go_big_quiet_want
             go_big_quiet_op
             apply Exists.intro
             refine ⟨fun p=>?_,?_⟩
             · (go_at_call 178;with_reducible exact Calls.regrown_of (RC.out _ (kF p.d p.os) (kQ p.d p.os)))
             go_big_quiet_on)
      refine wpQuiet_nil ?_
      rintro w5 ⟨p,rfl⟩
      have hb:=below_regrown wr p.d p.os
      have H5:Hid (Below w.heap.size w (grow (redrawn wr p.d) p.os)∧Hsh (grow (redrawn wr p.d) p.os) w.heap.size (List.replicate 32 0)∧Byo (grow (redrawn wr p.d) p.os) gf 0 F∧E8 (grow (redrawn wr p.d) p.os) bs [s0,s1,s2,s3,s4,s5,s6,s7]∧Rw (grow (redrawn wr p.d) p.os) gq kN):=⟨HF.out.1.trans (hb.mono HF.out.1.size),HF.out.2.1.keep hb,HF.out.2.2.1.keep hb,HF.out.2.2.2.keep hb,HQ.out.keep hb⟩
      generalize grow (redrawn wr p.d) p.os=w5 at *
      clear hb HF HQ kF kQ RC r0 r1 r2 r3 r4 r5 r6 r7
      have isN:(Tryz.prog.info? 120).map (·.size)=some (aE N).toArray.size:=by rw [List.size_toArray,aP,LN.out];kernel_rfl
      have ocN:=dp N
      have tr:w5.there bs 0 (aE N).toArray.size:=by rw [show (aE N).toArray.size=8 by simp [aP,LN.out]];exact H5.out.2.2.2.1.there
      have F5:Hid (Below w.heap.size w (w5.setCells bs 0 (aE N))∧Hsh (w5.setCells bs 0 (aE N)) w.heap.size (List.replicate 32 0)∧Byo (w5.setCells bs 0 (aE N)) gf 0 F∧E8 (w5.setCells bs 0 (aE N)) bs N∧Rw (w5.setCells bs 0 (aE N)) gq kN):=⟨below_setCells NB4.out.2.2.2 _ 0 _ H5.out.1,H5.out.2.1.otherCells NB4.out.1 _,fun i hi=>by rw [World.cell?_setCells_out _ _ _ _ _ (fun e=>absurd e.symm NB4.out.2.1)];exact H5.out.2.2.1 i hi,H5.out.2.2.2.1.stored LN.out,H5.out.2.2.2.2.otherCells NB4.out.2.2.1 _⟩
      go_wp2_with ((with_reducible refine an (ty:=120) bs 0 (aE N).toArray tr isN ocN ?_ ?_ ?_);rfl;rfl;refine aA (fun W=>Below w.heap.size w W∧Hsh W w.heap.size (List.replicate 32 0)∧Byo W gf 0 F∧E8 W bs N∧Rw W gq kN) F5.out ?_;clear F5 tr isN ocN;rintro W' hW')
      have HW':Hid (Below w.heap.size w W'∧Hsh W' w.heap.size (List.replicate 32 0)∧Byo W' gf 0 F∧E8 W' bs N∧Rw W' gq kN):=hW'
      clear hW' H5
      go_roundg (F.length/64-(n+1))
      case measure=>have:=HK.out;have:=HB.out;omega
      case rel=>exact ⟨n+1,rfl,by have:=HB.out;omega,by congr 1;have:=EX.out;omega,⟨HW'.out.1,HW'.out.2.1,HW'.out.2.2.1,HW'.out.2.2.2.2⟩,by rw [NX.out];exact HW'.out.2.2.2.1⟩
end Go.Proofs.YtnnnaajgjniiaaaGreatDoor.S
