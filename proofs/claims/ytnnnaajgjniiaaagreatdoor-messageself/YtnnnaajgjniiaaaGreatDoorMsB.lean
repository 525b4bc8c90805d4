import Derived.Test.YtnnnaajgjniiaaaGreatDoorMsA
import Derived.Test.YtnnnaajgjniiaaaGreatDoorMgC
import Derived.Test.YtnnnaajgjniiaaaGreatDoorAdLast
import Derived.Test.YtnnnaajgjniiaaaGreatDoorESW
import Derived.Test.YtnnnaajgjniiaaaGreatDoorCut
set_option maxRecDepth 100000
set_option maxHeartbeats 16000000
namespace Go.Proofs.YtnnnaajgjniiaaaGreatDoor
open Go.RowKit Go.Sort
theorem sZ {key r s e0:Int} {o:Bool} {v:Value} {D:List Value} (w:World)
    (PS:Hid (∀ W,Below w.heap.size w W→Calls Tryz.prog 24 #[v] W fun e w'=>e = .returned (.agg D.toArray)∧Below W.heap.size W w'))
    (SG:Hid (∀ W,Mds W→ShT W→ar W→Calls Tryz.prog 5 #[.agg #[.int .u64 (l0 key),.int .u64 (l1 key),.int .u64 (l2 key),.int .u64 (l3 key)],.agg D.toArray] W fun e w'=>e = .returned (.tuple #[.agg #[.int .u64 (l0 r),.int .u64 (l1 r),.int .u64 (l2 r),.int .u64 (l3 r),.int .u64 (l0 s),.int .u64 (l1 s),.int .u64 (l2 s),.int .u64 (l3 s),.bool o],.int .i64 e0])∧Below W.heap.size W w')) (hm:Mds w) (ht:ShT w) (hc:ar w) :
    Calls Tryz.prog 9 #[v,.agg #[.int .u64 (l0 key),.int .u64 (l1 key),.int .u64 (l2 key),.int .u64 (l3 key)]] w fun e w'=>e = .returned (.tuple #[.agg #[.int .u64 (l0 r),.int .u64 (l1 r),.int .u64 (l2 r),.int .u64 (l3 r),.int .u64 (l0 s),.int .u64 (l1 s),.int .u64 (l2 s),.int .u64 (l3 s),.bool o],.int .i64 e0])∧Below w.heap.size w w':=by
  have BA:∀ (V:World) o,Below V.heap.size V (V.alloc o):=fun V o=>(Below.refl _ _).alloc (Nat.le_refl _) o
  go_enter Tryz.func9,Tryz.ntmps9
  go_wp2_with fail
  refine aj (fun W=>Below w.heap.size w W∧Mds W∧ShT W∧ar W∧ae W w.heap.size key∧Bk9 W (w.heap.size+1)) ⟨((Below.refl _ _).alloc (Nat.le_refl _) _).alloc (by simp) _,(hm.alloc _).alloc _,(ht.keep (BA _ _)).keep (BA _ _),(hc.keep (BA _ _)).keep (BA _ _),(ae.new _ _ _).keep (BA _ _),Bk9.new (by simp)⟩ ?_
  rintro W ⟨B,hM,hT,hC,hK,hR⟩
  clear hm ht hc BA
  have gK:=hK.grown
  have BB:Hid (∀ d os,Below w.heap.size w (grow (redrawn W d) os)):=fun d os=>B.trans ((below_regrown W d os).mono B.size)
  have GG:Hid (∀ d os,Mds (grow (redrawn W d) os)∧ShT (grow (redrawn W d) os)∧ar (grow (redrawn W d) os)):=fun d os=>⟨hM.keep (below_regrown W d os),hT.keep (below_regrown W d os),hC.keep (below_regrown W d os)⟩
  refine jJ 6 5 (by kernel_rfl) (by kernel_rfl) (by kernel_rfl) (fun _ _ _ _ _ h=>h) ?_
  simp only [List.take_succ_cons,List.take_zero,List.drop_succ_cons,List.drop_zero]
  repeat
    first
      | go_big_quiet_skip
      | (go_big_quiet_want;go_big_quiet_op;go_big_quiet_on)
      | (go_big_quiet_want
         go_big_quiet_op
         apply Exists.intro
         refine ⟨fun p=>?_,?_⟩
         · (first|(go_at_call 24;with_reducible exact Calls.regrown_of (PS.out _ (BB.out p.d p.os)))|(go_at_call 5;with_reducible exact Calls.regrown_of (SG.out _ (GG.out p.d p.os).1 (GG.out p.d p.os).2.1 (GG.out p.d p.os).2.2)))
         go_big_quiet_on)
  refine wpQuiet_nil ?_
  rintro w1 ⟨p,rfl⟩
  have hb:=below_regrown W p.d p.os
  generalize grow (redrawn W p.d) p.os=w1 at *
  replace B:=B.trans (hb.mono B.size)
  replace hR:=hR.keep hb
  clear hb gK BB GG hM hT hC hK PS SG W
  have gR:=hR.cells
  have fR:=hR.free
  have B9:Hid (Below w.heap.size w w1):=B
  have o3:w.heap.size≤w.heap.size+1:=by omega
  clear hR B
  generalize w.heap.size+1=br at *
  go_wp2
  simp [bodyPost,results,Tryz.results9,go_sem, *]
  repeat (first|with_reducible exact B9.out|with_reducible refine Below.setCell ?_ o3 _)
theorem vY {r s x y:Int} {o:Bool} {v:Value} {D N:List Value} (kN:N.length=20) (oc:N.toArray.all (·.oneCell')=true) (w:World)
    (PS:Hid (∀ W,Below w.heap.size w W→Calls Tryz.prog 24 #[v] W fun e w'=>e = .returned (.agg D.toArray)∧Below W.heap.size W w'))
    (RC:Hid (∀ W,Mds W→ar W→Calls Tryz.prog 25 #[.agg D.toArray,.agg #[.int .u64 (l0 r),.int .u64 (l1 r),.int .u64 (l2 r),.int .u64 (l3 r),.int .u64 (l0 s),.int .u64 (l1 s),.int .u64 (l2 s),.int .u64 (l3 s),.bool o]] W fun e w'=>e = .returned (.tuple #[.agg #[.int .u64 (l0 x),.int .u64 (l1 x),.int .u64 (l2 x),.int .u64 (l3 x),.int .u64 (l0 y),.int .u64 (l1 y),.int .u64 (l2 y),.int .u64 (l3 y),.bool false],.int .i64 0])∧Below W.heap.size W w'))
    (OP:Hid (∀ W,Mds W→KtC W→Calls Tryz.prog 22 #[.agg #[.int .u64 (l0 x),.int .u64 (l1 x),.int .u64 (l2 x),.int .u64 (l3 x),.int .u64 (l0 y),.int .u64 (l1 y),.int .u64 (l2 y),.int .u64 (l3 y),.bool false]] W fun e w'=>e = .returned (.tuple #[.agg N.toArray,.int .i64 0])∧Below W.heap.size W w')) (hm:Mds w) (hc:ar w) (hk:KtC w) :
    Calls Tryz.prog 12 #[v,.agg #[.int .u64 (l0 r),.int .u64 (l1 r),.int .u64 (l2 r),.int .u64 (l3 r),.int .u64 (l0 s),.int .u64 (l1 s),.int .u64 (l2 s),.int .u64 (l3 s),.bool o]] w fun e w'=>e = .returned (.tuple #[.agg N.toArray,.int .i64 0])∧Below w.heap.size w w':=by
  have KN:Hid (N.length=20):=kN
  have sz:N.toArray.size=20:=by simp [kN]
  clear kN
  go_enter Tryz.func12,Tryz.ntmps12
  go_wp2_with fail
  refine aj (fun W=>Below w.heap.size w W∧Mds W∧ar W∧KtC W∧Pnt W w.heap.size r s o∧Bts W (w.heap.size+1) (List.replicate 20 0)) ⟨((Below.refl _ _).alloc (Nat.le_refl _) _).alloc (by simp) _,(hm.alloc _).alloc _,(hc.alloc _).alloc _,(hk.alloc _).alloc _,(Pnt.new rfl).alloc _,Bts.new (List.replicate 20 0) _ (by simp)⟩ ?_
  rintro W ⟨B,hM,hC,hK,hS,hR⟩
  clear hm hc hk
  have o3:w.heap.size≤w.heap.size+1:=by omega
  generalize w.heap.size+1=br at *
  refine jL (A:=?AA1) 7 8 6 (by kernel_rfl) (by kernel_rfl) (fun _ _ _ _ _ h=>h) (by kernel_rfl) rfl rfl (la _ _ _) (fun V hV=>?HH1) (fun V w1 hV hw=>?TT1)
  case HH1 =>
    have gS:=(hS.keep hV).grown
    have BB:Hid (∀ d os,Below w.heap.size w (grow (redrawn V d) os)):=fun d os=>(B.trans (hV.mono B.size)).trans ((below_regrown V d os).mono (B.trans (hV.mono B.size)).size)
    have GG:Hid (∀ d os,Mds (grow (redrawn V d) os)∧ar (grow (redrawn V d) os)):=fun d os=>⟨(hM.keep hV).keep (below_regrown V d os),(hC.keep hV).keep (below_regrown V d os)⟩
    unfold Gr
    simp only [List.take_succ_cons,List.take_zero]
    repeat
      first
        | go_big_quiet_skip
        | (go_big_quiet_want;go_big_quiet_op;go_big_quiet_on)
        | (go_big_quiet_want
           go_big_quiet_op
           apply Exists.intro
           refine ⟨fun p=>?_,?_⟩
           · (first|(go_at_call 24;with_reducible exact Calls.regrown_of (PS.out _ (BB.out p.d p.os)))|(go_at_call 25;with_reducible exact Calls.regrown_of (RC.out _ (GG.out p.d p.os).1 (GG.out p.d p.os).2)))
           go_big_quiet_on)
    refine wpQuiet_nil ?_
    exact rfl
  case TT1 =>
    have hb:=au hV hw
    have hN:=(Bk9.new rfl).keep hw
    have hq:Below W.heap.size W (put9 w1 V.heap.size x y false):=bi hb hV.size
    have FF:Hid (Below w.heap.size w (put9 w1 V.heap.size x y false)∧Mds (put9 w1 V.heap.size x y false)∧KtC (put9 w1 V.heap.size x y false)∧Pnt (put9 w1 V.heap.size x y false) V.heap.size x y false∧Bts (put9 w1 V.heap.size x y false) br (List.replicate 20 0)):=⟨B.trans (hq.mono B.size),hM.keep hq,hK.keep hq,hN.put9 x y false,hR.keep (by simp) hq⟩
    have gn:w.heap.size≤V.heap.size:=Nat.le_trans B.size hV.size
    clear hb hw hV hC hS hq B hM hK hR
    clear W PS RC
    generalize V.heap.size=bp at *
    clear V
    have gN:=hN.cells;have qN:=hN.free
    simp only [List.drop_succ_cons,List.drop_zero,Act.put,List.setIfInBounds_toArray,List.set_cons_zero,List.set_cons_succ]
    go_wp2_with fail
    refine aa (fun W=>Below w.heap.size w W∧Mds W∧KtC W∧Bts W br (List.replicate 20 0)) ⟨FF.out.1,FF.out.2.1,FF.out.2.2.1,FF.out.2.2.2.2⟩ ?_
    clear FF gN qN hN gn w1
    rintro W ⟨B,hM,hK,hR⟩
    refine (OP.out W hM hK).mono ?_
    rintro e w1 ⟨rfl,hb⟩
    replace B:=B.trans (hb.mono B.size)
    have tr:=(hR.keep (by simp) hb).there (k:=N.toArray.size) (by rw [sz];rfl)
    clear hb hR hM hK OP W
    go_wp2_with (refine wpList_store_mid rfl 38 _ _ rfl br 0 N.toArray rfl rfl tr (by rw [sz];kernel_rfl) oc ?_;refine aQ (fun W'=>Below w.heap.size w W'∧W'.rangeAt br 0 N) (cG B o3 (by simpa using tr)) ?_;rintro W' ⟨B',hD⟩)
    have ld:=run_loadVar_mid (P:=Tryz.prog) W' br 0 38 N _ hD Tryz.underlying38 rfl (by rw [KN.out];kernel_rfl)
    refine bodyPost_ret (v:=.tuple #[.agg N.toArray,.int .i64 0]) ?_ rfl ⟨rfl,B'⟩
    simp [results,Tryz.results12,asAddr,ld]
open Go.RowKit Go.Sort
theorem fa {P:Program} {ops:Array Oper} {rest:List Oper} {op:Oper} {a:Act} {w:World} {Q:Exit→Act→World→Prop} (hw:Region.wanted op (yielded ops a.tmps)=true) (ty:TypeId) (x:Operand) (ho:op.op = .load ty x)
  (b o:Nat) (hx:a.eval x = .pointer (some ⟨b,o,none⟩)) (cs:List Value) (d:TypeDesc) (hc:w.rangeAt b o cs)
  (hu:P.underlying ty=some d) (hd:d.isRow=true) (hi:(P.info? ty).map (·.size)=some cs.length)
  (h:wpList P ops Q rest (a.put op.dst (.agg cs.toArray)) w):wpList P ops Q (op :: rest) a w:=by
 unfold wpList
 rw [if_pos hw]
 exact .inl (wp_load_mid ty x ho b o hx cs d hc hu hd hi h)
theorem an {P:Program} {md:Region.Mode} {ops:Array Oper} {Q:Exit→Act→World→Prop} {S:World→Prop} {i:Nat} {oi:Oper} {v:Value} {fuel:Nat} {listed:Array Bool} {a:Act} {w:World} (d:Nat) (hi:ops[i]?=some oi) (hd:oi.dst=some d)
  (hs:Region.noSelect ops=true) (hf:Region.free md ops listed i=true) (hr:(Region.ready md ops listed).contains i=true)
  (hQ:∀ c a w,Q (.panic c) (a.put oi.dst v) w→Q (.panic c) a w) (hy:YieldsIf P ops S oi v a) (hS:S w)
  (h:wpAnyH P md ops Q S fuel (listed.setIfInBounds i true) (a.put (some d) v) w):wpAnyH P md ops Q S (fuel+1) listed a w :=
 wpAnyH_take hi hs hf hr hQ hy hS (by rw [hd];exact h)
theorem lO (W:World) (b:Nat) (vs:List Value):∀ o,(W.setCells b o vs).heap.size=W.heap.size:=by
 induction vs generalizing W with
 | nil=>exact fun _=>rfl
 | cons v r ih=>exact fun o=>by rw [World.setCells,ih];simp
theorem lQ {w W:World} {b7 bn:Nat} {NA:List Value} (NU:Hid (∀ v W,Calls Tryz.prog 11 #[.int .i64 v] W fun e w'=>e = .returned (.int .i64 v)∧Below W.heap.size W w')) (EN:∀ w,(Op.equalIn 10000 38 (.agg NA.toArray) (.agg NA.toArray)).run Tryz.prog w = .ok true w) (hA:NA.length=20) (B:Below w.heap.size w W) (h7:W.rangeAt b7 0 NA∧b7<W.heap.size) (hn:W.rangeAt bn 0 NA) {t0 t1 t2 t3 t5 t6 t8 t9 t13 t14 t15 t16 t17 t18 t19 t20 t21 t22 t23 t24 t25 t26 t27 t28 t29 t30 t31 t32 t33 t34 t35 t36 t37 t38 t39 t40 t41 t42 t43 t44 t45 t46 t47 t48 t49 t50 t51 t52 t53 t54 t55 t56 t57 t58 t59 t60 t61 t62 t63 t64 t65 t66 t67 t68 t69 t70 t71 t72 t73 t74:Value} :
  ga Tryz.prog Tryz.f4 8 (bodyPost Tryz.prog Tryz.f4 fun e w'=>e = .returned (.bool true)∧Below w.heap.size w w') { tmps:=#[t0,t1,t2,t3,.bool false,t5,t6,.pointer (some ⟨b7,0,none⟩),t8,t9,.int .i64 0,.pointer (some ⟨bn,0,none⟩),.int .i64 0,t13,t14,t15,t16,t17,t18,t19,t20,t21,t22,t23,t24,t25,t26,t27,t28,t29,t30,t31,t32,t33,t34,t35,t36,t37,t38,t39,t40,t41,t42,t43,t44,t45,t46,t47,t48,t49,t50,t51,t52,t53,t54,t55,t56,t57,t58,t59,t60,t61,t62,t63,t64,t65,t66,t67,t68,t69,t70,t71,t72,t73,t74],defers:=[] } W:=by
 have kA:Hid (NA.length=20):=hA
 have ln:bn<W.heap.size:=by
  have h:=hn 0 (NA[0]'(by omega)) (List.getElem?_eq_getElem _)
  exact World.block_lt_of_cell? W _ h
 refine ga.intro rfl ?_
 go_wp2_with (first
  | (go_at_call 11;refine (NU.out _ _).mono ?_;rintro e W1 ⟨rfl,hb⟩;replace B:=B.trans (hb.mono B.size);replace h7:=(⟨cZ h7.1 hb h7.2,Nat.lt_of_lt_of_le h7.2 hb.size⟩:W1.rangeAt b7 0 NA∧b7<W1.heap.size);replace hn:=cZ hn hb ln;replace ln:=Nat.lt_of_lt_of_le ln hb.size;clear hb)
  | refine fa (by rfl) 38 _ rfl b7 0 rfl NA _ h7.1 Tryz.underlying38 rfl (by rw [kA.out];kernel_rfl) ?_|refine fa (by rfl) 38 _ rfl bn 0 rfl NA _ hn Tryz.underlying38 rfl (by rw [kA.out];kernel_rfl) ?_)
 simp [bodyPost,results,Tryz.results4,go_sem]
 exact B
theorem lS {w W:World} {bk b7 bs n c:Nat} {a:Option Addr} {r s e0 fe:Int} {o:Bool} {X:List Int} {NA:List Value} (LE:Hid (∀ W,Below w.heap.size w W→Calls Tryz.prog 10 #[.slice a n c] W fun e w'=>∃ g,e = .returned (.slice (some ⟨g,0,none⟩) n (n+70))∧Rw8 w' g (e9 X)∧Below W.heap.size W w')) (NU:Hid (∀ v W,Calls Tryz.prog 11 #[.int .i64 v] W fun e w'=>e = .returned (.int .i64 v)∧Below W.heap.size W w')) (CS:Hid ((fe=60∧e0=60∧r=0∧s=0∧o=false)∨(fe=0∧e0=65∧r=0∧s=0∧o=false)∨(fe=0∧e0=0∧∀ W g,Below w.heap.size w W→Rw8 W g (e9 X)→Calls Tryz.prog 12 #[.slice (some ⟨g,0,none⟩) n (n+70),.agg #[.int .u64 (l0 r),.int .u64 (l1 r),.int .u64 (l2 r),.int .u64 (l3 r),.int .u64 (l0 s),.int .u64 (l1 s),.int .u64 (l2 s),.int .u64 (l3 s),.bool o]] W fun e w'=>e = .returned (.tuple #[.agg NA.toArray,.int .i64 0])∧Below W.heap.size W w'))) (EN:∀ w,(Op.equalIn 10000 38 (.agg NA.toArray) (.agg NA.toArray)).run Tryz.prog w = .ok true w) (oN:NA.toArray.all (·.oneCell')=true) (hA:NA.length=20) (B:Below w.heap.size w W) (hS:Pnt W bs r s o) (h7:W.rangeAt b7 0 NA) (l7:b7<W.heap.size) {t1 t2 t5 t6 t11 t12 t13 t14 t15 t16 t17 t18 t19 t20 t21 t22 t23 t24 t25 t26 t27 t28 t29 t30 t31 t32 t33 t34 t35 t36 t37 t38 t39 t40 t41 t42 t43 t44 t45 t46 t47 t48 t49 t50 t51 t52 t53 t54 t55 t56 t57 t58 t59 t60 t61 t62 t63 t64 t65 t66 t67 t68 t69 t70 t71 t72 t73 t74:Value} :
  ga Tryz.prog Tryz.f4 5 (bodyPost Tryz.prog Tryz.f4 fun e w'=>e = .returned (.bool true)∧Below w.heap.size w w') { tmps:=#[.slice a n c,t1,t2,.pointer (some ⟨bk,0,none⟩),.bool false,t5,t6,.pointer (some ⟨b7,0,none⟩),.int .i64 fe,.pointer (some ⟨bs,0,none⟩),.int .i64 e0,t11,t12,t13,t14,t15,t16,t17,t18,t19,t20,t21,t22,t23,t24,t25,t26,t27,t28,t29,t30,t31,t32,t33,t34,t35,t36,t37,t38,t39,t40,t41,t42,t43,t44,t45,t46,t47,t48,t49,t50,t51,t52,t53,t54,t55,t56,t57,t58,t59,t60,t61,t62,t63,t64,t65,t66,t67,t68,t69,t70,t71,t72,t73,t74],defers:=[] } W:=by
 have HA:Hid (NA.length=20):=hA
 have sN:NA.toArray.size=20:=by simp [hA]
 clear hA
 obtain ⟨z0,z1,z2,z3⟩:=ap
 have EQz:=uN (r:=0) (s:=0) (od:=false) xO xO
 simp only [z0,z1,z2,z3] at EQz
 refine ga.intro rfl ?_
 rcases CS.out with ⟨rfl,rfl,rfl,rfl,rfl⟩|⟨rfl,rfl,rfl,rfl,rfl⟩|⟨rfl,rfl,RP0⟩
 ·have gS:=hS.cells
  simp only [z0,z1,z2,z3] at gS
  have gW:Hid (Pnt W bs 0 0 false):=hS
  clear CS EN oN LE h7 l7 hS sN HA
  refine wp_seq_k fun K5 h5=>?_
  have H5:Hid _:=h5
  clear h5
  go_wp2_with (go_at_call 11;refine (NU.out _ _).mono ?_;rintro e W1 ⟨rfl,hb⟩;replace B:=B.trans (hb.mono B.size);replace gW:Hid (Pnt W1 bs 0 0 false):=gW.out.keep hb;clear gS hb;have gS:=gW.out.cells;simp only [z0,z1,z2,z3] at gS)
  simp [bodyPost,results,Tryz.results4,go_sem]
  exact B
 ·have gS:=hS.cells
  simp only [z0,z1,z2,z3] at gS
  have gW:Hid (Pnt W bs 0 0 false):=hS
  clear CS EN oN LE h7 l7 hS sN HA
  refine wp_seq_k fun K5 h5=>?_
  have H5:Hid _:=h5
  clear h5
  go_wp2_with (go_at_call 11;refine (NU.out _ _).mono ?_;rintro e W1 ⟨rfl,hb⟩;replace B:=B.trans (hb.mono B.size);replace gW:Hid (Pnt W1 bs 0 0 false):=gW.out.keep hb;clear gS hb;have gS:=gW.out.cells;simp only [z0,z1,z2,z3] at gS)
  refine H5.out _ _ ?_
  refine wp_seq_k fun K6 h6=>?_
  have H6:Hid _:=h6
  clear h6
  go_wp2_with (go_at_call 11;refine (NU.out _ _).mono ?_;rintro e W1 ⟨rfl,hb⟩;replace B:=B.trans (hb.mono B.size);replace gW:Hid (Pnt W1 bs 0 0 false):=gW.out.keep hb;clear gS hb;have gS:=gW.out.cells;simp only [z0,z1,z2,z3] at gS)
  simp [bodyPost,results,Tryz.results4,go_sem]
  exact B
 ·have RP:Hid (∀ W g,Below w.heap.size w W→Rw8 W g (e9 X)→Calls Tryz.prog 12 #[.slice (some ⟨g,0,none⟩) n (n+70),.agg #[.int .u64 (l0 r),.int .u64 (l1 r),.int .u64 (l2 r),.int .u64 (l3 r),.int .u64 (l0 s),.int .u64 (l1 s),.int .u64 (l2 s),.int .u64 (l3 s),.bool o]] W fun e w'=>e = .returned (.tuple #[.agg NA.toArray,.int .i64 0])∧Below W.heap.size W w'):=RP0
  clear CS EQz RP0
  refine wp_seq_k fun K5 h5=>?_
  have H5:Hid _:=h5
  clear h5
  go_wp2_with (go_at_call 11;refine (NU.out _ _).mono ?_;rintro e W1 ⟨rfl,hb⟩;replace B:=B.trans (hb.mono B.size);replace hS:=hS.keep hb;replace h7:=cZ h7 hb l7;replace l7:=Nat.lt_of_lt_of_le l7 hb.size;clear hb)
  refine H5.out _ _ ?_
  refine wp_seq_k fun K6 h6=>?_
  have H6:Hid _:=h6
  clear h6 H5 K5
  go_wp2_with (go_at_call 11;refine (NU.out _ _).mono ?_;rintro e W2 ⟨rfl,hb⟩;replace B:=B.trans (hb.mono B.size);replace hS:=hS.keep hb;replace h7:=cZ h7 hb l7;replace l7:=Nat.lt_of_lt_of_le l7 hb.size;clear hb)
  refine H6.out _ _ ?_
  clear H6 K6 W W1
  obtain ⟨W,rfl⟩:∃ W,W=W2:=⟨_,rfl⟩
  have SW:Hid (∀ V,Below W.heap.size W V→Below w.heap.size w V∧Pnt V bs r s o∧V.rangeAt b7 0 NA∧b7<V.heap.size):=fun V h=>⟨B.trans (h.mono B.size),hS.keep h,cZ h7 h l7,Nat.lt_of_lt_of_le l7 h.size⟩
  clear B hS h7 l7
  refine wp_seq_k fun K7 h7=>?_
  have H7:Hid _:=h7
  clear h7
  go_wp2_with fail
  refine wp_region_held_drew (S:=fun w'=>Below W.heap.size W w') (by kernel_rfl) ((Below.refl _ _).drew) (fun hHeld=>?_)
  refine an (i:=0) (oi:=_) (v:=.slice a n c) 56 rfl (by kernel_rfl) (by kernel_rfl) (by kernel_rfl) (by kernel_rfl) (fun _ _ _ h=>h) (Or.inl ⟨by kernel_rfl,?_⟩) (by assumption) ?_
  ·intro wq hSw
   have _:=hSw
   go_simp
  simp only [Act.put,List.setIfInBounds_toArray,List.set_cons_succ,List.set_cons_zero]
  refine an (i:=2) (oi:=_) (v:=.agg #[.int .u64 (l0 r),.int .u64 (l1 r),.int .u64 (l2 r),.int .u64 (l3 r),.int .u64 (l0 s),.int .u64 (l1 s),.int .u64 (l2 s),.int .u64 (l3 s),.bool o]) 58 rfl (by kernel_rfl) (by kernel_rfl) (by kernel_rfl) (by kernel_rfl) (fun _ _ _ h=>h) (Or.inl ⟨by kernel_rfl,?_⟩) (by assumption) ?_
  ·intro wq hSw
   have gk:=(SW.out _ hSw).2.1.cells
   go_simp
  simp only [Act.put,List.setIfInBounds_toArray,List.set_cons_succ,List.set_cons_zero]
  refine wpAnyH_ready (rs:=[1,7]) (by kernel_rfl) (by simp) ?_
  refine AllReadyH.cons rfl (fun K hK=>?_) (AllReadyH.cons rfl (fun K hK=>?_) AllReadyH.nil)
  ·go_simp
   go_wp2_with (go_at_call 10;refine (LE.out _ (SW.out _ hHeld).1).mono ?_;rintro e y1 ⟨g1,rfl,hL,hbx⟩)
   refine hK.out _ _ (hHeld.trans (hbx.mono hHeld.size)) (fun hHeld=>?_)
   clear hK K
   clear hbx
   refine wpAnyH_ready (rs:=[3,7]) (by kernel_rfl) (by simp) ?_
   refine AllReadyH.cons rfl (fun K hK=>?_) (AllReadyH.cons rfl (fun K hK=>?_) AllReadyH.nil)
   ·go_simp
    go_wp2_with (go_at_call 12;refine (RP.out _ g1 (SW.out _ hHeld).1 hL).mono ?_;rintro e y3 ⟨rfl,hbx⟩)
    refine hK.out _ _ (hHeld.trans (hbx.mono hHeld.size)) (fun hHeld=>?_)
    clear hK K
    clear hL
    clear hbx
    refine an (i:=4) (oi:=_) (v:=.tuple #[.agg NA.toArray,.int .i64 0]) 55 rfl (by kernel_rfl) (by kernel_rfl) (by kernel_rfl) (by kernel_rfl) (fun _ _ _ h=>h) (Or.inl ⟨by kernel_rfl,?_⟩) (by assumption) ?_
    ·intro wq hSw
     have _:=hSw
     go_simp
    simp only [Act.put,List.setIfInBounds_toArray,List.set_cons_succ,List.set_cons_zero]
    refine an (i:=5) (oi:=_) (v:=.agg NA.toArray) 60 rfl (by kernel_rfl) (by kernel_rfl) (by kernel_rfl) (by kernel_rfl) (fun _ _ _ h=>h) (Or.inl ⟨by kernel_rfl,?_⟩) (by assumption) ?_
    ·intro wq hSw
     have _:=hSw
     go_simp
    simp only [Act.put,List.setIfInBounds_toArray,List.set_cons_succ,List.set_cons_zero]
    refine an (i:=6) (oi:=_) (v:=.int .i64 0) 61 rfl (by kernel_rfl) (by kernel_rfl) (by kernel_rfl) (by kernel_rfl) (fun _ _ _ h=>h) (Or.inl ⟨by kernel_rfl,?_⟩) (by assumption) ?_
    ·intro wq hSw
     have _:=hSw
     go_simp
    simp only [Act.put,List.setIfInBounds_toArray,List.set_cons_succ,List.set_cons_zero]
    refine wpAnyH_ready (rs:=[7]) (by kernel_rfl) (by simp) ?_
    refine AllReadyH.cons rfl (fun K hK=>?_) AllReadyH.nil
    go_simp
    go_wp2_with fail
    refine cH (fun V=>Below y3.heap.size y3 V∧Bts V y3.heap.size (List.replicate 20 0)) ⟨(Below.refl _ _).alloc (Nat.le_refl _) _,Bts.new (List.replicate 20 0) _ rfl⟩ ?_
    rintro y7 ⟨hbx,hN⟩
    have gebn:Hid (W.heap.size≤y3.heap.size):=hHeld.size
    obtain ⟨bn,ebn⟩:∃ b,b=y3.heap.size:=⟨_,rfl⟩
    rw [←ebn] at hN gebn ⊢
    have up:=hHeld.trans (hbx.mono hHeld.size)
    clear ebn
    refine hK.out _ _ up (fun hHeld=>?_)
    clear hK K up
    clear hbx
    refine wpAnyH_ready (rs:=[8]) (by kernel_rfl) (by simp) ?_
    refine AllReadyH.cons rfl (fun K hK=>?_) AllReadyH.nil
    have tr:=hN.there (k:=NA.toArray.size) (by rw [sN];rfl)
    refine (if_pos (by kernel_rfl)).mpr ?_
    refine wp_store_mid 38 _ _ rfl bn 0 NA.toArray rfl rfl tr (by rw [sN];kernel_rfl) oN ?_
    refine cH (fun V=>Below W.heap.size W V∧V.rangeAt bn 0 NA) (cG hHeld gebn.out (by simpa using tr)) ?_
    rintro y8 ⟨hbx,hP⟩
    refine hK.out _ _ hbx (fun hHeld=>?_)
    clear hK K hN hbx tr
    refine an (i:=9) (oi:=_) (v:=.int .i64 0) 12 rfl (by kernel_rfl) (by kernel_rfl) (by kernel_rfl) (by kernel_rfl) (fun _ _ _ h=>h) (Or.inl ⟨by kernel_rfl,?_⟩) (by assumption) ?_
    ·intro wq hSw
     have _:=hSw
     go_simp
    simp only [Act.put,List.setIfInBounds_toArray]
    refine wpAnyH_done (by kernel_rfl) ?_ _
    go_wp2_with fail
    refine H7.out _ _ ?_
    exact (lQ NU EN HA.out (SW.out _ hHeld).1 (SW.out _ hHeld).2.2 hP).out rfl
   ·go_simp
    go_wp2_with fail
    refine cH (fun V=>Below y1.heap.size y1 V∧Bts V y1.heap.size (List.replicate 20 0)) ⟨(Below.refl _ _).alloc (Nat.le_refl _) _,Bts.new (List.replicate 20 0) _ rfl⟩ ?_
    rintro y7 ⟨hbx,hN⟩
    have gebn:Hid (W.heap.size≤y1.heap.size):=hHeld.size
    obtain ⟨bn,ebn⟩:∃ b,b=y1.heap.size:=⟨_,rfl⟩
    rw [←ebn] at hN gebn ⊢
    have up:=hHeld.trans (hbx.mono hHeld.size)
    clear ebn
    refine hK.out _ _ up (fun hHeld=>?_)
    clear hK K up
    replace hL:=hL.keep hbx
    clear hbx
    refine wpAnyH_ready (rs:=[3]) (by kernel_rfl) (by simp) ?_
    refine AllReadyH.cons rfl (fun K hK=>?_) AllReadyH.nil
    go_simp
    go_wp2_with (go_at_call 12;refine (RP.out _ g1 (SW.out _ hHeld).1 hL).mono ?_;rintro e y3 ⟨rfl,hbx⟩)
    refine hK.out _ _ (hHeld.trans (hbx.mono hHeld.size)) (fun hHeld=>?_)
    clear hK K
    clear hL
    replace hN:=hN.keep (by simp) hbx
    clear hbx
    refine an (i:=4) (oi:=_) (v:=.tuple #[.agg NA.toArray,.int .i64 0]) 55 rfl (by kernel_rfl) (by kernel_rfl) (by kernel_rfl) (by kernel_rfl) (fun _ _ _ h=>h) (Or.inl ⟨by kernel_rfl,?_⟩) (by assumption) ?_
    ·intro wq hSw
     have _:=hSw
     go_simp
    simp only [Act.put,List.setIfInBounds_toArray,List.set_cons_succ,List.set_cons_zero]
    refine an (i:=5) (oi:=_) (v:=.agg NA.toArray) 60 rfl (by kernel_rfl) (by kernel_rfl) (by kernel_rfl) (by kernel_rfl) (fun _ _ _ h=>h) (Or.inl ⟨by kernel_rfl,?_⟩) (by assumption) ?_
    ·intro wq hSw
     have _:=hSw
     go_simp
    simp only [Act.put,List.setIfInBounds_toArray,List.set_cons_succ,List.set_cons_zero]
    refine an (i:=6) (oi:=_) (v:=.int .i64 0) 61 rfl (by kernel_rfl) (by kernel_rfl) (by kernel_rfl) (by kernel_rfl) (fun _ _ _ h=>h) (Or.inl ⟨by kernel_rfl,?_⟩) (by assumption) ?_
    ·intro wq hSw
     have _:=hSw
     go_simp
    simp only [Act.put,List.setIfInBounds_toArray,List.set_cons_succ,List.set_cons_zero]
    refine wpAnyH_ready (rs:=[8]) (by kernel_rfl) (by simp) ?_
    refine AllReadyH.cons rfl (fun K hK=>?_) AllReadyH.nil
    have tr:=hN.there (k:=NA.toArray.size) (by rw [sN];rfl)
    refine (if_pos (by kernel_rfl)).mpr ?_
    refine wp_store_mid 38 _ _ rfl bn 0 NA.toArray rfl rfl tr (by rw [sN];kernel_rfl) oN ?_
    refine cH (fun V=>Below W.heap.size W V∧V.rangeAt bn 0 NA) (cG hHeld gebn.out (by simpa using tr)) ?_
    rintro y8 ⟨hbx,hP⟩
    refine hK.out _ _ hbx (fun hHeld=>?_)
    clear hK K hN hbx tr
    refine an (i:=9) (oi:=_) (v:=.int .i64 0) 12 rfl (by kernel_rfl) (by kernel_rfl) (by kernel_rfl) (by kernel_rfl) (fun _ _ _ h=>h) (Or.inl ⟨by kernel_rfl,?_⟩) (by assumption) ?_
    ·intro wq hSw
     have _:=hSw
     go_simp
    simp only [Act.put,List.setIfInBounds_toArray]
    refine wpAnyH_done (by kernel_rfl) ?_ _
    go_wp2_with fail
    refine H7.out _ _ ?_
    exact (lQ NU EN HA.out (SW.out _ hHeld).1 (SW.out _ hHeld).2.2 hP).out rfl
  ·go_simp
   go_wp2_with fail
   refine cH (fun V=>Below W.heap.size W V∧Bts V W.heap.size (List.replicate 20 0)) ⟨((Below.refl _ _).alloc (Nat.le_refl _) _).drew,(Bts.new (List.replicate 20 0) _ rfl).drew⟩ ?_
   rintro y7 ⟨hbx,hN⟩
   have gebn:Hid (W.heap.size≤W.heap.size):=Nat.le_refl _
   refine hK.out _ _ hbx (fun hHeld=>?_)
   clear hK K
   clear hbx
   refine wpAnyH_ready (rs:=[1]) (by kernel_rfl) (by simp) ?_
   refine AllReadyH.cons rfl (fun K hK=>?_) AllReadyH.nil
   go_simp
   go_wp2_with (go_at_call 10;refine (LE.out _ (SW.out _ hHeld).1).mono ?_;rintro e y1 ⟨g1,rfl,hL,hbx⟩)
   refine hK.out _ _ (hHeld.trans (hbx.mono hHeld.size)) (fun hHeld=>?_)
   clear hK K
   replace hN:=hN.keep (by simp) hbx
   clear hbx
   refine wpAnyH_ready (rs:=[3]) (by kernel_rfl) (by simp) ?_
   refine AllReadyH.cons rfl (fun K hK=>?_) AllReadyH.nil
   go_simp
   go_wp2_with (go_at_call 12;refine (RP.out _ g1 (SW.out _ hHeld).1 hL).mono ?_;rintro e y3 ⟨rfl,hbx⟩)
   refine hK.out _ _ (hHeld.trans (hbx.mono hHeld.size)) (fun hHeld=>?_)
   clear hK K
   clear hL
   replace hN:=hN.keep (by simp) hbx
   clear hbx
   refine an (i:=4) (oi:=_) (v:=.tuple #[.agg NA.toArray,.int .i64 0]) 55 rfl (by kernel_rfl) (by kernel_rfl) (by kernel_rfl) (by kernel_rfl) (fun _ _ _ h=>h) (Or.inl ⟨by kernel_rfl,?_⟩) (by assumption) ?_
   ·intro wq hSw
    have _:=hSw
    go_simp
   simp only [Act.put,List.setIfInBounds_toArray,List.set_cons_succ,List.set_cons_zero]
   refine an (i:=5) (oi:=_) (v:=.agg NA.toArray) 60 rfl (by kernel_rfl) (by kernel_rfl) (by kernel_rfl) (by kernel_rfl) (fun _ _ _ h=>h) (Or.inl ⟨by kernel_rfl,?_⟩) (by assumption) ?_
   ·intro wq hSw
    have _:=hSw
    go_simp
   simp only [Act.put,List.setIfInBounds_toArray,List.set_cons_succ,List.set_cons_zero]
   refine an (i:=6) (oi:=_) (v:=.int .i64 0) 61 rfl (by kernel_rfl) (by kernel_rfl) (by kernel_rfl) (by kernel_rfl) (fun _ _ _ h=>h) (Or.inl ⟨by kernel_rfl,?_⟩) (by assumption) ?_
   ·intro wq hSw
    have _:=hSw
    go_simp
   simp only [Act.put,List.setIfInBounds_toArray,List.set_cons_succ,List.set_cons_zero]
   refine wpAnyH_ready (rs:=[8]) (by kernel_rfl) (by simp) ?_
   refine AllReadyH.cons rfl (fun K hK=>?_) AllReadyH.nil
   have tr:=hN.there (k:=NA.toArray.size) (by rw [sN];rfl)
   refine (if_pos (by kernel_rfl)).mpr ?_
   refine wp_store_mid 38 _ _ rfl W.heap.size 0 NA.toArray rfl rfl tr (by rw [sN];kernel_rfl) oN ?_
   refine cH (fun V=>Below W.heap.size W V∧V.rangeAt W.heap.size 0 NA) (cG hHeld gebn.out (by simpa using tr)) ?_
   rintro y8 ⟨hbx,hP⟩
   refine hK.out _ _ hbx (fun hHeld=>?_)
   clear hK K hN hbx tr
   refine an (i:=9) (oi:=_) (v:=.int .i64 0) 12 rfl (by kernel_rfl) (by kernel_rfl) (by kernel_rfl) (by kernel_rfl) (fun _ _ _ h=>h) (Or.inl ⟨by kernel_rfl,?_⟩) (by assumption) ?_
   ·intro wq hSw
    have _:=hSw
    go_simp
   simp only [Act.put,List.setIfInBounds_toArray]
   refine wpAnyH_done (by kernel_rfl) ?_ _
   go_wp2_with fail
   refine H7.out _ _ ?_
   exact (lQ NU EN HA.out (SW.out _ hHeld).1 (SW.out _ hHeld).2.2 hP).out rfl
open Go.RowKit Go.Sort
theorem js {key r s e0 fe:Int} {o:Bool} {a:Option Addr} {n c:Nat} {X:List Int} {N1 NA:List Value} (h1:N1.length=20) (o1:N1.toArray.all (·.oneCell')=true) (v0:N1[0]?=some (.int .u8 126)) (v19:N1[19]?=some (.int .u8 223)) (hA:NA.length=20) (oN:NA.toArray.all (·.oneCell')=true) (w:World)
  (O1:Hid (∀ W,Below w.heap.size w W→Calls Tryz.prog 8 #[.agg #[.int .u64 1,.int .u64 0,.int .u64 0,.int .u64 0]] W fun e w'=>e = .returned (.tuple #[.agg N1.toArray,.int .i64 0])∧Below W.heap.size W w'))
  (OK:Hid (∀ W,Below w.heap.size w W→Calls Tryz.prog 8 #[.agg #[.int .u64 (l0 key),.int .u64 (l1 key),.int .u64 (l2 key),.int .u64 (l3 key)]] W fun e w'=>e = .returned (.tuple #[.agg NA.toArray,.int .i64 fe])∧Below W.heap.size W w'))
  (LE:Hid (∀ W,Below w.heap.size w W→Calls Tryz.prog 10 #[.slice a n c] W fun e w'=>∃ g,e = .returned (.slice (some ⟨g,0,none⟩) n (n+70))∧Rw8 w' g (e9 X)∧Below W.heap.size W w'))
  (SP:Hid (∀ W g,Below w.heap.size w W→Rw8 W g (e9 X)→Calls Tryz.prog 9 #[.slice (some ⟨g,0,none⟩) n (n+70),.agg #[.int .u64 (l0 key),.int .u64 (l1 key),.int .u64 (l2 key),.int .u64 (l3 key)]] W fun e w'=>e = .returned (.tuple #[.agg #[.int .u64 (l0 r),.int .u64 (l1 r),.int .u64 (l2 r),.int .u64 (l3 r),.int .u64 (l0 s),.int .u64 (l1 s),.int .u64 (l2 s),.int .u64 (l3 s),.bool o],.int .i64 e0])∧Below W.heap.size W w'))
  (NU:Hid (∀ v W,Calls Tryz.prog 11 #[.int .i64 v] W fun e w'=>e = .returned (.int .i64 v)∧Below W.heap.size W w'))
  (CS:Hid ((fe=60∧e0=60∧r=0∧s=0∧o=false)∨(fe=0∧e0=65∧r=0∧s=0∧o=false)∨(fe=0∧e0=0∧∀ W g,Below w.heap.size w W→Rw8 W g (e9 X)→Calls Tryz.prog 12 #[.slice (some ⟨g,0,none⟩) n (n+70),.agg #[.int .u64 (l0 r),.int .u64 (l1 r),.int .u64 (l2 r),.int .u64 (l3 r),.int .u64 (l0 s),.int .u64 (l1 s),.int .u64 (l2 s),.int .u64 (l3 s),.bool o]] W fun e w'=>e = .returned (.tuple #[.agg NA.toArray,.int .i64 0])∧Below W.heap.size W w')))
  (EN:∀ w,(Op.equalIn 10000 38 (.agg NA.toArray) (.agg NA.toArray)).run Tryz.prog w = .ok true w) :
  Calls Tryz.prog 4 #[.slice a n c,.agg #[.int .u64 (l0 key),.int .u64 (l1 key),.int .u64 (l2 key),.int .u64 (l3 key)]] w fun e w'=>e = .returned (.bool true)∧Below w.heap.size w w':=by
 have s1:N1.toArray.size=20:=by simp [h1]
 have sN:NA.toArray.size=20:=by simp [hA]
 have lA:(Tryz.prog.info? 38).map (·.size)=some NA.length:=by rw [hA];kernel_rfl
 have V1:Hid (N1[0]?=some (.int .u8 126)∧N1[19]?=some (.int .u8 223)∧N1.length=20∧NA.length=20):=⟨v0,v19,h1,hA⟩
 clear h1 hA v0 v19
 go_enter Tryz.func4,Tryz.ntmps4
 refine wp_seq_k fun K0 h0=>?_
 have H0:Hid _:=h0
 clear h0
 go_wp2
 refine H0.out _ _ ?_
 clear H0
 refine aj (fun W=>Below w.heap.size w W∧ae W w.heap.size key) ⟨(Below.refl _ _).alloc (Nat.le_refl _) _,ae.new _ _ _⟩ ?_
 rintro w0 ⟨B,hK⟩
 obtain ⟨bk,ebk⟩:∃ b,b=w.heap.size:=⟨_,rfl⟩
 have BKE:Hid (bk=w.heap.size):=ebk
 rw [←ebk] at hK ⊢
 clear ebk
 refine wp_seq_k fun K1 h1=>?_
 have H1:Hid _:=h1
 clear h1
 go_wp2_with fail
 refine (O1.out _ B).mono ?_
 rintro e w1 ⟨rfl,hb⟩
 replace B:=B.trans (hb.mono B.size)
 replace hK:=hK.keep hb
 clear hb O1
 go_wp2_with (refine wpList_store_mid rfl 38 _ _ rfl w1.heap.size 0 N1.toArray rfl rfl (bQ rfl (by rw [s1];rfl)) (by rw [s1];kernel_rfl) o1 ?_;refine aQ (fun V=>Below w1.heap.size w1 V∧V.rangeAt w1.heap.size 0 N1) (cG ((Below.refl _ _).alloc (Nat.le_refl _) _) (Nat.le_refl _) (bQ rfl (by rw [V1.out.2.2.1];rfl))) ?_;rintro w2 ⟨hb,hD⟩)
 replace B:=B.trans (hb.mono B.size)
 replace hK:=hK.keep hb
 have c0:w2.cell? ⟨w1.heap.size,0,none⟩=some (.int .u8 126):=by have:=hD 0 _ V1.out.1;rwa [Nat.zero_add] at this
 have c19:w2.cell? ⟨w1.heap.size,19,none⟩=some (.int .u8 223):=by have:=hD 19 _ V1.out.2.1;rwa [Nat.zero_add] at this
 clear hb hD s1 o1
 generalize w1.heap.size=b1 at *
 clear w1
 go_wp2
 refine H1.out _ _ ?_
 clear H1
 refine wp_seq_k fun K2 h2=>?_
 have H2:Hid _:=h2
 clear h2
 go_wp2
 refine H2.out _ _ ?_
 clear H2
 clear c0 c19
 refine wp_seq_k fun K3 h3=>?_
 have H3:Hid _:=h3
 clear h3
 have gK:=hK.cells
 go_wp2_with fail
 refine (OK.out _ B).mono ?_
 rintro e w3 ⟨rfl,hb⟩
 replace B:=B.trans (hb.mono B.size)
 replace hK:=hK.keep hb
 clear hb gK OK
 go_wp2_with (refine wpList_store_mid rfl 38 _ _ rfl w3.heap.size 0 NA.toArray rfl rfl (bQ rfl (by rw [sN];rfl)) (by rw [sN];kernel_rfl) oN ?_;refine aQ (fun V=>Below w3.heap.size w3 V∧V.rangeAt w3.heap.size 0 NA∧w3.heap.size<V.heap.size) ⟨(cG ((Below.refl _ _).alloc (Nat.le_refl _) _) (Nat.le_refl _) (bQ rfl (by rw [V1.out.2.2.2];rfl))).1,(cG ((Below.refl _ _).alloc (Nat.le_refl _) _) (Nat.le_refl _) (bQ rfl (by rw [V1.out.2.2.2];rfl))).2,by rw [lO];simp⟩ ?_;rintro W ⟨hb,hD,hlt⟩)
 replace B:=B.trans (hb.mono B.size)
 replace hK:=hK.keep hb
 clear hb
 generalize w3.heap.size=b7 at *
 clear w2 w3
 go_wp2
 refine H3.out _ _ ?_
 clear H3
 have SW:Hid (∀ V,Below W.heap.size W V→Below w.heap.size w V∧ae V bk key∧V.rangeAt b7 0 NA∧b7<V.heap.size):=fun V h=>⟨B.trans (h.mono B.size),hK.keep h,cZ hD h hlt,Nat.lt_of_lt_of_le hlt h.size⟩
 clear B hK hD hlt
 refine wp_seq_k fun K5 h5=>?_
 have H5:Hid _:=h5
 clear h5
 go_wp2_with fail
 refine wp_region_held_drew (S:=fun w'=>Below W.heap.size W w') (by kernel_rfl) ((Below.refl _ _).drew) (fun hHeld=>?_)
 refine an (i:=0) (oi:=_) (v:=.slice a n c) 32 rfl (by kernel_rfl) (by kernel_rfl) (by kernel_rfl) (by kernel_rfl) (fun _ _ _ h=>h) (Or.inl ⟨by kernel_rfl,?_⟩) (by assumption) ?_
 ·intro wq hSw
  have _:=hSw
  go_simp
 simp only [Act.put,List.setIfInBounds_toArray,List.set_cons_succ,List.set_cons_zero]
 refine an (i:=2) (oi:=_) (v:=.agg #[.int .u64 (l0 key),.int .u64 (l1 key),.int .u64 (l2 key),.int .u64 (l3 key)]) 34 rfl (by kernel_rfl) (by kernel_rfl) (by kernel_rfl) (by kernel_rfl) (fun _ _ _ h=>h) (Or.inl ⟨by kernel_rfl,?_⟩) (by assumption) ?_
 ·intro wq hSw
  have gk:=(SW.out _ hSw).2.1.cells
  go_simp
 simp only [Act.put,List.setIfInBounds_toArray,List.set_cons_succ,List.set_cons_zero]
 refine wpAnyH_ready (rs:=[1,7]) (by kernel_rfl) (by simp) ?_
 refine AllReadyH.cons rfl (fun K hK=>?_) (AllReadyH.cons rfl (fun K hK=>?_) AllReadyH.nil)
 ·go_simp
  go_wp2_with (go_at_call 10;refine (LE.out _ (SW.out _ hHeld).1).mono ?_;rintro e y1 ⟨g1,rfl,hL,hbx⟩)
  refine hK.out _ _ (hHeld.trans (hbx.mono hHeld.size)) (fun hHeld=>?_)
  clear hK K
  clear hbx
  refine wpAnyH_ready (rs:=[3,7]) (by kernel_rfl) (by simp) ?_
  refine AllReadyH.cons rfl (fun K hK=>?_) (AllReadyH.cons rfl (fun K hK=>?_) AllReadyH.nil)
  ·go_simp
   go_wp2_with (go_at_call 9;refine (SP.out _ g1 (SW.out _ hHeld).1 hL).mono ?_;rintro e y3 ⟨rfl,hbx⟩)
   refine hK.out _ _ (hHeld.trans (hbx.mono hHeld.size)) (fun hHeld=>?_)
   clear hK K
   clear hL
   clear hbx
   refine an (i:=4) (oi:=_) (v:=.tuple #[.agg #[.int .u64 (l0 r),.int .u64 (l1 r),.int .u64 (l2 r),.int .u64 (l3 r),.int .u64 (l0 s),.int .u64 (l1 s),.int .u64 (l2 s),.int .u64 (l3 s),.bool o],.int .i64 e0]) 31 rfl (by kernel_rfl) (by kernel_rfl) (by kernel_rfl) (by kernel_rfl) (fun _ _ _ h=>h) (Or.inl ⟨by kernel_rfl,?_⟩) (by assumption) ?_
   ·intro wq hSw
    have _:=hSw
    go_simp
   simp only [Act.put,List.setIfInBounds_toArray,List.set_cons_succ,List.set_cons_zero]
   refine an (i:=5) (oi:=_) (v:=.agg #[.int .u64 (l0 r),.int .u64 (l1 r),.int .u64 (l2 r),.int .u64 (l3 r),.int .u64 (l0 s),.int .u64 (l1 s),.int .u64 (l2 s),.int .u64 (l3 s),.bool o]) 36 rfl (by kernel_rfl) (by kernel_rfl) (by kernel_rfl) (by kernel_rfl) (fun _ _ _ h=>h) (Or.inl ⟨by kernel_rfl,?_⟩) (by assumption) ?_
   ·intro wq hSw
    have _:=hSw
    go_simp
   simp only [Act.put,List.setIfInBounds_toArray,List.set_cons_succ,List.set_cons_zero]
   refine an (i:=6) (oi:=_) (v:=.int .i64 e0) 37 rfl (by kernel_rfl) (by kernel_rfl) (by kernel_rfl) (by kernel_rfl) (fun _ _ _ h=>h) (Or.inl ⟨by kernel_rfl,?_⟩) (by assumption) ?_
   ·intro wq hSw
    have _:=hSw
    go_simp
   simp only [Act.put,List.setIfInBounds_toArray,List.set_cons_succ,List.set_cons_zero]
   refine wpAnyH_ready (rs:=[7]) (by kernel_rfl) (by simp) ?_
   refine AllReadyH.cons rfl (fun K hK=>?_) AllReadyH.nil
   go_simp
   go_wp2_with fail
   refine cH (fun V=>Below y3.heap.size y3 V∧Bk9 V y3.heap.size) ⟨(Below.refl _ _).alloc (Nat.le_refl _) _,Bk9.new rfl⟩ ?_
   rintro y7 ⟨hbx,hN⟩
   have gebn:Hid (W.heap.size≤y3.heap.size):=hHeld.size
   obtain ⟨bn,ebn⟩:∃ b,b=y3.heap.size:=⟨_,rfl⟩
   rw [←ebn] at hN gebn ⊢
   have up:=hHeld.trans (hbx.mono hHeld.size)
   clear ebn
   refine hK.out _ _ up (fun hHeld=>?_)
   clear hK K up
   clear hbx
   refine wpAnyH_ready (rs:=[8]) (by kernel_rfl) (by simp) ?_
   refine AllReadyH.cons rfl (fun K hK=>?_) AllReadyH.nil
   have gN:=hN.cells;have qN:=hN.free
   go_simp
   go_wp2_with fail
   refine cH (fun V=>Below W.heap.size W V∧Pnt V bn r s o) ⟨bi hHeld gebn.out,hN.put9 r s o⟩ ?_
   rintro y8 ⟨hbx,hP⟩
   refine hK.out _ _ hbx (fun hHeld=>?_)
   clear hK K gN qN hN hbx
   refine an (i:=9) (oi:=_) (v:=.int .i64 e0) 10 rfl (by kernel_rfl) (by kernel_rfl) (by kernel_rfl) (by kernel_rfl) (fun _ _ _ h=>h) (Or.inl ⟨by kernel_rfl,?_⟩) (by assumption) ?_
   ·intro wq hSw
    have _:=hSw
    go_simp
   simp only [Act.put,List.setIfInBounds_toArray,List.set_cons_succ,List.set_cons_zero]
   refine wpAnyH_done (by kernel_rfl) ?_ _
   go_wp2_with fail
   refine H5.out _ _ ?_
   rw [BKE.out]
   exact (lS LE NU CS EN oN V1.out.2.2.2 (SW.out _ hHeld).1 hP (SW.out _ hHeld).2.2.1 (SW.out _ hHeld).2.2.2).out rfl
  ·go_simp
   go_wp2_with fail
   refine cH (fun V=>Below y1.heap.size y1 V∧Bk9 V y1.heap.size) ⟨(Below.refl _ _).alloc (Nat.le_refl _) _,Bk9.new rfl⟩ ?_
   rintro y7 ⟨hbx,hN⟩
   have gebn:Hid (W.heap.size≤y1.heap.size):=hHeld.size
   obtain ⟨bn,ebn⟩:∃ b,b=y1.heap.size:=⟨_,rfl⟩
   rw [←ebn] at hN gebn ⊢
   have up:=hHeld.trans (hbx.mono hHeld.size)
   clear ebn
   refine hK.out _ _ up (fun hHeld=>?_)
   clear hK K up
   replace hL:=hL.keep hbx
   clear hbx
   refine wpAnyH_ready (rs:=[3]) (by kernel_rfl) (by simp) ?_
   refine AllReadyH.cons rfl (fun K hK=>?_) AllReadyH.nil
   go_simp
   go_wp2_with (go_at_call 9;refine (SP.out _ g1 (SW.out _ hHeld).1 hL).mono ?_;rintro e y3 ⟨rfl,hbx⟩)
   refine hK.out _ _ (hHeld.trans (hbx.mono hHeld.size)) (fun hHeld=>?_)
   clear hK K
   clear hL
   replace hN:=hN.keep hbx
   clear hbx
   refine an (i:=4) (oi:=_) (v:=.tuple #[.agg #[.int .u64 (l0 r),.int .u64 (l1 r),.int .u64 (l2 r),.int .u64 (l3 r),.int .u64 (l0 s),.int .u64 (l1 s),.int .u64 (l2 s),.int .u64 (l3 s),.bool o],.int .i64 e0]) 31 rfl (by kernel_rfl) (by kernel_rfl) (by kernel_rfl) (by kernel_rfl) (fun _ _ _ h=>h) (Or.inl ⟨by kernel_rfl,?_⟩) (by assumption) ?_
   ·intro wq hSw
    have _:=hSw
    go_simp
   simp only [Act.put,List.setIfInBounds_toArray,List.set_cons_succ,List.set_cons_zero]
   refine an (i:=5) (oi:=_) (v:=.agg #[.int .u64 (l0 r),.int .u64 (l1 r),.int .u64 (l2 r),.int .u64 (l3 r),.int .u64 (l0 s),.int .u64 (l1 s),.int .u64 (l2 s),.int .u64 (l3 s),.bool o]) 36 rfl (by kernel_rfl) (by kernel_rfl) (by kernel_rfl) (by kernel_rfl) (fun _ _ _ h=>h) (Or.inl ⟨by kernel_rfl,?_⟩) (by assumption) ?_
   ·intro wq hSw
    have _:=hSw
    go_simp
   simp only [Act.put,List.setIfInBounds_toArray,List.set_cons_succ,List.set_cons_zero]
   refine an (i:=6) (oi:=_) (v:=.int .i64 e0) 37 rfl (by kernel_rfl) (by kernel_rfl) (by kernel_rfl) (by kernel_rfl) (fun _ _ _ h=>h) (Or.inl ⟨by kernel_rfl,?_⟩) (by assumption) ?_
   ·intro wq hSw
    have _:=hSw
    go_simp
   simp only [Act.put,List.setIfInBounds_toArray,List.set_cons_succ,List.set_cons_zero]
   refine wpAnyH_ready (rs:=[8]) (by kernel_rfl) (by simp) ?_
   refine AllReadyH.cons rfl (fun K hK=>?_) AllReadyH.nil
   have gN:=hN.cells;have qN:=hN.free
   go_simp
   go_wp2_with fail
   refine cH (fun V=>Below W.heap.size W V∧Pnt V bn r s o) ⟨bi hHeld gebn.out,hN.put9 r s o⟩ ?_
   rintro y8 ⟨hbx,hP⟩
   refine hK.out _ _ hbx (fun hHeld=>?_)
   clear hK K gN qN hN hbx
   refine an (i:=9) (oi:=_) (v:=.int .i64 e0) 10 rfl (by kernel_rfl) (by kernel_rfl) (by kernel_rfl) (by kernel_rfl) (fun _ _ _ h=>h) (Or.inl ⟨by kernel_rfl,?_⟩) (by assumption) ?_
   ·intro wq hSw
    have _:=hSw
    go_simp
   simp only [Act.put,List.setIfInBounds_toArray,List.set_cons_succ,List.set_cons_zero]
   refine wpAnyH_done (by kernel_rfl) ?_ _
   go_wp2_with fail
   refine H5.out _ _ ?_
   rw [BKE.out]
   exact (lS LE NU CS EN oN V1.out.2.2.2 (SW.out _ hHeld).1 hP (SW.out _ hHeld).2.2.1 (SW.out _ hHeld).2.2.2).out rfl
 ·go_simp
  go_wp2_with fail
  refine cH (fun V=>Below W.heap.size W V∧Bk9 V W.heap.size) ⟨((Below.refl _ _).alloc (Nat.le_refl _) _).drew,(Bk9.new rfl).drew⟩ ?_
  rintro y7 ⟨hbx,hN⟩
  have gebn:Hid (W.heap.size≤W.heap.size):=Nat.le_refl _
  refine hK.out _ _ hbx (fun hHeld=>?_)
  clear hK K
  clear hbx
  refine wpAnyH_ready (rs:=[1]) (by kernel_rfl) (by simp) ?_
  refine AllReadyH.cons rfl (fun K hK=>?_) AllReadyH.nil
  go_simp
  go_wp2_with (go_at_call 10;refine (LE.out _ (SW.out _ hHeld).1).mono ?_;rintro e y1 ⟨g1,rfl,hL,hbx⟩)
  refine hK.out _ _ (hHeld.trans (hbx.mono hHeld.size)) (fun hHeld=>?_)
  clear hK K
  replace hN:=hN.keep hbx
  clear hbx
  refine wpAnyH_ready (rs:=[3]) (by kernel_rfl) (by simp) ?_
  refine AllReadyH.cons rfl (fun K hK=>?_) AllReadyH.nil
  go_simp
  go_wp2_with (go_at_call 9;refine (SP.out _ g1 (SW.out _ hHeld).1 hL).mono ?_;rintro e y3 ⟨rfl,hbx⟩)
  refine hK.out _ _ (hHeld.trans (hbx.mono hHeld.size)) (fun hHeld=>?_)
  clear hK K
  clear hL
  replace hN:=hN.keep hbx
  clear hbx
  refine an (i:=4) (oi:=_) (v:=.tuple #[.agg #[.int .u64 (l0 r),.int .u64 (l1 r),.int .u64 (l2 r),.int .u64 (l3 r),.int .u64 (l0 s),.int .u64 (l1 s),.int .u64 (l2 s),.int .u64 (l3 s),.bool o],.int .i64 e0]) 31 rfl (by kernel_rfl) (by kernel_rfl) (by kernel_rfl) (by kernel_rfl) (fun _ _ _ h=>h) (Or.inl ⟨by kernel_rfl,?_⟩) (by assumption) ?_
  ·intro wq hSw
   have _:=hSw
   go_simp
  simp only [Act.put,List.setIfInBounds_toArray,List.set_cons_succ,List.set_cons_zero]
  refine an (i:=5) (oi:=_) (v:=.agg #[.int .u64 (l0 r),.int .u64 (l1 r),.int .u64 (l2 r),.int .u64 (l3 r),.int .u64 (l0 s),.int .u64 (l1 s),.int .u64 (l2 s),.int .u64 (l3 s),.bool o]) 36 rfl (by kernel_rfl) (by kernel_rfl) (by kernel_rfl) (by kernel_rfl) (fun _ _ _ h=>h) (Or.inl ⟨by kernel_rfl,?_⟩) (by assumption) ?_
  ·intro wq hSw
   have _:=hSw
   go_simp
  simp only [Act.put,List.setIfInBounds_toArray,List.set_cons_succ,List.set_cons_zero]
  refine an (i:=6) (oi:=_) (v:=.int .i64 e0) 37 rfl (by kernel_rfl) (by kernel_rfl) (by kernel_rfl) (by kernel_rfl) (fun _ _ _ h=>h) (Or.inl ⟨by kernel_rfl,?_⟩) (by assumption) ?_
  ·intro wq hSw
   have _:=hSw
   go_simp
  simp only [Act.put,List.setIfInBounds_toArray,List.set_cons_succ,List.set_cons_zero]
  refine wpAnyH_ready (rs:=[8]) (by kernel_rfl) (by simp) ?_
  refine AllReadyH.cons rfl (fun K hK=>?_) AllReadyH.nil
  have gN:=hN.cells;have qN:=hN.free
  go_simp
  go_wp2_with fail
  refine cH (fun V=>Below W.heap.size W V∧Pnt V W.heap.size r s o) ⟨bi hHeld gebn.out,hN.put9 r s o⟩ ?_
  rintro y8 ⟨hbx,hP⟩
  refine hK.out _ _ hbx (fun hHeld=>?_)
  clear hK K gN qN hN hbx
  refine an (i:=9) (oi:=_) (v:=.int .i64 e0) 10 rfl (by kernel_rfl) (by kernel_rfl) (by kernel_rfl) (by kernel_rfl) (fun _ _ _ h=>h) (Or.inl ⟨by kernel_rfl,?_⟩) (by assumption) ?_
  ·intro wq hSw
   have _:=hSw
   go_simp
  simp only [Act.put,List.setIfInBounds_toArray,List.set_cons_succ,List.set_cons_zero]
  refine wpAnyH_done (by kernel_rfl) ?_ _
  go_wp2_with fail
  refine H5.out _ _ ?_
  rw [BKE.out]
  exact (lS LE NU CS EN oN V1.out.2.2.2 (SW.out _ hHeld).1 hP (SW.out _ hHeld).2.2.1 (SW.out _ hHeld).2.2.2).out rfl
open Go.RowKit Go.Sort
theorem vZ {R:Nat→SwR} {x:SwR}:∀ {n:Nat},fsZ R n=some x→∃ i,x=R i∧(R i).e=0
 | 0,h=>by simp [fsZ] at h
 | n+1,h=>by
  rw [fsZ] at h
  cases e:fsZ R n with
  | some y=>rw [e] at h;exact vZ (n:=n) (by rw [e];exact h)
  | none =>
   rw [e] at h
   by_cases c:(R n).e=0
   ·rw [if_pos c] at h
    exact ⟨n,(Option.some.inj h).symm,c⟩
   ·rw [if_neg c] at h;cases h
def qy:List (BitVec 8):=K.hashL (K.finL 0 (K.absb (List.replicate 25 0) 0 (bvC (cO gX++cO gY))) 64)
theorem rm:qy.getD 12 0=126∧qy.getD 31 0=223:=by decide +kernel
theorem gU:((fA gX gY).map (Value.int .u8))[0]?=some (.int .u8 126)∧((fA gX gY).map (Value.int .u8))[19]?=some (.int .u8 223):=by
 have hl:(cO gX++cO gY).length=64:=by rw [List.length_append,cn,cn]
 have e:fA gX gY=(qy.map K.Y).drop 12:=by rw [fA,ni,hl,qy]
 have l:qy.length=32:=by rw [qy,K.hashL_len]
 have g:∀ i,i<20→((fA gX gY).map (Value.int .u8))[i]?=some (.int .u8 (K.Y (qy.getD (12+i) 0))):=fun i hi=>by
  rw [e,List.getElem?_map,List.getElem?_drop,List.getElem?_map,List.getElem?_eq_getElem (by omega),List.getD,List.getElem?_eq_getElem (by omega)]
  rfl
 refine ⟨?_,?_⟩
 ·rw [g 0 (by decide),Nat.add_zero,rm.1,K.Y_eq];rfl
 ·rw [g 19 (by decide),show 12+19=31 from rfl,rm.2,K.Y_eq];rfl
theorem lU (v:Int) (W:World):Calls Tryz.prog 11 #[.int .i64 v] W fun e w'=>e = .returned (.int .i64 v)∧Below W.heap.size W w':=by
 go_enter Tryz.func11,Tryz.ntmps11
 go_wp2
 simp [bodyPost,results,Tryz.results11,go_sem]
 exact Below.refl _ _
theorem wa {key:Int} {X:List Int} {a:Option Addr} {b o c:Nat} (hk:Num key) (hl:X.length≤140737488351232) (w:World) (hp:PtC.ok w ⟨a,b,o,c,X⟩) (hm:Mds w) (hc:ar w) (ht:ShT w) (hK:KtC w) (hT:TbM w) :
  Calls Tryz.prog 4 #[.slice a X.length c,.agg #[.int .u64 (l0 key),.int .u64 (l1 key),.int .u64 (l2 key),.int .u64 (l3 key)]] w fun e w'=>e = .returned (.bool true)∧Below w.heap.size w w':=by
 have hX:Bys X:=hp.2.2.1
 have pA:fJ (d6 X):=fun i=>(uE _).at i
 have lA:(d6 X).length=32:=kX _
 have TB:∀ V,Below w.heap.size w V→Mds V∧ar V∧KtC V:=fun V h=>⟨hm.keep h,hc.keep h,hK.keep h⟩
 have PS:∀ W g,Below w.heap.size w W→Rw8 W g (e9 X)→Calls Tryz.prog 24 #[.slice (some ⟨g,0,none⟩) X.length (X.length+70)] W fun e w'=>e = .returned (.agg ((d6 X).map (Value.int .u8)).toArray)∧Below W.heap.size W w':=fun W g B h=>nD rfl hl rfl W ⟨.inr rfl,by simp,hX,vU h⟩ (hK.keep B) (hT.keep B)
 have SP:∀ W g,Below w.heap.size w W→Rw8 W g (e9 X)→Calls Tryz.prog 9 #[.slice (some ⟨g,0,none⟩) X.length (X.length+70),.agg #[.int .u64 (l0 key),.int .u64 (l1 key),.int .u64 (l2 key),.int .u64 (l3 key)]] W fun e w'=>e = .returned (.tuple #[.agg #[.int .u64 (l0 (cY key (d6 X)).r),.int .u64 (l1 (cY key (d6 X)).r),.int .u64 (l2 (cY key (d6 X)).r),.int .u64 (l3 (cY key (d6 X)).r),.int .u64 (l0 (cY key (d6 X)).s),.int .u64 (l1 (cY key (d6 X)).s),.int .u64 (l2 (cY key (d6 X)).s),.int .u64 (l3 (cY key (d6 X)).s),.bool (cY key (d6 X)).o],.int .i64 (cY key (d6 X)).e])∧Below W.heap.size W w':=fun W g B h =>
  sZ W (fun V hV=>PS V g (B.trans (hV.mono B.size)) (h.keep hV)) (fun V h1 h2 h3=>vO hk pA lA V h1 h2 h3) (hm.keep B) (ht.keep B) (hc.keep B)
 have LE:∀ W,Below w.heap.size w W→Calls Tryz.prog 10 #[.slice a X.length c] W fun e w'=>∃ g,e = .returned (.slice (some ⟨g,0,none⟩) X.length (X.length+70))∧Rw8 w' g (e9 X)∧Below W.heap.size W w':=fun W B=>(sY (X:=X) (by omega) hp.1 W (hp.2.2.2.keep B)).mono fun e w' ⟨h1,h2,h3⟩=>⟨_,h1,h2,h3⟩
 have O1:∀ W,Below w.heap.size w W→Calls Tryz.prog 8 #[.agg #[.int .u64 1,.int .u64 0,.int .u64 0,.int .u64 0]] W fun e w'=>e = .returned (.tuple #[.agg ((fA gX gY).map (Value.int .u8)).toArray,.int .i64 0])∧Below W.heap.size W w':=fun W B=>by
  have h:=mM (k:=1) (x:=gX) (y:=gY) ⟨by decide,by decide⟩ (by decide) xe (by rw [←z7];exact (EC.smul_one _).symm) W (TB W B).1 (TB W B).2.1 (TB W B).2.2
  rw [show l0 1=1 by decide,show l1 1=0 by decide,show l2 1=0 by decide,show l3 1=0 by decide] at h
  exact h
 cases hf:bW key with
 | false =>
  have es:cY key (d6 X)=⟨0,0,false,60⟩:=by unfold cY;rw [hf];rfl
  rw [es] at SP
  exact js (key:=key) (fe:=60) (N1:=(fA gX gY).map (Value.int .u8)) (NA:=Z20.map (Value.int .u8)) (by rw [List.length_map,cU]) (bD _) gU.1 gU.2 rfl (bD _) w O1 (fun W B=>qt hk hf W (TB W B).1) LE SP lU (.inl ⟨rfl,rfl,rfl,rfl,rfl⟩) fun w=>by rw [qH rfl rfl w];simp
 | true =>
  obtain ⟨x,y,hv,ep⟩:=sV hk hf
  have OK:∀ W,Below w.heap.size w W→Calls Tryz.prog 8 #[.agg #[.int .u64 (l0 key),.int .u64 (l1 key),.int .u64 (l2 key),.int .u64 (l3 key)]] W fun e w'=>e = .returned (.tuple #[.agg ((fA x y).map (Value.int .u8)).toArray,.int .i64 0])∧Below W.heap.size W w':=fun W B=>mM hk hf hv ep W (TB W B).1 (TB W B).2.1 (TB W B).2.2
  have EN:∀ w,(Op.equalIn 10000 38 (.agg ((fA x y).map (Value.int .u8)).toArray) (.agg ((fA x y).map (Value.int .u8)).toArray)).run Tryz.prog w = .ok true w:=fun w=>by rw [qH (cU x y) (cU x y) w];simp
  have es:cY key (d6 X)=jq (sgZ key (d6 X)):=by unfold cY;rw [if_pos hf]
  cases hq:fsZ (sgZ key (d6 X)) 64 with
  | none =>
   rw [es,mL hq] at SP
   exact js (key:=key) (fe:=0) (N1:=(fA gX gY).map (Value.int .u8)) (NA:=(fA x y).map (Value.int .u8)) (by rw [List.length_map,cU]) (bD _) gU.1 gU.2 (by rw [List.length_map,cU]) (bD _) w O1 OK LE SP lU (.inr (.inl ⟨rfl,rfl,rfl,rfl,rfl⟩)) EN
  | some z =>
   rw [es,mK hq (Nat.le_refl _)] at SP
   obtain ⟨i,ei,he⟩:=vZ hq
   have ne:nz key (d6 X) i=0:=by
    by_cases c:nz key (d6 X) i=0
    ·exact c
    ·rw [rl c] at he;exact absurd he c
   rw [vN ne] at ei he
   have RB:=vP hk (pb key (d6 X) i) lA pA hf he hv ep
   rw [←ei] at RB
   have ze:z.e=0:=by rw [ei];exact he
   exact js (key:=key) (fe:=0) (N1:=(fA gX gY).map (Value.int .u8)) (NA:=(fA x y).map (Value.int .u8)) (by rw [List.length_map,cU]) (bD _) gU.1 gU.2 (by rw [List.length_map,cU]) (bD _) w O1 OK LE SP lU
    (.inr (.inr ⟨rfl,ze,fun W g B h=>vY (by rw [List.length_map,cU]) (bD _) W (fun V hV=>PS V g (B.trans (hV.mono B.size)) (h.keep hV)) RB (fun V h1 h2=>zF hv V h1 h2) (hm.keep B) (hc.keep B) (hK.keep B)⟩)) EN
end Go.Proofs.YtnnnaajgjniiaaaGreatDoor
