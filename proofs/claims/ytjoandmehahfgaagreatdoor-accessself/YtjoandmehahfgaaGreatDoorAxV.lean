import Derived.Test.YtjoandmehahfgaaGreatDoorAb
import Derived.Test.YtjoandmehahfgaaGreatDoorAxT
import Derived.Test.YtjoandmehahfgaaGreatDoorMsA
import Derived.Test.YtjoandmehahfgaaGreatDoorAdLast
set_option maxRecDepth 100000
set_option maxHeartbeats 16000000
namespace Go.Proofs.YtjoandmehahfgaaGreatDoor
open Go.RowKit Go.Sort
theorem aP {P:Program} {ops:Array Oper} {rest:List Oper} {op:Oper} {a:Act} {w:World} {Q:Exit→Act→World→Prop} (hw:Region.wanted op (yielded ops a.tmps)=true) (ty:TypeId) (x:Operand) (ho:op.op = .load ty x)
  (b o:Nat) (hx:a.eval x = .pointer (some ⟨b,o,none⟩)) (cs:List Value) (d:TypeDesc) (hc:w.rangeAt b o cs)
  (hu:P.underlying ty=some d) (hd:d.isRow=true) (hi:(P.info? ty).map (·.size)=some cs.length)
  (h:wpList P ops Q rest (a.put op.dst (.agg cs.toArray)) w):wpList P ops Q (op :: rest) a w:=by
 unfold wpList
 rw [if_pos hw]
 exact .inl (wp_load_mid ty x ho b o hx cs d hc hu hd hi h)
theorem fk {P:Program} {ops:Array Oper} {rest:List Oper} {o:Oper} {a:Act} {w:World} {Q:Exit→Act→World→Prop} (hw:Region.wanted o (yielded ops a.tmps)=true) (bo:BinOp) (ty:TypeId) (x y:Operand) (tt:TypeId) (ho:o.op = .binOp bo ty x y tt) (va vb:Value) (hx:a.eval x=va) (hy:a.eval y=vb) (r:Bool)
  (hr:(do eqGuard bo ty x y va vb;binOp bo ty va vb:Sem Value).run P w = .ok (.bool r) w)
  (h:wpList P ops Q rest (a.put o.dst (.bool r)) w):wpList P ops Q (o :: rest) a w:=by
 unfold wpList
 rw [if_pos hw]
 refine .inl ?_
 unfold Oper.wp execOp
 simp only [ho,hx,hy]
 rw [Sem.run_bind,hr]
 exact h
theorem zy {P:Program} {ty:TypeId} {x y:Operand} {va vb:Array Value} {r:Bool} {w:World} (hg:P.eqGuardType P.depth ty=false) (hr:(Op.equalIn 10000 ty (.agg va) (.agg vb)).run P w = .ok r w):(do eqGuard .eql ty x y (.agg va) (.agg vb);binOp .eql ty (.agg va) (.agg vb):Sem Value).run P w = .ok (.bool r) w:=by
 simp only [Sem.run_bind,run_eqGuard_agg _ _ _ _ _ _ _ hg,Result.andThen_ok,run_eql_struct,hr]
theorem js {P:Program} {ops:Array Oper} {rest:List Oper} {o:Oper} {a:Act} {w:World} {Q:Exit→Act→World→Prop} (hw:Region.wanted o (yielded ops a.tmps)=true) (ty:TypeId) (ho:o.op = .build ty #[]) (cs:Array Value)
  (hb:P.built ty []=some cs) (h:wpList P ops Q rest (a.put o.dst (.agg cs)) w):wpList P ops Q (o :: rest) a w:=by
 unfold wpList
 rw [if_pos hw]
 refine .inl ?_
 have hr:=run_build (P:=P) w ty #[] cs (by simpa using hb)
 have hr2:(execOp a.eval o).run P w = .ok (.value (.agg cs)) w:=by
  unfold execOp
  simp only [ho,Sem.run_bind,List.map_toArray,List.map_nil,hr,Result.andThen_ok]
  rfl
 unfold Oper.wp
 rw [hr2]
 exact h
theorem qm (w:World):(Op.equalIn 10000 28 (.agg auZ.toArray) (.agg auZ.toArray)).run Tryz.prog w = .ok true w:=by kernel_rfl
theorem zz:(Tryz.prog.info? 24).map (·.size)=some 4:=by kernel_rfl
theorem ow:(Tryz.prog.info? 26).map (·.size)=some 20:=by kernel_rfl
theorem jJ {w W:World} {M Z:List Value} {ba bk bo bb:Nat} {key e0 f0:Int} (cs:(¬e0=0∧¬f0=0)∨(e0=0∧f0=65)) (NU:Hid (∀ v W,Rt 6 #[.int .i64 v] W (.int .i64 v)))
  (eq:∀ w,(Op.equalIn 10000 28 (.agg Z.toArray) (.agg Z.toArray)).run Tryz.prog w = .ok true w) (bz:Tryz.prog.built 28 []=some Z.toArray) (hZ:Z.length=34) (B:Below w.heap.size w W) (h7:W.rangeAt bb 0 Z∧bb<W.heap.size) {t9 t10 t11 t12 t13 t14 t15 t16 t17 t18 t19 t20 t21 t22 t23 t24 t25 t26 t27 t28 t29 t30 t31 t32 t33 t34 t35 t36 t37 t38 t39 t40 t41 t42 t43 t44 t45 t46 t47 t48 t49 t50 t51 t52 t53 t54 t55 t56 t57 t58 t59 t60 t61 t62 t63 t64 t65 t66 t67 t68 t69 t70 t71 t72 t73 t74 t75 t76 t77 t78 t79 t80 t81 t82 t83:Value} :
  d6 Tryz.prog Tryz.f3 3 (bodyPost Tryz.prog Tryz.f3 fun e w'=>e = .returned (.bool true)∧Below w.heap.size w w') { tmps:=#[.agg M.toArray,U4 key,.pointer (some ⟨ba,0,none⟩),.pointer (some ⟨bk,0,none⟩),.bool false,.pointer (some ⟨bo,0,none⟩),.int .i64 e0,.pointer (some ⟨bb,0,none⟩),.int .i64 f0,t9,t10,t11,t12,t13,t14,t15,t16,t17,t18,t19,t20,t21,t22,t23,t24,t25,t26,t27,t28,t29,t30,t31,t32,t33,t34,t35,t36,t37,t38,t39,t40,t41,t42,t43,t44,t45,t46,t47,t48,t49,t50,t51,t52,t53,t54,t55,t56,t57,t58,t59,t60,t61,t62,t63,t64,t65,t66,t67,t68,t69,t70,t71,t72,t73,t74,t75,t76,t77,t78,t79,t80,t81,t82,t83],defers:=[] } W:=by
 have iz:(Tryz.prog.info? 28).map (·.size)=some Z.length:=by rw [hZ];exact bP
 have LZ:Hid (Z.length=34):=hZ
 clear hZ
 rcases cs with ⟨e,f⟩|⟨rfl,rfl⟩
 ·have e':(e0 != 0)=true:=by simp [e]
  have f':(f0 != 0)=true:=by simp [f]
  clear e f
  refine d6.intro rfl ?_
  go_wp2_with (first
   | (go_at_call 6;refine (NU.out _ _).mono ?_;rintro e W1 ⟨rfl,hb⟩;replace B:=B.trans (hb.mono B.size);replace h7:=(⟨aE h7.1 hb h7.2,Nat.lt_of_lt_of_le h7.2 hb.size⟩:W1.rangeAt bb 0 Z∧bb<W1.heap.size);clear hb)
   | (refine aP (by rfl) 28 _ rfl bb 0 rfl Z _ h7.1 Tryz.underlying28 rfl iz ?_;refine js (by rfl) 28 rfl Z.toArray bz ?_;refine fk (by rfl) .eql 28 _ _ _ rfl (.agg Z.toArray) (.agg Z.toArray) rfl rfl true (zy (by kernel_rfl) (eq _)) ?_))
  simp [bodyPost,results,Tryz.results3,go_sem]
  exact B
 ·refine d6.intro rfl ?_
  go_wp2_with (first
   | (go_at_call 6;refine (NU.out _ _).mono ?_;rintro e W1 ⟨rfl,hb⟩;replace B:=B.trans (hb.mono B.size);replace h7:=(⟨aE h7.1 hb h7.2,Nat.lt_of_lt_of_le h7.2 hb.size⟩:W1.rangeAt bb 0 Z∧bb<W1.heap.size);clear hb)
   | (refine aP (by rfl) 28 _ rfl bb 0 rfl Z _ h7.1 Tryz.underlying28 rfl iz ?_;refine js (by rfl) 28 rfl Z.toArray bz ?_;refine fk (by rfl) .eql 28 _ _ _ rfl (.agg Z.toArray) (.agg Z.toArray) rfl rfl true (zy (by kernel_rfl) (eq _)) ?_))
  simp [bodyPost,results,Tryz.results3,go_sem]
  exact B
structure AuQ (W:World) (b:Nat) (c:Int) (A:List Int) (n:Int):Prop where
 ch:W.rangeAt b 0 (dK c)
 ad:W.rangeAt b 4 (A.map (Value.int .u8))
 non:W.cell? ⟨b,24,none⟩=some (.int .u64 n)
theorem fK {P:Program} {ops:Array Oper} {rest:List Oper} {op:Oper} {a:Act} {w:World} {Q:Exit→Act→World→Prop} (hw:Region.wanted op (yielded ops a.tmps)=true) (ty:TypeId) (x:Operand) (ho:op.op = .load ty x)
  (b o:Nat) (hx:a.eval x = .pointer (some ⟨b,o,none⟩)) (v:Value) (d:TypeDesc) (hc:w.cell? ⟨b,o,none⟩=some v) (hu:P.underlying ty=some d) (hd:d.isRow=false)
  (h:wpList P ops Q rest (a.put op.dst v) w):wpList P ops Q (op :: rest) a w:=by
 unfold wpList
 rw [if_pos hw]
 refine .inl ?_
 have hagg:(isAgg ty).run P w = .ok false w:=by
  unfold isAgg
  rw [Sem.run_bind,run_underlying hu w]
  cases d<;>simp_all
 unfold Oper.wp execOp
 simp only [ho,hx,Instr.loadAt,Instr.sureAddr,Sem.run_bind,Sem.run_pure,Result.andThen_ok,loadVar,hagg,Bool.false_eq_true,if_false]
 simp [go_sem,hc]
 exact h
theorem fl (W:World) (b:Nat) (vs:List Value):∀ o,(W.setCells b o vs).heap.size=W.heap.size:=by
 induction vs generalizing W with
 | nil=>exact fun _=>rfl
 | cons v r ih=>exact fun o=>by rw [World.setCells,ih];simp
theorem AuQ.of {W:World} {b:Nat} {c:Int} {A:List Int} {n p r s:Int} (hA:A.length=20) (h:W.rangeAt b 0 (auM c A n p r s)):AuQ W b c A n:=by
 have h0:=(AuP.of hA h).h
 have h1:=d5 h0
 have h2:=d5 (fJ h0)
 exact ⟨h1,h2,(AuF.of hA h).non⟩
theorem AuQ.keep {W W':World} {b:Nat} {c:Int} {A:List Int} {n:Int} (h:AuQ W b c A n) (lt:b<W.heap.size) (B:Below W.heap.size W W'):AuQ W' b c A n:=⟨aE h.ch B lt,aE h.ad B lt,cell_keep B h.non⟩
theorem wM {w W:World} {M A:List _} {ba bk bo bb:Nat} {c key e0 f0:Int} (he:e0=0) (hf:f0=141) (NU:Hid (∀ v W,Rt 6 #[.int .i64 v] W (.int .i64 v))) (B:Below w.heap.size w W) (h7:AuQ W ba c A 18446744073709551615∧ba<W.heap.size) {t9 t10 t11 t12 t13 t14 t15 t16 t17 t18 t19 t20 t21 t22 t23 t24 t25 t26 t27 t28 t29 t30 t31 t32 t33 t34 t35 t36 t37 t38 t39 t40 t41 t42 t43 t44 t45 t46 t47 t48 t49 t50 t51 t52 t53 t54 t55 t56 t57 t58 t59 t60 t61 t62 t63 t64 t65 t66 t67 t68 t69 t70 t71 t72 t73 t74 t75 t76 t77 t78 t79 t80 t81 t82 t83:Value} :
  d6 Tryz.prog Tryz.f3 3 (bodyPost Tryz.prog Tryz.f3 fun e w'=>e = .returned (.bool true)∧Below w.heap.size w w') { tmps:=#[.agg M.toArray,U4 key,.pointer (some ⟨ba,0,none⟩),.pointer (some ⟨bk,0,none⟩),.bool false,.pointer (some ⟨bo,0,none⟩),.int .i64 e0,.pointer (some ⟨bb,0,none⟩),.int .i64 f0,t9,t10,t11,t12,t13,t14,t15,t16,t17,t18,t19,t20,t21,t22,t23,t24,t25,t26,t27,t28,t29,t30,t31,t32,t33,t34,t35,t36,t37,t38,t39,t40,t41,t42,t43,t44,t45,t46,t47,t48,t49,t50,t51,t52,t53,t54,t55,t56,t57,t58,t59,t60,t61,t62,t63,t64,t65,t66,t67,t68,t69,t70,t71,t72,t73,t74,t75,t76,t77,t78,t79,t80,t81,t82,t83],defers:=[] } W:=by
 subst he hf
 have g:=h7.1.non
 refine d6.intro rfl ?_
 go_wp2_with (go_at_call 6;refine (NU.out _ _).mono ?_;rintro e W1 ⟨rfl,hb⟩;replace B:=B.trans (hb.mono B.size);replace h7:=(⟨h7.1.keep h7.2 hb,Nat.lt_of_lt_of_le h7.2 hb.size⟩:AuQ W1 ba c A 18446744073709551615∧ba<W1.heap.size);clear g;have g:=h7.1.non;clear hb)
 simp [bodyPost,results,Tryz.results3,go_sem]
 exact B
theorem rT {w W:World} {M MB NA:List Value} {A:List Int} {ba bk bo bb:Nat} {c n key e0 f0:Int} (he:e0=0) (hf:f0=0) (NU:Hid (∀ v W,Rt 6 #[.int .i64 v] W (.int .i64 v)))
  (AU:Hid (∀ W,Below w.heap.size w W→Rt 7 #[.agg MB.toArray] W (.tuple #[.agg NA.toArray,.int .i64 0]))) (hN:NA.length=20) (oN:NA.toArray.all (·.oneCell')=true) (hMB:MB.length=34) (hA:A.length=20)
  (EN:Hid (∀ w,(Op.equalIn 10000 26 (.agg NA.toArray) (.agg NA.toArray)).run Tryz.prog w = .ok true w)) (B:Below w.heap.size w W) (h7:AuQ W ba c A n∧AuQ W bb c A n∧W.rangeAt bb 0 MB∧W.rangeAt bo 0 NA∧ba<W.heap.size∧bb<W.heap.size∧bo<W.heap.size) {t9 t10 t11 t12 t13 t14 t15 t16 t17 t18 t19 t20 t21 t22 t23 t24 t25 t26 t27 t28 t29 t30 t31 t32 t33 t34 t35 t36 t37 t38 t39 t40 t41 t42 t43 t44 t45 t46 t47 t48 t49 t50 t51 t52 t53 t54 t55 t56 t57 t58 t59 t60 t61 t62 t63 t64 t65 t66 t67 t68 t69 t70 t71 t72 t73 t74 t75 t76 t77 t78 t79 t80 t81 t82 t83:Value} :
  d6 Tryz.prog Tryz.f3 3 (bodyPost Tryz.prog Tryz.f3 fun e w'=>e = .returned (.bool true)∧Below w.heap.size w w') { tmps:=#[.agg M.toArray,U4 key,.pointer (some ⟨ba,0,none⟩),.pointer (some ⟨bk,0,none⟩),.bool false,.pointer (some ⟨bo,0,none⟩),.int .i64 e0,.pointer (some ⟨bb,0,none⟩),.int .i64 f0,t9,t10,t11,t12,t13,t14,t15,t16,t17,t18,t19,t20,t21,t22,t23,t24,t25,t26,t27,t28,t29,t30,t31,t32,t33,t34,t35,t36,t37,t38,t39,t40,t41,t42,t43,t44,t45,t46,t47,t48,t49,t50,t51,t52,t53,t54,t55,t56,t57,t58,t59,t60,t61,t62,t63,t64,t65,t66,t67,t68,t69,t70,t71,t72,t73,t74,t75,t76,t77,t78,t79,t80,t81,t82,t83],defers:=[] } W:=by
 subst he hf
 have SW:Hid (∀ V,Below W.heap.size W V→Below w.heap.size w V∧(V.rangeAt ba 0 (dK c)∧V.rangeAt ba 4 (A.map (Value.int .u8))∧V.cell? ⟨ba,24,none⟩=some (.int .u64 n))∧(V.rangeAt bb 0 (dK c)∧V.rangeAt bb 4 (A.map (Value.int .u8))∧V.cell? ⟨bb,24,none⟩=some (.int .u64 n))∧V.rangeAt bb 0 MB∧V.rangeAt bo 0 NA):=fun V h=>⟨B.trans (h.mono B.size),(fun q=>⟨q.ch,q.ad,q.non⟩) (h7.1.keep h7.2.2.2.2.1 h),(fun q=>⟨q.ch,q.ad,q.non⟩) (h7.2.1.keep h7.2.2.2.2.2.1 h),aE h7.2.2.1 h h7.2.2.2.2.2.1,aE h7.2.2.2.1 h h7.2.2.2.2.2.2⟩
 have EC:Hid (∀ w,(Op.equalIn 10000 24 (.agg (dK c).toArray) (.agg (dK c).toArray)).run Tryz.prog w = .ok true w):=fun w=>wS w
 have EA:Hid (∀ w,(Op.equalIn 10000 26 (.agg (A.map (Value.int .u8)).toArray) (.agg (A.map (Value.int .u8)).toArray)).run Tryz.prog w = .ok true w):=fun w=>by rw [tT hA hA w];simp
 have iM:Hid ((Tryz.prog.info? 28).map (·.size)=some MB.length):=(show _=_ by rw [hMB];exact bP)
 have iN:Hid ((Tryz.prog.info? 26).map (·.size)=some NA.length):=(show _=_ by rw [hN];exact ow)
 have iA:Hid ((Tryz.prog.info? 26).map (·.size)=some (A.map (Value.int .u8)).length):=(show _=_ by rw [List.length_map,hA];exact ow)
 have sN:Hid (NA.length=20):=hN
 have BB:Below W.heap.size W W:=Below.refl _ _
 clear h7 B hN hMB hA
 generalize A.map (Value.int .u8)=AL at *
 generalize hC4:dK c=C4 at *
 have iC:Hid ((Tryz.prog.info? 24).map (·.size)=some C4.length):=(show _=_ by rw [←hC4];exact zz)
 clear hC4
 refine d6.intro rfl ?_
 go_wp2_with first
  | (go_at_call 6;refine (NU.out _ _).mono ?_;rintro e w9 ⟨rfl,hb⟩;replace BB:=BB.trans (hb.mono BB.size);clear hb)
  | (refine aP (by rfl) 28 _ rfl bb 0 rfl MB _ (SW.out _ BB).2.2.2.1 Tryz.underlying28 rfl iM.out ?_)
  | (go_at_call 7;refine (AU.out _ (SW.out _ BB).1).mono ?_;rintro e w8 ⟨rfl,hb⟩;replace BB:=BB.trans (hb.mono BB.size);clear hb)
  | (refine wpList_store_mid rfl 26 _ _ rfl w8.heap.size 0 NA.toArray rfl rfl (bB rfl (by rw [List.size_toArray,sN.out];rfl)) (by rw [List.size_toArray,sN.out];kernel_rfl) oN ?_;refine aN (fun V=>Below w8.heap.size w8 V∧V.rangeAt w8.heap.size 0 NA∧w8.heap.size<V.heap.size) ⟨(b9 ((Below.refl _ _).alloc (Nat.le_refl _) _) (Nat.le_refl _) (bB rfl (by rw [sN.out];rfl))).1,(b9 ((Below.refl _ _).alloc (Nat.le_refl _) _) (Nat.le_refl _) (bB rfl (by rw [sN.out];rfl))).2,by rw [fl];simp⟩ ?_;rintro w7 ⟨hb,hD,hlt⟩;replace BB:=BB.trans (hb.mono BB.size);(have HD:Hid (∀ V,Below w7.heap.size w7 V→V.rangeAt w8.heap.size 0 NA):=fun V h=>aE hD h hlt);(have B7:Below w7.heap.size w7 w7:=Below.refl _ _);(have S7:Hid (Below W.heap.size W w7):=BB);clear hb hD hlt BB)
  | (go_at_call 6;refine (NU.out _ _).mono ?_;rintro e w6 ⟨rfl,hb⟩;replace B7:=B7.trans (hb.mono B7.size);clear hb)
  | (refine aP (by rfl) 26 _ rfl w8.heap.size 0 rfl NA _ (HD.out _ B7) Tryz.underlying26 rfl iN.out ?_)
  | (refine aP (by rfl) 26 _ rfl bo 0 rfl NA _ (SW.out _ (S7.out.trans (B7.mono S7.out.size))).2.2.2.2 Tryz.underlying26 rfl iN.out ?_;refine fk (by rfl) .eql 26 _ _ _ rfl (.agg NA.toArray) (.agg NA.toArray) rfl rfl true (zy (by kernel_rfl) (EN.out _)) ?_)
  | (refine aP (by rfl) 24 _ rfl bb 0 rfl C4 _ (SW.out _ (S7.out.trans (B7.mono S7.out.size))).2.2.1.1 Tryz.underlying24 rfl iC.out ?_)
  | (refine aP (by rfl) 24 _ rfl ba 0 rfl C4 _ (SW.out _ (S7.out.trans (B7.mono S7.out.size))).2.1.1 Tryz.underlying24 rfl iC.out ?_;refine fk (by rfl) .eql 24 _ _ _ rfl (.agg C4.toArray) (.agg C4.toArray) rfl rfl true (zy (by kernel_rfl) (EC.out _)) ?_)
  | (refine aP (by rfl) 26 _ rfl bb 4 rfl AL _ (SW.out _ (S7.out.trans (B7.mono S7.out.size))).2.2.1.2.1 Tryz.underlying26 rfl iA.out ?_)
  | (refine aP (by rfl) 26 _ rfl ba 4 rfl AL _ (SW.out _ (S7.out.trans (B7.mono S7.out.size))).2.1.2.1 Tryz.underlying26 rfl iA.out ?_;refine fk (by rfl) .eql 26 _ _ _ rfl (.agg AL.toArray) (.agg AL.toArray) rfl rfl true (zy (by kernel_rfl) (EA.out _)) ?_)
  | (refine fK (by rfl) 22 _ rfl bb 24 rfl (.int .u64 n) _ (SW.out _ (S7.out.trans (B7.mono S7.out.size))).2.2.1.2.2 Tryz.underlying22 rfl ?_)
  | (refine fK (by rfl) 22 _ rfl ba 24 rfl (.int .u64 n) _ (SW.out _ (S7.out.trans (B7.mono S7.out.size))).2.1.2.2 Tryz.underlying22 rfl ?_)
 have BF:=(SW.out _ (S7.out.trans (B7.mono S7.out.size))).1
 simp [bodyPost,results,Tryz.results3,go_sem]
 exact BF
end Go.Proofs.YtjoandmehahfgaaGreatDoor
