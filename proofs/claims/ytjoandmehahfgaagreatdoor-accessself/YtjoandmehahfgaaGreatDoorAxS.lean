import Derived.Test.YtjoandmehahfgaaGreatDoorAb
import Derived.Test.YtjoandmehahfgaaGreatDoorAdPt
import Derived.Test.YtjoandmehahfgaaGreatDoorMgB
import Derived.Test.YtjoandmehahfgaaGreatDoorCLaid
import Derived.Test.YtjoandmehahfgaaGreatDoorGet
import Derived.Test.YtjoandmehahfgaaGreatDoorAxA
set_option maxRecDepth 100000
set_option maxHeartbeats 8000000
namespace Go.Proofs.YtjoandmehahfgaaGreatDoor
open Go.RowKit Go.Sort
theorem fE {P:Program} {C:World→Prop} {a:Act} {o:Oper} {K:Act→Prop} (ty:TypeId) (x:Operand) (h:o.op = .load ty x) (b f:Nat) (hx:a.eval x = .pointer (some ⟨b,f,none⟩)) (cs:List Value) (d:TypeDesc) (hc:∀ w,C w→w.rangeAt b f cs)
  (hu:P.underlying ty=some d) (hd:d.isRow=true) (hi:(P.info? ty).map (·.size)=some cs.length) (hk:K (a.put o.dst (.agg cs.toArray))):o.quiet P a C K :=
 ⟨_,fun w hw=>by
  unfold Oper.quietAt execOp
  simp only [h,hx,Instr.loadAt,Instr.sureAddr,Sem.run_bind,Sem.run_pure,Result.andThen_ok,run_loadVar_mid w b f ty cs d (hc w hw) hu hd hi]
  exact ⟨rfl,rfl⟩,hk⟩
theorem dt {c:Int} {A:List Int} {n p r s:Int} (h:A.length=20) (j:Nat):(auM c A n p r s)[24+j]?=[Value.int .u64 n,.int .u64 p,.int .u64 (l0 r),.int .u64 (l1 r),.int .u64 (l2 r),.int .u64 (l3 r),.int .u64 (l0 s),.int .u64 (l1 s),.int .u64 (l2 s),.int .u64 (l3 s)][j]?:=by
 unfold auM
 rw [List.getElem?_append_right (by simp;omega),List.getElem?_append_right (by simp [h];omega)]
 congr 1
 simp [h]
 omega
structure AuF (W:World) (b:Nat) (M:List Value) (n p r s:Int):Prop where
 all:W.rangeAt b 0 M
 non:W.cell? ⟨b,24,none⟩=some (.int .u64 n)
 par:W.cell? ⟨b,25,none⟩=some (.int .u64 p)
 r:W.cell? ⟨b,26,none⟩=some (.int .u64 (l0 r))∧W.cell? ⟨b,27,none⟩=some (.int .u64 (l1 r))∧W.cell? ⟨b,28,none⟩=some (.int .u64 (l2 r))∧W.cell? ⟨b,29,none⟩=some (.int .u64 (l3 r))
 s:W.cell? ⟨b,30,none⟩=some (.int .u64 (l0 s))∧W.cell? ⟨b,31,none⟩=some (.int .u64 (l1 s))∧W.cell? ⟨b,32,none⟩=some (.int .u64 (l2 s))∧W.cell? ⟨b,33,none⟩=some (.int .u64 (l3 s))
theorem AuF.of {W:World} {b:Nat} {c:Int} {A:List Int} {n p r s:Int} (hA:A.length=20) (h:W.rangeAt b 0 (auM c A n p r s)):AuF W b (auM c A n p r s) n p r s:=by
 have g:∀ (j:Nat) (v:Value),[Value.int .u64 n,.int .u64 p,.int .u64 (l0 r),.int .u64 (l1 r),.int .u64 (l2 r),.int .u64 (l3 r),.int .u64 (l0 s),.int .u64 (l1 s),.int .u64 (l2 s),.int .u64 (l3 s)][j]?=some v→W.cell? ⟨b,24+j,none⟩=some v:=fun j v hv=>by
  have:=h (24+j) v ((dt hA j).trans hv)
  rwa [Nat.zero_add] at this
 exact ⟨h,g 0 _ rfl,g 1 _ rfl,⟨g 2 _ rfl,g 3 _ rfl,g 4 _ rfl,g 5 _ rfl⟩,⟨g 6 _ rfl,g 7 _ rfl,g 8 _ rfl,g 9 _ rfl⟩⟩
theorem AuF.keep {W W':World} {b:Nat} {M:List Value} {n p r s:Int} (h:AuF W b M n p r s) (lt:b<W.heap.size) (B:Below W.heap.size W W'):AuF W' b M n p r s :=
 ⟨aE h.all B lt,cell_keep B h.non,cell_keep B h.par,⟨cell_keep B h.r.1,cell_keep B h.r.2.1,cell_keep B h.r.2.2.1,cell_keep B h.r.2.2.2⟩,⟨cell_keep B h.s.1,cell_keep B h.s.2.1,cell_keep B h.s.2.2.1,cell_keep B h.s.2.2.2⟩⟩
theorem AuF.grown {W:World} {b:Nat} {M:List Value} {n p r s:Int} (h:AuF W b M n p r s):∀ d os,
  (grow (redrawn W d) os).cell? ⟨b,24,none⟩=some (.int .u64 n)∧(grow (redrawn W d) os).cell? ⟨b,25,none⟩=some (.int .u64 p)∧(grow (redrawn W d) os).cell? ⟨b,26,none⟩=some (.int .u64 (l0 r))∧(grow (redrawn W d) os).cell? ⟨b,27,none⟩=some (.int .u64 (l1 r))∧(grow (redrawn W d) os).cell? ⟨b,28,none⟩=some (.int .u64 (l2 r))∧(grow (redrawn W d) os).cell? ⟨b,29,none⟩=some (.int .u64 (l3 r))∧(grow (redrawn W d) os).cell? ⟨b,30,none⟩=some (.int .u64 (l0 s))∧(grow (redrawn W d) os).cell? ⟨b,31,none⟩=some (.int .u64 (l1 s))∧(grow (redrawn W d) os).cell? ⟨b,32,none⟩=some (.int .u64 (l2 s))∧(grow (redrawn W d) os).cell? ⟨b,33,none⟩=some (.int .u64 (l3 s)) :=
 fun d os=>⟨cell_regrown h.non d os,cell_regrown h.par d os,cell_regrown h.r.1 d os,cell_regrown h.r.2.1 d os,cell_regrown h.r.2.2.1 d os,cell_regrown h.r.2.2.2 d os,cell_regrown h.s.1 d os,cell_regrown h.s.2.1 d os,cell_regrown h.s.2.2.1 d os,cell_regrown h.s.2.2.2 d os⟩
theorem bP:(Tryz.prog.info? 28).map (·.size)=some 34:=by kernel_rfl
theorem Cw {c n r s x y:Int} {A:List Int} {D N:List Value} (hA:A.length=20) (nn:¬n=18446744073709551615) (kN:N.length=20) (oc:N.toArray.all (·.oneCell')=true) (w:World)
    (AD:Hid (∀ W,KtC W→Rt 12 #[.agg (auM c A n 0 r s).toArray] W (.agg D.toArray)))
    (RC:Hid (∀ W,Mds W→ar W→Rt 13 #[.agg D.toArray,P9 r s false] W (.tuple #[P9 x y false,.int .i64 0])))
    (OP:Hid (∀ W,Mds W→KtC W→Rt 9 #[P9 x y false] W (.tuple #[.agg N.toArray,.int .i64 0]))) (hm:Mds w) (hc:ar w) (hk:KtC w) :
    Rt 7 #[.agg (auM c A n 0 r s).toArray] w (.tuple #[.agg N.toArray,.int .i64 0]):=by
  have KN:Hid (N.length=20):=kN
  have sz:N.toArray.size=20:=by simp [kN]
  have m24:(auM c A n 0 r s)[24]?=some (.int .u64 n):=dt hA 0
  have m25:(auM c A n 0 r s)[25]?=some (.int .u64 0):=dt hA 1
  have ML:Hid ((auM c A n 0 r s).length=34):=ia hA
  have FO:Hid (∀ (W:World) b,W.rangeAt b 0 (auM c A n 0 r s)→AuF W b (auM c A n 0 r s) n 0 r s):=fun W b h=>AuF.of hA h
  clear kN hA
  generalize auM c A n 0 r s=M at *
  go_enter Tryz.func7,Tryz.ntmps7
  go_wp2_with fail
  refine ah (fun W=>Below w.heap.size w W∧Mds W∧ar W∧KtC W∧AuF W w.heap.size M n _ r s∧w.heap.size<W.heap.size∧Bts W (w.heap.size+1) (List.replicate 20 0)) ⟨((Below.refl _ _).alloc (Nat.le_refl _) _).alloc (by simp) _,(hm.alloc _).alloc _,(hc.alloc _).alloc _,(hk.alloc _).alloc _,(FO.out _ _ dR).keep (by simp) ((Below.refl _ _).alloc (Nat.le_refl _) _),by simp;omega,Bts.new (List.replicate 20 0) _ (by simp)⟩ ?_
  rintro W ⟨B,hM,hC,hK,hF,lb,hR⟩
  clear hm hc hk m24 m25 FO
  have o3:w.heap.size≤w.heap.size+1:=by omega
  generalize w.heap.size+1=br at *
  have FH:Hid (AuF W w.heap.size M n _ r s∧w.heap.size<W.heap.size):=⟨hF,lb⟩
  clear hF lb
  refine cX (A:=?AA1) 14 15 13 (by kernel_rfl) (by kernel_rfl) (fun _ _ _ _ _ h=>h) (by kernel_rfl) rfl rfl (ku _ _ _) (fun V hV=>?HH1) (fun V w1 hV hw=>?TT1)
  case HH1 =>
    have gS:=(FH.out.1.keep FH.out.2 hV).grown
    have LM:Hid (∀ d os,(grow (redrawn V d) os).rangeAt w.heap.size 0 M):=fun d os=>aE (aE FH.out.1.all hV FH.out.2) (below_regrown V d os) (Nat.lt_of_lt_of_le FH.out.2 hV.size)
    have GG:Hid (∀ d os,Mds (grow (redrawn V d) os)∧ar (grow (redrawn V d) os)∧KtC (grow (redrawn V d) os)):=fun d os=>⟨(hM.keep hV).keep (below_regrown V d os),(hC.keep hV).keep (below_regrown V d os),(hK.keep hV).keep (below_regrown V d os)⟩
    unfold Gr
    simp only [List.take_succ_cons,List.take_zero]
    repeat
      first
        | go_big_quiet_skip
        | (go_big_quiet_want;refine fE 28 _ rfl w.heap.size 0 rfl M _ (fun W' ⟨p,e⟩=>by subst e;exact LM.out p.d p.os) Tryz.underlying28 rfl (by rw [ML.out];exact bP) ?_;simp only [Act.put,List.setIfInBounds_toArray,List.set_cons_zero,List.set_cons_succ];go_big_quiet_on)
        | (go_big_quiet_want;go_big_quiet_op;go_big_quiet_on)
        | (go_big_quiet_want
           go_big_quiet_op
           apply Exists.intro
           refine ⟨fun p=>?_,?_⟩
           · (first|(go_at_call 12;with_reducible exact Calls.regrown_of (AD.out _ (GG.out p.d p.os).2.2))|(go_at_call 13;with_reducible exact Calls.regrown_of (RC.out _ (GG.out p.d p.os).1 (GG.out p.d p.os).2.1)))
           go_big_quiet_on)
    refine wpQuiet_nil ?_
    exact rfl
  case TT1 =>
    have hb:=au hV hw
    have hN:=(Bk9.new rfl).keep hw
    have hq:Below W.heap.size W (put9 w1 V.heap.size x y false):=bL hb hV.size
    have FF:Hid (Below w.heap.size w (put9 w1 V.heap.size x y false)∧Mds (put9 w1 V.heap.size x y false)∧KtC (put9 w1 V.heap.size x y false)∧Pnt (put9 w1 V.heap.size x y false) V.heap.size x y false∧Bts (put9 w1 V.heap.size x y false) br (List.replicate 20 0)):=⟨B.trans (hq.mono B.size),hM.keep hq,hK.keep hq,hN.put9 x y false,hR.keep (by simp) hq⟩
    have gn:w.heap.size≤V.heap.size:=Nat.le_trans B.size hV.size
    clear hb hw hV hC FH hq B hM hK hR
    clear W AD RC ML
    generalize V.heap.size=bp at *
    clear V
    have gN:=hN.cells;have qN:=hN.free
    simp only [List.drop_succ_cons,List.drop_zero,Act.put,List.setIfInBounds_toArray,List.set_cons_zero,List.set_cons_succ]
    go_wp2_with fail
    refine aa (fun W=>Below w.heap.size w W∧Mds W∧KtC W∧Bts W br (List.replicate 20 0)) ⟨FF.out.1,FF.out.2.1,FF.out.2.2.1,FF.out.2.2.2.2⟩ ?_
    clear FF gN qN hN gn w1
    rintro W ⟨B,hM,hK,hR⟩
    refine (OP.out W hM hK).mono ?_
    rintro e w1 ⟨rfl,hb⟩
    replace B:=B.trans (hb.mono B.size)
    have tr:=(hR.keep (by simp) hb).there (k:=N.toArray.size) (by rw [sz];rfl)
    clear hb hR hM hK OP W
    go_wp2_with (refine wpList_store_mid rfl 26 _ _ rfl br 0 N.toArray rfl rfl tr (by rw [sz];kernel_rfl) oc ?_;refine aN (fun W'=>Below w.heap.size w W'∧W'.rangeAt br 0 N) (b9 B o3 (by simpa using tr)) ?_;rintro W' ⟨B',hD⟩)
    have ld:=run_loadVar_mid (P:=Tryz.prog) W' br 0 26 N _ hD Tryz.underlying26 rfl (by rw [KN.out];kernel_rfl)
    refine bodyPost_ret (v:=.tuple #[.agg N.toArray,.int .i64 0]) ?_ rfl ⟨rfl,B'⟩
    simp [results,Tryz.results7,asAddr,ld]
theorem Cx {c n r s x y:Int} {A:List Int} {D N:List Value} (hA:A.length=20) (nn:¬n=18446744073709551615) (kN:N.length=20) (oc:N.toArray.all (·.oneCell')=true) (w:World)
    (AD:Hid (∀ W,KtC W→Rt 12 #[.agg (auM c A n 1 r s).toArray] W (.agg D.toArray)))
    (RC:Hid (∀ W,Mds W→ar W→Rt 13 #[.agg D.toArray,P9 r s true] W (.tuple #[P9 x y false,.int .i64 0])))
    (OP:Hid (∀ W,Mds W→KtC W→Rt 9 #[P9 x y false] W (.tuple #[.agg N.toArray,.int .i64 0]))) (hm:Mds w) (hc:ar w) (hk:KtC w) :
    Rt 7 #[.agg (auM c A n 1 r s).toArray] w (.tuple #[.agg N.toArray,.int .i64 0]):=by
  have KN:Hid (N.length=20):=kN
  have sz:N.toArray.size=20:=by simp [kN]
  have m24:(auM c A n 1 r s)[24]?=some (.int .u64 n):=dt hA 0
  have m25:(auM c A n 1 r s)[25]?=some (.int .u64 1):=dt hA 1
  have ML:Hid ((auM c A n 1 r s).length=34):=ia hA
  have FO:Hid (∀ (W:World) b,W.rangeAt b 0 (auM c A n 1 r s)→AuF W b (auM c A n 1 r s) n 1 r s):=fun W b h=>AuF.of hA h
  clear kN hA
  generalize auM c A n 1 r s=M at *
  go_enter Tryz.func7,Tryz.ntmps7
  go_wp2_with fail
  refine ah (fun W=>Below w.heap.size w W∧Mds W∧ar W∧KtC W∧AuF W w.heap.size M n _ r s∧w.heap.size<W.heap.size∧Bts W (w.heap.size+1) (List.replicate 20 0)) ⟨((Below.refl _ _).alloc (Nat.le_refl _) _).alloc (by simp) _,(hm.alloc _).alloc _,(hc.alloc _).alloc _,(hk.alloc _).alloc _,(FO.out _ _ dR).keep (by simp) ((Below.refl _ _).alloc (Nat.le_refl _) _),by simp;omega,Bts.new (List.replicate 20 0) _ (by simp)⟩ ?_
  rintro W ⟨B,hM,hC,hK,hF,lb,hR⟩
  clear hm hc hk m24 m25 FO
  have o3:w.heap.size≤w.heap.size+1:=by omega
  generalize w.heap.size+1=br at *
  have FH:Hid (AuF W w.heap.size M n _ r s∧w.heap.size<W.heap.size):=⟨hF,lb⟩
  clear hF lb
  refine cX (A:=?AA1) 14 15 13 (by kernel_rfl) (by kernel_rfl) (fun _ _ _ _ _ h=>h) (by kernel_rfl) rfl rfl (ku _ _ _) (fun V hV=>?HH1) (fun V w1 hV hw=>?TT1)
  case HH1 =>
    have gS:=(FH.out.1.keep FH.out.2 hV).grown
    have LM:Hid (∀ d os,(grow (redrawn V d) os).rangeAt w.heap.size 0 M):=fun d os=>aE (aE FH.out.1.all hV FH.out.2) (below_regrown V d os) (Nat.lt_of_lt_of_le FH.out.2 hV.size)
    have GG:Hid (∀ d os,Mds (grow (redrawn V d) os)∧ar (grow (redrawn V d) os)∧KtC (grow (redrawn V d) os)):=fun d os=>⟨(hM.keep hV).keep (below_regrown V d os),(hC.keep hV).keep (below_regrown V d os),(hK.keep hV).keep (below_regrown V d os)⟩
    unfold Gr
    simp only [List.take_succ_cons,List.take_zero]
    repeat
      first
        | go_big_quiet_skip
        | (go_big_quiet_want;refine fE 28 _ rfl w.heap.size 0 rfl M _ (fun W' ⟨p,e⟩=>by subst e;exact LM.out p.d p.os) Tryz.underlying28 rfl (by rw [ML.out];exact bP) ?_;simp only [Act.put,List.setIfInBounds_toArray,List.set_cons_zero,List.set_cons_succ];go_big_quiet_on)
        | (go_big_quiet_want;go_big_quiet_op;go_big_quiet_on)
        | (go_big_quiet_want
           go_big_quiet_op
           apply Exists.intro
           refine ⟨fun p=>?_,?_⟩
           · (first|(go_at_call 12;with_reducible exact Calls.regrown_of (AD.out _ (GG.out p.d p.os).2.2))|(go_at_call 13;with_reducible exact Calls.regrown_of (RC.out _ (GG.out p.d p.os).1 (GG.out p.d p.os).2.1)))
           go_big_quiet_on)
    refine wpQuiet_nil ?_
    exact rfl
  case TT1 =>
    have hb:=au hV hw
    have hN:=(Bk9.new rfl).keep hw
    have hq:Below W.heap.size W (put9 w1 V.heap.size x y false):=bL hb hV.size
    have FF:Hid (Below w.heap.size w (put9 w1 V.heap.size x y false)∧Mds (put9 w1 V.heap.size x y false)∧KtC (put9 w1 V.heap.size x y false)∧Pnt (put9 w1 V.heap.size x y false) V.heap.size x y false∧Bts (put9 w1 V.heap.size x y false) br (List.replicate 20 0)):=⟨B.trans (hq.mono B.size),hM.keep hq,hK.keep hq,hN.put9 x y false,hR.keep (by simp) hq⟩
    have gn:w.heap.size≤V.heap.size:=Nat.le_trans B.size hV.size
    clear hb hw hV hC FH hq B hM hK hR
    clear W AD RC ML
    generalize V.heap.size=bp at *
    clear V
    have gN:=hN.cells;have qN:=hN.free
    simp only [List.drop_succ_cons,List.drop_zero,Act.put,List.setIfInBounds_toArray,List.set_cons_zero,List.set_cons_succ]
    go_wp2_with fail
    refine aa (fun W=>Below w.heap.size w W∧Mds W∧KtC W∧Bts W br (List.replicate 20 0)) ⟨FF.out.1,FF.out.2.1,FF.out.2.2.1,FF.out.2.2.2.2⟩ ?_
    clear FF gN qN hN gn w1
    rintro W ⟨B,hM,hK,hR⟩
    refine (OP.out W hM hK).mono ?_
    rintro e w1 ⟨rfl,hb⟩
    replace B:=B.trans (hb.mono B.size)
    have tr:=(hR.keep (by simp) hb).there (k:=N.toArray.size) (by rw [sz];rfl)
    clear hb hR hM hK OP W
    go_wp2_with (refine wpList_store_mid rfl 26 _ _ rfl br 0 N.toArray rfl rfl tr (by rw [sz];kernel_rfl) oc ?_;refine aN (fun W'=>Below w.heap.size w W'∧W'.rangeAt br 0 N) (b9 B o3 (by simpa using tr)) ?_;rintro W' ⟨B',hD⟩)
    have ld:=run_loadVar_mid (P:=Tryz.prog) W' br 0 26 N _ hD Tryz.underlying26 rfl (by rw [KN.out];kernel_rfl)
    refine bodyPost_ret (v:=.tuple #[.agg N.toArray,.int .i64 0]) ?_ rfl ⟨rfl,B'⟩
    simp [results,Tryz.results7,asAddr,ld]
end Go.Proofs.YtjoandmehahfgaaGreatDoor
