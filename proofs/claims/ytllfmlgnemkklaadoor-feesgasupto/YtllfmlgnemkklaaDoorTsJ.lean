import Derived.Test.YtllfmlgnemkklaaDoorTsK
/- The document's Same of two transactions. -/
namespace Go.Proofs.YtllfmlgnemkklaaDoor.tq
open Go.RowKit Go.Sort
theorem wpList_lenT {P : Program} {ops : Array Oper} {rest : List Oper} {o : Oper} {a : Act} {w : World} {Q : Exit → Act → World → Prop} (hw : Region.wanted o (yielded ops a.tmps) = true) (x : Operand) (t : TypeId) (ho : o.op = .call { callee := .builtin .len, args := #[x], argTypes := #[t] }) (ad : Option Addr) (n c : Nat) (hx : a.eval x = .slice ad n c) (ht : P.underlying t = some (.slice (P.elem t)))
    (h : wpList P ops Q rest (a.put o.dst (.int .i64 (n : Int))) w) : wpList P ops Q (o :: rest) a w := by
  unfold wpList
  rw [if_pos hw]
  refine .inl ?_
  unfold Oper.wp execOp
  simp only [ho, resolve, invoke, builtin, Sem.run_bind, Sem.run_pure, Result.andThen_ok, List.map_toArray, List.map_cons, List.map_nil, hx, run_len_slice _ _ _ _ _ _ ht]
  exact h
set_option maxRecDepth 100000 in
set_option maxHeartbeats 40000000 in
theorem rsame_walk {C1 C2 : List Value} {ty ch no gas ty2 ch2 no2 gas2 : Int} {cr cr2 : Bool} {pr pr2 : List Value} {ti ti2 : List Value} {ca ca2 : List Value} {bc bc2 : List Value} {va va2 : List Value} {sv sv2 : List Value} {sr sr2 : List Value} {ss ss2 : List Value} {to to2 : List Value} {D Hs D2 Hs2 : Value} {ea ea2 ua ua2 : Option Addr} {eb eo ec eb2 eo2 ec2 ub uo uc ub2 uo2 uc2 : Nat} {L L2 : List En} {P P2 : List Aun} {dpr dti dca dto dva dbc dsv dsr dss dD dHs r : Bool} (w : World)
    (F1 : Hid (∀ W b, W.rangeAt b 0 C1 → TxF W b ty ch no pr ti ca gas cr to va D (.slice ea L.length ec) bc Hs (.slice ua P.length uc) sv sr ss)) (F2 : Hid (∀ W b, W.rangeAt b 0 C2 → TxF W b ty2 ch2 no2 pr2 ti2 ca2 gas2 cr2 to2 va2 D2 (.slice ea2 L2.length ec2) bc2 Hs2 (.slice ua2 P2.length uc2) sv2 sr2 ss2))
    (GE : Hid (EsG w ea eb eo ec L ∧ EsG w ea2 eb2 eo2 ec2 L2)) (GU : Hid (UsG w ua ub uo uc P ∧ UsG w ua2 ub2 uo2 uc2 P2)) (nL : L.length < 1000000000) (nP : P.length < 1000000000) (nK : Hid (∀ i, i < L.length → (L.getD i zEn).ks.length < 1000000000))
    (spr : Hid (pr.length = 4 ∧ pr2.length = 4)) (epr : Hid (∀ w, (Op.equalIn 10000 24 (.agg pr.toArray) (.agg pr2.toArray)).run Tryd.prog w = .ok dpr w))
    (sti : Hid (ti.length = 4 ∧ ti2.length = 4)) (eti : Hid (∀ w, (Op.equalIn 10000 24 (.agg ti.toArray) (.agg ti2.toArray)).run Tryd.prog w = .ok dti w))
    (sca : Hid (ca.length = 4 ∧ ca2.length = 4)) (eca : Hid (∀ w, (Op.equalIn 10000 24 (.agg ca.toArray) (.agg ca2.toArray)).run Tryd.prog w = .ok dca w))
    (sbc : Hid (bc.length = 4 ∧ bc2.length = 4)) (ebc : Hid (∀ w, (Op.equalIn 10000 24 (.agg bc.toArray) (.agg bc2.toArray)).run Tryd.prog w = .ok dbc w))
    (sva : Hid (va.length = 4 ∧ va2.length = 4)) (eva : Hid (∀ w, (Op.equalIn 10000 24 (.agg va.toArray) (.agg va2.toArray)).run Tryd.prog w = .ok dva w))
    (ssv : Hid (sv.length = 4 ∧ sv2.length = 4)) (esv : Hid (∀ w, (Op.equalIn 10000 24 (.agg sv.toArray) (.agg sv2.toArray)).run Tryd.prog w = .ok dsv w))
    (ssr : Hid (sr.length = 4 ∧ sr2.length = 4)) (esr : Hid (∀ w, (Op.equalIn 10000 24 (.agg sr.toArray) (.agg sr2.toArray)).run Tryd.prog w = .ok dsr w))
    (sss : Hid (ss.length = 4 ∧ ss2.length = 4)) (ess : Hid (∀ w, (Op.equalIn 10000 24 (.agg ss.toArray) (.agg ss2.toArray)).run Tryd.prog w = .ok dss w))
    (sto : Hid (to.length = 20 ∧ to2.length = 20)) (eto : Hid (∀ w, (Op.equalIn 10000 26 (.agg to.toArray) (.agg to2.toArray)).run Tryd.prog w = .ok dto w))
    (KD : Hid (∀ W, Below w.heap.size w W → Calls Tryd.prog 33 #[D, D2] W fun e w' => e = .returned (.bool dD) ∧ Below W.heap.size W w'))
    (KHs : Hid (∀ W, Below w.heap.size w W → Calls Tryd.prog 34 #[Hs, Hs2] W fun e w' => e = .returned (.bool dHs) ∧ Below W.heap.size W w'))
    (HR : Hid (r = (decide (ty = ty2) && (decide (ch = ch2) && (decide (no = no2) && (dpr && (dti && (dca && (decide (gas = gas2) && (decide (cr = cr2) && (dto && (dva && (dbc && (dsv && (dsr && (dss && (dD && (dHs && (eqL sameE zEn L L2 && eqL sameA zAun P P2))))))))))))))))))) :
    Calls Tryd.prog 19 #[.agg C1.toArray, .agg C2.toArray] w fun e w' => e = .returned (.bool r) ∧ Below w.heap.size w w' := by
  have ipr : (Tryd.prog.info? 24).map (·.size) = some pr.length := by rw [spr.out.1]; exact size_nu
  have jpr : (Tryd.prog.info? 24).map (·.size) = some pr2.length := by rw [spr.out.2]; exact size_nu
  have iti : (Tryd.prog.info? 24).map (·.size) = some ti.length := by rw [sti.out.1]; exact size_nu
  have jti : (Tryd.prog.info? 24).map (·.size) = some ti2.length := by rw [sti.out.2]; exact size_nu
  have ica : (Tryd.prog.info? 24).map (·.size) = some ca.length := by rw [sca.out.1]; exact size_nu
  have jca : (Tryd.prog.info? 24).map (·.size) = some ca2.length := by rw [sca.out.2]; exact size_nu
  have ibc : (Tryd.prog.info? 24).map (·.size) = some bc.length := by rw [sbc.out.1]; exact size_nu
  have jbc : (Tryd.prog.info? 24).map (·.size) = some bc2.length := by rw [sbc.out.2]; exact size_nu
  have iva : (Tryd.prog.info? 24).map (·.size) = some va.length := by rw [sva.out.1]; exact size_nu
  have jva : (Tryd.prog.info? 24).map (·.size) = some va2.length := by rw [sva.out.2]; exact size_nu
  have isv : (Tryd.prog.info? 24).map (·.size) = some sv.length := by rw [ssv.out.1]; exact size_nu
  have jsv : (Tryd.prog.info? 24).map (·.size) = some sv2.length := by rw [ssv.out.2]; exact size_nu
  have isr : (Tryd.prog.info? 24).map (·.size) = some sr.length := by rw [ssr.out.1]; exact size_nu
  have jsr : (Tryd.prog.info? 24).map (·.size) = some sr2.length := by rw [ssr.out.2]; exact size_nu
  have iss : (Tryd.prog.info? 24).map (·.size) = some ss.length := by rw [sss.out.1]; exact size_nu
  have jss : (Tryd.prog.info? 24).map (·.size) = some ss2.length := by rw [sss.out.2]; exact size_nu
  have ito : (Tryd.prog.info? 26).map (·.size) = some to.length := by rw [sto.out.1]; exact size_ad
  have jto : (Tryd.prog.info? 26).map (·.size) = some to2.length := by rw [sto.out.2]; exact size_ad
  clear spr sti sca sbc sva ssv ssr sss sto
  have n1 : (L.length : Int) < 1000000000 := by omega
  have n2 : (P.length : Int) < 1000000000 := by omega
  clear nL nP
  go_enter Tryd.func19, Tryd.ntmps19
  simp only [List.append]
  go_wp2_with first
    | (refine wpList_boxT rfl 32 _ rfl C1 rfl ?_; intro b1 W1 hb1 B1 r1)
    | (refine wpList_boxT rfl 32 _ rfl C2 rfl ?_; intro b2 W2 hb2 B2 r2; have f1 := F1.out W2 b1 (range_keep r1 B2); have f2 := F2.out W2 b2 r2; have BB : Below w.heap.size w W2 := B1.trans (B2.mono B1.size); clear r1 r2 B1 B2)
    | (refine wpList_load_cellT rfl 3 _ rfl b1 0 rfl (.int .i64 ty) _ f1.ty Tryd.underlying3 rfl ?_)
    | (refine wpList_load_cellT rfl 3 _ rfl b2 0 rfl (.int .i64 ty2) _ f2.ty Tryd.underlying3 rfl ?_; refine wpList_eqG rfl .neq 3 _ _ _ rfl _ _ rfl rfl _ neI ?_; by_cases qty : ty = ty2; (case neg => (rw [decide_eq_false qty, Bool.not_false]; rw [decide_eq_false qty, Bool.false_and] at HR; (go_wp2; simp [bodyPost, results, Tryd.results19, go_sem]; exact ⟨by first | exact HR.out | exact HR.out.symm, BB⟩))); rw [decide_eq_true qty, Bool.not_true]; rw [decide_eq_true qty, Bool.true_and] at HR; replace qty : Hid (ty = ty2) := qty)
    | (refine wpList_load_cellT rfl 22 _ rfl b1 1 rfl (.int .u64 ch) _ f1.ch Tryd.underlying22 rfl ?_)
    | (refine wpList_load_cellT rfl 22 _ rfl b2 1 rfl (.int .u64 ch2) _ f2.ch Tryd.underlying22 rfl ?_; refine wpList_eqG rfl .neq 22 _ _ _ rfl _ _ rfl rfl _ neI ?_; by_cases qch : ch = ch2; (case neg => (rw [decide_eq_false qch, Bool.not_false]; rw [decide_eq_false qch, Bool.false_and] at HR; (go_wp2; simp [bodyPost, results, Tryd.results19, go_sem]; exact ⟨by first | exact HR.out | exact HR.out.symm, BB⟩))); rw [decide_eq_true qch, Bool.not_true]; rw [decide_eq_true qch, Bool.true_and] at HR; replace qch : Hid (ch = ch2) := qch)
    | (refine wpList_load_cellT rfl 22 _ rfl b1 2 rfl (.int .u64 no) _ f1.no Tryd.underlying22 rfl ?_)
    | (refine wpList_load_cellT rfl 22 _ rfl b2 2 rfl (.int .u64 no2) _ f2.no Tryd.underlying22 rfl ?_; refine wpList_eqG rfl .neq 22 _ _ _ rfl _ _ rfl rfl _ neI ?_; by_cases qno : no = no2; (case neg => (rw [decide_eq_false qno, Bool.not_false]; rw [decide_eq_false qno, Bool.false_and] at HR; (go_wp2; simp [bodyPost, results, Tryd.results19, go_sem]; exact ⟨by first | exact HR.out | exact HR.out.symm, BB⟩))); rw [decide_eq_true qno, Bool.not_true]; rw [decide_eq_true qno, Bool.true_and] at HR; replace qno : Hid (no = no2) := qno)
    | (refine wpList_load_midT rfl 24 _ rfl b1 3 rfl pr _ f1.pr Tryd.underlying24 rfl ipr ?_)
    | (refine wpList_load_midT rfl 24 _ rfl b2 3 rfl pr2 _ f2.pr Tryd.underlying24 rfl jpr ?_; refine wpList_eqG rfl .neq 24 _ _ _ rfl _ _ rfl rfl _ (neR Tryd.eqGuardType24 (epr.out _)) ?_; cases dpr; (case false => (rw [Bool.false_and] at HR; rw [Bool.not_false]; (go_wp2; simp [bodyPost, results, Tryd.results19, go_sem]; exact ⟨by first | exact HR.out | exact HR.out.symm, BB⟩))); rw [Bool.not_true]; rw [Bool.true_and] at HR)
    | (refine wpList_load_midT rfl 24 _ rfl b1 7 rfl ti _ f1.ti Tryd.underlying24 rfl iti ?_)
    | (refine wpList_load_midT rfl 24 _ rfl b2 7 rfl ti2 _ f2.ti Tryd.underlying24 rfl jti ?_; refine wpList_eqG rfl .neq 24 _ _ _ rfl _ _ rfl rfl _ (neR Tryd.eqGuardType24 (eti.out _)) ?_; cases dti; (case false => (rw [Bool.false_and] at HR; rw [Bool.not_false]; (go_wp2; simp [bodyPost, results, Tryd.results19, go_sem]; exact ⟨by first | exact HR.out | exact HR.out.symm, BB⟩))); rw [Bool.not_true]; rw [Bool.true_and] at HR)
    | (refine wpList_load_midT rfl 24 _ rfl b1 11 rfl ca _ f1.ca Tryd.underlying24 rfl ica ?_)
    | (refine wpList_load_midT rfl 24 _ rfl b2 11 rfl ca2 _ f2.ca Tryd.underlying24 rfl jca ?_; refine wpList_eqG rfl .neq 24 _ _ _ rfl _ _ rfl rfl _ (neR Tryd.eqGuardType24 (eca.out _)) ?_; cases dca; (case false => (rw [Bool.false_and] at HR; rw [Bool.not_false]; (go_wp2; simp [bodyPost, results, Tryd.results19, go_sem]; exact ⟨by first | exact HR.out | exact HR.out.symm, BB⟩))); rw [Bool.not_true]; rw [Bool.true_and] at HR)
    | (refine wpList_load_cellT rfl 22 _ rfl b1 15 rfl (.int .u64 gas) _ f1.gas Tryd.underlying22 rfl ?_)
    | (refine wpList_load_cellT rfl 22 _ rfl b2 15 rfl (.int .u64 gas2) _ f2.gas Tryd.underlying22 rfl ?_; refine wpList_eqG rfl .neq 22 _ _ _ rfl _ _ rfl rfl _ neI ?_; by_cases qgas : gas = gas2; (case neg => (rw [decide_eq_false qgas, Bool.not_false]; rw [decide_eq_false qgas, Bool.false_and] at HR; (go_wp2; simp [bodyPost, results, Tryd.results19, go_sem]; exact ⟨by first | exact HR.out | exact HR.out.symm, BB⟩))); rw [decide_eq_true qgas, Bool.not_true]; rw [decide_eq_true qgas, Bool.true_and] at HR; replace qgas : Hid (gas = gas2) := qgas)
    | (refine wpList_load_cellT rfl 4 _ rfl b1 16 rfl (.bool cr) _ f1.cr Tryd.underlying4 rfl ?_)
    | (refine wpList_load_cellT rfl 4 _ rfl b2 16 rfl (.bool cr2) _ f2.cr Tryd.underlying4 rfl ?_; refine wpList_eqG rfl .neq 4 _ _ _ rfl _ _ rfl rfl _ (neO Tryd.underlying4) ?_; by_cases qcr : cr = cr2; (case neg => (rw [decide_eq_false qcr, Bool.not_false]; rw [decide_eq_false qcr, Bool.false_and] at HR; (go_wp2; simp [bodyPost, results, Tryd.results19, go_sem]; exact ⟨by first | exact HR.out | exact HR.out.symm, BB⟩))); rw [decide_eq_true qcr, Bool.not_true]; rw [decide_eq_true qcr, Bool.true_and] at HR; replace qcr : Hid (cr = cr2) := qcr)
    | (refine wpList_load_midT rfl 26 _ rfl b1 17 rfl to _ f1.to Tryd.underlying26 rfl ito ?_)
    | (refine wpList_load_midT rfl 26 _ rfl b2 17 rfl to2 _ f2.to Tryd.underlying26 rfl jto ?_; refine wpList_eqG rfl .neq 26 _ _ _ rfl _ _ rfl rfl _ (neR Tryd.eqGuardType26 (eto.out _)) ?_; cases dto; (case false => (rw [Bool.false_and] at HR; rw [Bool.not_false]; (go_wp2; simp [bodyPost, results, Tryd.results19, go_sem]; exact ⟨by first | exact HR.out | exact HR.out.symm, BB⟩))); rw [Bool.not_true]; rw [Bool.true_and] at HR)
    | (refine wpList_load_midT rfl 24 _ rfl b1 37 rfl va _ f1.va Tryd.underlying24 rfl iva ?_)
    | (refine wpList_load_midT rfl 24 _ rfl b2 37 rfl va2 _ f2.va Tryd.underlying24 rfl jva ?_; refine wpList_eqG rfl .neq 24 _ _ _ rfl _ _ rfl rfl _ (neR Tryd.eqGuardType24 (eva.out _)) ?_; cases dva; (case false => (rw [Bool.false_and] at HR; rw [Bool.not_false]; (go_wp2; simp [bodyPost, results, Tryd.results19, go_sem]; exact ⟨by first | exact HR.out | exact HR.out.symm, BB⟩))); rw [Bool.not_true]; rw [Bool.true_and] at HR)
    | (refine wpList_load_midT rfl 24 _ rfl b1 43 rfl bc _ f1.bc Tryd.underlying24 rfl ibc ?_)
    | (refine wpList_load_midT rfl 24 _ rfl b2 43 rfl bc2 _ f2.bc Tryd.underlying24 rfl jbc ?_; refine wpList_eqG rfl .neq 24 _ _ _ rfl _ _ rfl rfl _ (neR Tryd.eqGuardType24 (ebc.out _)) ?_; cases dbc; (case false => (rw [Bool.false_and] at HR; rw [Bool.not_false]; (go_wp2; simp [bodyPost, results, Tryd.results19, go_sem]; exact ⟨by first | exact HR.out | exact HR.out.symm, BB⟩))); rw [Bool.not_true]; rw [Bool.true_and] at HR)
    | (refine wpList_load_midT rfl 24 _ rfl b1 49 rfl sv _ f1.sv Tryd.underlying24 rfl isv ?_)
    | (refine wpList_load_midT rfl 24 _ rfl b2 49 rfl sv2 _ f2.sv Tryd.underlying24 rfl jsv ?_; refine wpList_eqG rfl .neq 24 _ _ _ rfl _ _ rfl rfl _ (neR Tryd.eqGuardType24 (esv.out _)) ?_; cases dsv; (case false => (rw [Bool.false_and] at HR; rw [Bool.not_false]; (go_wp2; simp [bodyPost, results, Tryd.results19, go_sem]; exact ⟨by first | exact HR.out | exact HR.out.symm, BB⟩))); rw [Bool.not_true]; rw [Bool.true_and] at HR)
    | (refine wpList_load_midT rfl 24 _ rfl b1 53 rfl sr _ f1.sr Tryd.underlying24 rfl isr ?_)
    | (refine wpList_load_midT rfl 24 _ rfl b2 53 rfl sr2 _ f2.sr Tryd.underlying24 rfl jsr ?_; refine wpList_eqG rfl .neq 24 _ _ _ rfl _ _ rfl rfl _ (neR Tryd.eqGuardType24 (esr.out _)) ?_; cases dsr; (case false => (rw [Bool.false_and] at HR; rw [Bool.not_false]; (go_wp2; simp [bodyPost, results, Tryd.results19, go_sem]; exact ⟨by first | exact HR.out | exact HR.out.symm, BB⟩))); rw [Bool.not_true]; rw [Bool.true_and] at HR)
    | (refine wpList_load_midT rfl 24 _ rfl b1 57 rfl ss _ f1.ss Tryd.underlying24 rfl iss ?_)
    | (refine wpList_load_midT rfl 24 _ rfl b2 57 rfl ss2 _ f2.ss Tryd.underlying24 rfl jss ?_; refine wpList_eqG rfl .neq 24 _ _ _ rfl _ _ rfl rfl _ (neR Tryd.eqGuardType24 (ess.out _)) ?_; cases dss; (case false => (rw [Bool.false_and] at HR; rw [Bool.not_false]; (go_wp2; simp [bodyPost, results, Tryd.results19, go_sem]; exact ⟨by first | exact HR.out | exact HR.out.symm, BB⟩))); rw [Bool.not_true]; rw [Bool.true_and] at HR)
    | (refine wpList_load_cellT rfl 27 _ rfl b1 41 rfl D _ f1.D Tryd.underlying27 rfl ?_)
    | (refine wpList_load_cellT rfl 27 _ rfl b2 41 rfl D2 _ f2.D Tryd.underlying27 rfl ?_)
    | (go_at_call 33; refine (KD.out _ BB).mono ?_; rintro x9 W9D ⟨rfl, B9⟩; replace BB := BB.trans (B9.mono BB.size); replace f1 := f1.keep B9; replace f2 := f2.keep B9; clear B9; cases dD; (case false => (rw [Bool.false_and] at HR; (go_wp2; simp [bodyPost, results, Tryd.results19, go_sem]; exact ⟨by first | exact HR.out | exact HR.out.symm, BB⟩))); rw [Bool.true_and] at HR)
    | (refine wpList_load_cellT rfl 29 _ rfl b1 47 rfl Hs _ f1.Hs Tryd.underlying29 rfl ?_)
    | (refine wpList_load_cellT rfl 29 _ rfl b2 47 rfl Hs2 _ f2.Hs Tryd.underlying29 rfl ?_)
    | (go_at_call 34; refine (KHs.out _ BB).mono ?_; rintro x9 W9Hs ⟨rfl, B9⟩; replace BB := BB.trans (B9.mono BB.size); replace f1 := f1.keep B9; replace f2 := f2.keep B9; clear B9; cases dHs; (case false => (rw [Bool.false_and] at HR; (go_wp2; simp [bodyPost, results, Tryd.results19, go_sem]; exact ⟨by first | exact HR.out | exact HR.out.symm, BB⟩))); rw [Bool.true_and] at HR)
    | (refine wpList_load_cellT rfl 28 _ rfl b1 42 rfl (.slice ea L.length ec) _ f1.E Tryd.underlying28 rfl ?_; by_cases hE : L.length = L2.length; (case neg => (have hE' : ¬ ((L.length : Int) = (L2.length : Int)) := (by omega); rw [eqL_len hE, Bool.false_and] at HR; have yE := f2.E; (go_wp2; simp [bodyPost, results, Tryd.results19, go_sem]; exact ⟨by first | exact HR.out | exact HR.out.symm, BB⟩))); have hE' : (L2.length : Int) = (L.length : Int) := (by omega); replace hE : Hid (L.length = L2.length) := hE)
    | (refine wpList_load_cellT rfl 28 _ rfl b2 42 rfl (.slice ea2 L2.length ec2) _ f2.E Tryd.underlying28 rfl ?_)
    | (refine wpList_load_cellT rfl 30 _ rfl b1 48 rfl (.slice ua P.length uc) _ f1.U Tryd.underlying30 rfl ?_)
    | (refine wpList_load_cellT rfl 30 _ rfl b2 48 rfl (.slice ua2 P2.length uc2) _ f2.U Tryd.underlying30 rfl ?_; by_cases hU : P.length = P2.length; (case neg => (refine wpList_lenT rfl _ _ rfl _ _ _ rfl Tryd.underlying30 ?_; refine wpList_eqG rfl .neq 3 _ _ _ rfl _ _ rfl rfl _ neI ?_; rw [decide_eq_false (show ¬ ((P.length : Int) = (P2.length : Int)) by omega), Bool.not_false]; rw [eqL_len hU, Bool.and_false] at HR; clear hU hE' hE f1 f2 GE GU nK; (go_wp2; simp [bodyPost, results, Tryd.results19, go_sem]; exact ⟨by first | exact HR.out | exact HR.out.symm, BB⟩))); have hU' : (P2.length : Int) = (P.length : Int) := (by omega); replace hU : Hid (P.length = P2.length) := hU)
  have GL : Hid (L.length = L2.length ∧ P.length = P2.length) := ⟨hE, hU⟩
  clear hE hU
  go_loopg [5] L.length (fun kk iv wr => ∃ i : Nat, kk = L.length - i ∧ i ≤ L.length ∧ iv = .int .i64 (i : Int) ∧ (∀ j, j < i → sameE (L.getD j zEn) (L2.getD j zEn) = true) ∧ Below w.heap.size w wr ∧ (wr.cell? ⟨b1, 42, none⟩ = some (.slice ea L.length ec) ∧ wr.cell? ⟨b2, 42, none⟩ = some (.slice ea2 L2.length ec2)) ∧ (wr.cell? ⟨b1, 48, none⟩ = some (.slice ua P.length uc) ∧ wr.cell? ⟨b2, 48, none⟩ = some (.slice ua2 P2.length uc2)))
  case atStart => exact ⟨0, rfl, Nat.zero_le _, rfl, fun n hn => absurd hn (Nat.not_lt_zero _), BB, ⟨f1.E, f2.E⟩, ⟨f1.U, f2.U⟩⟩
  case round =>
    clear BB f1 f2
    obtain ⟨i, hk, hi, rfl, ht, B, ⟨cE1, cE2⟩, cU⟩ := hrel
    have HK : Hid (gk = L.length - i ∧ ∀ j, j < i → sameE (L.getD j zEn) (L2.getD j zEn) = true) := ⟨hk, ht⟩
    have CU : Hid (wr.cell? ⟨b1, 48, none⟩ = some (.slice ua P.length uc) ∧ wr.cell? ⟨b2, 48, none⟩ = some (.slice ua2 P2.length uc2)) := cU
    clear hk ht cU
    by_cases h8 : i = L.length
    · have HT : Hid (eqL sameE zEn L L2 = true) := eqL_yes GL.out.1 (by rw [← h8]; exact HK.out.2)
      rw [HT.out, Bool.true_and] at HR
      subst h8
      clear HK HT hi
      go_wp2_with fail
      go_loopg [6] P.length (fun kk iv wr2 => ∃ i : Nat, kk = P.length - i ∧ i ≤ P.length ∧ iv = .int .i64 (i : Int) ∧ (∀ j, j < i → sameA (P.getD j zAun) (P2.getD j zAun) = true) ∧ Below w.heap.size w wr2 ∧ (wr2.cell? ⟨b1, 48, none⟩ = some (.slice ua P.length uc) ∧ wr2.cell? ⟨b2, 48, none⟩ = some (.slice ua2 P2.length uc2)))
      case atStart => exact ⟨0, rfl, Nat.zero_le _, rfl, fun n hn => absurd hn (Nat.not_lt_zero _), B, CU.out⟩
      case round =>
        clear B CU cE1 cE2
        obtain ⟨i, hk, hi, rfl, ht, B, cU1, cU2⟩ := hrel
        have HK : Hid (gk = P.length - i ∧ ∀ j, j < i → sameA (P.getD j zAun) (P2.getD j zAun) = true) := ⟨hk, ht⟩
        clear hk ht
        by_cases h8 : i = P.length
        · have HT : Hid (eqL sameA zAun P P2 = true) := eqL_yes GL.out.2 (by rw [← h8]; exact HK.out.2)
          rw [HT.out] at HR
          subst h8
          clear HK HT hi
          go_wp2
          simp [bodyPost, results, Tryd.results19, go_sem]
          exact ⟨by first | exact HR.out | exact HR.out.symm, B⟩
        · have hlt : i < P.length := by omega
          have hlt' : (i : Int) < (P.length : Int) := by omega
          obtain rfl : ua = some ⟨ub, uo, none⟩ := by
            rcases GU.out.1.2.1 with h | h
            · rw [h] at hlt; exact absurd hlt (Nat.not_lt_zero _)
            · exact h
          obtain rfl : ua2 = some ⟨ub2, uo2, none⟩ := by
            rcases GU.out.2.2.1 with h | h
            · rw [GL.out.2, h] at hlt; exact absurd hlt (Nat.not_lt_zero _)
            · exact h
          have B3 : Hid (∀ d os, Below w.heap.size w (grow (redrawn wr d) os)) := fun d os => B.trans ((below_regrown wr d os).mono B.size)
          have rb : ∀ w', (∃ q : Regrown, w' = grow (redrawn wr q.d) q.os) → w'.rangeAt ub (uo + i * 34) (aunC (P.getD i zAun)) := by rintro w' ⟨q, rfl⟩; exact range_keep (GU.out.1.2.2 i hlt).2 (B3.out q.d q.os)
          have rc : ∀ w', (∃ q : Regrown, w' = grow (redrawn wr q.d) q.os) → w'.rangeAt ub2 (uo2 + i * 34) (aunC (P2.getD i zAun)) := by rintro w' ⟨q, rfl⟩; exact range_keep (GU.out.2.2.2 i (by rw [← GL.out.2]; exact hlt)).2 (B3.out q.d q.os)
          have ib : (Tryd.prog.info? 56).map (·.size) = some (aunC (P.getD i zAun)).length := by rw [aunC_len (GU.out.1.2.2 i hlt).1.2.1.1]; exact size_aun
          have ic : (Tryd.prog.info? 56).map (·.size) = some (aunC (P2.getD i zAun)).length := by rw [aunC_len (GU.out.2.2.2 i (by rw [← GL.out.2]; exact hlt)).1.2.1.1]; exact size_aun
          have eq : ∀ w, (Op.equalIn 10000 56 (.agg (aunC (P.getD i zAun)).toArray) (.agg (aunC (P2.getD i zAun)).toArray)).run Tryd.prog w = .ok (sameA (P.getD i zAun) (P2.getD i zAun)) w := fun w => eq_aun (GU.out.1.2.2 i hlt).1 (GU.out.2.2.2 i (by rw [← GL.out.2]; exact hlt)).1 w
          have NO : Hid (sameA (P.getD i zAun) (P2.getD i zAun) = false → eqL sameA zAun P P2 = false) := fun h => eqL_no hlt h
          have g1 := fun d os => cell_regrown cU1 d os
          have g2 := fun d os => cell_regrown cU2 d os
          have C8 : Hid (wr.cell? ⟨b1, 48, none⟩ = some (.slice (some ⟨ub, uo, none⟩) P.length uc) ∧ wr.cell? ⟨b2, 48, none⟩ = some (.slice (some ⟨ub2, uo2, none⟩) P2.length uc2)) := ⟨cU1, cU2⟩
          clear h8 hi
          generalize aunC (P.getD i zAun) = ci at *
          generalize aunC (P2.getD i zAun) = di at *
          obtain ⟨dd, hd⟩ : ∃ dd, sameA (P.getD i zAun) (P2.getD i zAun) = dd := ⟨_, rfl⟩
          have HD : Hid (sameA (P.getD i zAun) (P2.getD i zAun) = dd) := hd
          rw [hd] at eq
          clear hd
          have KC : Hid (∀ d os, (grow (redrawn wr d) os).cell? ⟨b1, 48, none⟩ = some (.slice (some ⟨ub, uo, none⟩) P.length uc) ∧ (grow (redrawn wr d) os).cell? ⟨b2, 48, none⟩ = some (.slice (some ⟨ub2, uo2, none⟩) P2.length uc2)) := fun d os => ⟨g1 d os, g2 d os⟩
          cases dd with
          | true =>
            go_wp2_with fail
            refine wp_region_quiet_below (by kernel_rfl) (by kernel_rfl) ?_
            repeat
              first
                | go_big_quiet_skip
                | (go_big_quiet_want; refine quiet_load_midT 56 _ rfl ub (uo + i * 34) rfl ci _ rb Tryd.underlying56 rfl ib ?_; simp only [Act.put, List.setIfInBounds_toArray, List.set_cons_succ, List.set_cons_zero]; go_big_quiet_on)
                | (go_big_quiet_want; refine quiet_load_midT 56 _ rfl ub2 (uo2 + i * 34) rfl di _ rc Tryd.underlying56 rfl ic ?_; simp only [Act.put, List.setIfInBounds_toArray, List.set_cons_succ, List.set_cons_zero]; go_big_quiet_on)
                | (go_big_quiet_want; go_big_quiet_op; go_big_quiet_on)
            refine wpQuiet_nil ?_
            rintro w2 ⟨q, rfl⟩
            have hb := B3.out q.d q.os
            have hc := KC.out q.d q.os
            generalize grow (redrawn wr q.d) q.os = w2 at *
            clear rb rc eq ib ic B3 g1 g2 KC cU1 cU2
            have HC : Hid (w2.cell? ⟨b1, 48, none⟩ = some (.slice (some ⟨ub, uo, none⟩) P.length uc) ∧ w2.cell? ⟨b2, 48, none⟩ = some (.slice (some ⟨ub2, uo2, none⟩) P2.length uc2)) := hc
            clear hc
            go_wp2
            go_roundg (P.length - (i + 1))
            case measure => have := HK.out.1; omega
            case rel => exact ⟨i + 1, rfl, hlt, by go_num, fun n hn => by
              by_cases c : n = i
              · subst c; exact HD.out
              · exact HK.out.2 n (by omega), hb, HC.out⟩
          | false =>
            rw [NO.out HD.out] at HR
            go_wp2_with fail
            refine wp_region_quiet_below (by kernel_rfl) (by kernel_rfl) ?_
            repeat
              first
                | go_big_quiet_skip
                | (go_big_quiet_want; refine quiet_load_midT 56 _ rfl ub (uo + i * 34) rfl ci _ rb Tryd.underlying56 rfl ib ?_; simp only [Act.put, List.setIfInBounds_toArray, List.set_cons_succ, List.set_cons_zero]; go_big_quiet_on)
                | (go_big_quiet_want; refine quiet_load_midT 56 _ rfl ub2 (uo2 + i * 34) rfl di _ rc Tryd.underlying56 rfl ic ?_; simp only [Act.put, List.setIfInBounds_toArray, List.set_cons_succ, List.set_cons_zero]; go_big_quiet_on)
                | (go_big_quiet_want; go_big_quiet_op; go_big_quiet_on)
            refine wpQuiet_nil ?_
            rintro w2 ⟨q, rfl⟩
            have hb := B3.out q.d q.os
            generalize grow (redrawn wr q.d) q.os = w2 at *
            clear rb rc eq ib ic B3 g1 g2 KC cU1 cU2
            go_wp2
            simp [bodyPost, results, Tryd.results19, go_sem]
            exact ⟨by first | exact HR.out | exact HR.out.symm, hb⟩
    · have hlt : i < L.length := by omega
      have hlt' : (i : Int) < (L.length : Int) := by omega
      obtain rfl : ea = some ⟨eb, eo, none⟩ := by
        rcases GE.out.1.2.1 with h | h
        · rw [h] at hlt; exact absurd hlt (Nat.not_lt_zero _)
        · exact h
      obtain rfl : ea2 = some ⟨eb2, eo2, none⟩ := by
        rcases GE.out.2.2.1 with h | h
        · rw [GL.out.1, h] at hlt; exact absurd hlt (Nat.not_lt_zero _)
        · exact h
      have B3 : Hid (∀ d os, Below w.heap.size w (grow (redrawn wr d) os)) := fun d os => B.trans ((below_regrown wr d os).mono B.size)
      have G1 : Hid (EnG w (L.getD i zEn) ∧ w.rangeAt eb (eo + i * 21) (enC (L.getD i zEn))) := GE.out.1.2.2 i hlt
      have G2 : Hid (EnG w (L2.getD i zEn) ∧ w.rangeAt eb2 (eo2 + i * 21) (enC (L2.getD i zEn))) := GE.out.2.2.2 i (by rw [← GL.out.1]; exact hlt)
      have NK : Hid ((L.getD i zEn).ks.length < 1000000000) := nK.out i hlt
      have NO : Hid (sameE (L.getD i zEn) (L2.getD i zEn) = false → eqL sameE zEn L L2 = false) := fun h => eqL_no hlt h
      have SS : Hid (∀ x, L.getD i zEn = x → ∀ y, L2.getD i zEn = y → ∀ d q, decide (x.adr = y.adr) = d → eqL eqB [] x.ks y.ks = q → sameE (L.getD i zEn) (L2.getD i zEn) = (d && q)) := fun x hx y hy d q h1 h2 => by show _ = _; rw [hx, hy, sameE, h1, h2]
      obtain ⟨x, hx⟩ : ∃ x, L.getD i zEn = x := ⟨_, rfl⟩
      obtain ⟨y, hy⟩ : ∃ y, L2.getD i zEn = y := ⟨_, rfl⟩
      obtain ⟨d, hd⟩ : ∃ d, decide (x.adr = y.adr) = d := ⟨_, rfl⟩
      obtain ⟨q, hq⟩ : ∃ q, eqL eqB [] x.ks y.ks = q := ⟨_, rfl⟩
      have HD : Hid (sameE (L.getD i zEn) (L2.getD i zEn) = (d && q)) := SS.out x hx y hy d q hd hq
      rw [hx] at G1 NK
      rw [hy] at G2
      have R1 : Hid (∀ W, Below w.heap.size w W → W.rangeAt eb (eo + i * 21) (hC x.adr) ∧ W.cell? ⟨eb, eo + i * 21 + 20, none⟩ = some (.slice x.a x.ks.length x.c)) := fun W BW => by
        have := range_app.1 (range_keep G1.out.2 BW)
        rw [hC_len, G1.out.1.1.1] at this
        exact ⟨this.1, this.2 0 _ rfl⟩
      have R2 : Hid (∀ W, Below w.heap.size w W → W.rangeAt eb2 (eo2 + i * 21) (hC y.adr) ∧ W.cell? ⟨eb2, eo2 + i * 21 + 20, none⟩ = some (.slice y.a y.ks.length y.c)) := fun W BW => by
        have := range_app.1 (range_keep G2.out.2 BW)
        rw [hC_len, G2.out.1.1.1] at this
        exact ⟨this.1, this.2 0 _ rfl⟩
      have rb : ∀ w', (∃ q : Regrown, w' = grow (redrawn wr q.d) q.os) → w'.rangeAt eb (eo + i * 21) (hC x.adr) := by rintro w' ⟨q, rfl⟩; exact (R1.out _ (B3.out q.d q.os)).1
      have rc : ∀ w', (∃ q : Regrown, w' = grow (redrawn wr q.d) q.os) → w'.rangeAt eb2 (eo2 + i * 21) (hC y.adr) := by rintro w' ⟨q, rfl⟩; exact (R2.out _ (B3.out q.d q.os)).1
      have g3 := fun d os => (R1.out _ (B3.out d os)).2
      have g4 := fun d os => (R2.out _ (B3.out d os)).2
      have g1 := fun d os => cell_regrown cE1 d os
      have g2 := fun d os => cell_regrown cE2 d os
      have ib : (Tryd.prog.info? 26).map (·.size) = some (hC x.adr).length := by rw [hC_len, G1.out.1.1.1]; exact size_ad
      have ic : (Tryd.prog.info? 26).map (·.size) = some (hC y.adr).length := by rw [hC_len, G2.out.1.1.1]; exact size_ad
      have eq : ∀ w, (Op.equalIn 10000 26 (.agg (hC x.adr).toArray) (.agg (hC y.adr).toArray)).run Tryd.prog w = .ok d w := fun w => by rw [← hd]; exact eq_ad G1.out.1.1.1 G2.out.1.1.1 w
      have sk : Hid (∀ d os, Calls Tryd.prog 34 #[.slice x.a x.ks.length x.c, .slice y.a y.ks.length y.c] (grow (redrawn wr d) os) fun e w' => e = .returned (.bool q) ∧ Below (grow (redrawn wr d) os).heap.size (grow (redrawn wr d) os) w') := fun d os => by
        have := rsameH_any NK.out _ (G1.out.1.keep (B3.out d os)).2 (G2.out.1.keep (B3.out d os)).2
        rw [hq] at this
        exact this
      have KC : Hid (∀ d os, ((grow (redrawn wr d) os).cell? ⟨b1, 42, none⟩ = some (.slice (some ⟨eb, eo, none⟩) L.length ec) ∧ (grow (redrawn wr d) os).cell? ⟨b2, 42, none⟩ = some (.slice (some ⟨eb2, eo2, none⟩) L2.length ec2)) ∧ ((grow (redrawn wr d) os).cell? ⟨b1, 48, none⟩ = some (.slice ua P.length uc) ∧ (grow (redrawn wr d) os).cell? ⟨b2, 48, none⟩ = some (.slice ua2 P2.length uc2))) := fun d os => ⟨⟨g1 d os, g2 d os⟩, cell_regrown CU.out.1 d os, cell_regrown CU.out.2 d os⟩
      clear h8 hi hx hy hd hq SS R1 R2
      generalize hC x.adr = ci at *
      generalize hC y.adr = di at *
      generalize x.ks.length = n3 at *
      generalize y.ks.length = n4 at *
      generalize x.a = a3 at *
      generalize y.a = a4 at *
      generalize x.c = c3 at *
      generalize y.c = c4 at *
      cases d with
      | false =>
        rw [NO.out (HD.out.trans (Bool.false_and q)), Bool.false_and] at HR
        go_wp2_with fail
        refine wp_region_quiet_below (by kernel_rfl) (by kernel_rfl) ?_
        repeat
          first
            | go_big_quiet_skip
            | (go_big_quiet_want; refine quiet_load_midT 26 _ rfl eb (eo + i * 21) rfl ci _ rb Tryd.underlying26 rfl ib ?_; simp only [Act.put, List.setIfInBounds_toArray, List.set_cons_succ, List.set_cons_zero]; go_big_quiet_on)
            | (go_big_quiet_want; refine quiet_load_midT 26 _ rfl eb2 (eo2 + i * 21) rfl di _ rc Tryd.underlying26 rfl ic ?_; simp only [Act.put, List.setIfInBounds_toArray, List.set_cons_succ, List.set_cons_zero]; go_big_quiet_on)
            | (go_big_quiet_want; go_big_quiet_op; go_big_quiet_on)
            | (go_big_quiet_want
               go_big_quiet_op
               apply Exists.intro
               refine ⟨fun p => ?_, ?_⟩
               · (go_at_call 34; with_reducible exact Calls.regrown_of (sk.out _ _))
               go_big_quiet_on)
        refine wpQuiet_nil ?_
        rintro w2 ⟨q, rfl⟩
        have hb := B3.out q.d q.os
        have hc := KC.out q.d q.os
        generalize grow (redrawn wr q.d) q.os = w2 at *
        clear rb rc eq ib ic B3 g1 g2 g3 g4 KC cE1 cE2 sk
        have HC : Hid ((w2.cell? ⟨b1, 42, none⟩ = some (.slice (some ⟨eb, eo, none⟩) L.length ec) ∧ w2.cell? ⟨b2, 42, none⟩ = some (.slice (some ⟨eb2, eo2, none⟩) L2.length ec2)) ∧ (w2.cell? ⟨b1, 48, none⟩ = some (.slice ua P.length uc) ∧ w2.cell? ⟨b2, 48, none⟩ = some (.slice ua2 P2.length uc2))) := hc
        clear hc
        go_wp2
        simp [bodyPost, results, Tryd.results19, go_sem]
        exact ⟨by first | exact HR.out | exact HR.out.symm, hb⟩
      | true =>
        cases q with
        | false =>
          rw [NO.out HD.out, Bool.false_and] at HR
          go_wp2_with fail
          refine wp_region_quiet_below (by kernel_rfl) (by kernel_rfl) ?_
          repeat
            first
              | go_big_quiet_skip
              | (go_big_quiet_want; refine quiet_load_midT 26 _ rfl eb (eo + i * 21) rfl ci _ rb Tryd.underlying26 rfl ib ?_; simp only [Act.put, List.setIfInBounds_toArray, List.set_cons_succ, List.set_cons_zero]; go_big_quiet_on)
              | (go_big_quiet_want; refine quiet_load_midT 26 _ rfl eb2 (eo2 + i * 21) rfl di _ rc Tryd.underlying26 rfl ic ?_; simp only [Act.put, List.setIfInBounds_toArray, List.set_cons_succ, List.set_cons_zero]; go_big_quiet_on)
              | (go_big_quiet_want; go_big_quiet_op; go_big_quiet_on)
              | (go_big_quiet_want
                 go_big_quiet_op
                 apply Exists.intro
                 refine ⟨fun p => ?_, ?_⟩
                 · (go_at_call 34; with_reducible exact Calls.regrown_of (sk.out _ _))
                 go_big_quiet_on)
          refine wpQuiet_nil ?_
          rintro w2 ⟨q, rfl⟩
          have hb := B3.out q.d q.os
          have hc := KC.out q.d q.os
          generalize grow (redrawn wr q.d) q.os = w2 at *
          clear rb rc eq ib ic B3 g1 g2 g3 g4 KC cE1 cE2 sk
          have HC : Hid ((w2.cell? ⟨b1, 42, none⟩ = some (.slice (some ⟨eb, eo, none⟩) L.length ec) ∧ w2.cell? ⟨b2, 42, none⟩ = some (.slice (some ⟨eb2, eo2, none⟩) L2.length ec2)) ∧ (w2.cell? ⟨b1, 48, none⟩ = some (.slice ua P.length uc) ∧ w2.cell? ⟨b2, 48, none⟩ = some (.slice ua2 P2.length uc2))) := hc
          clear hc
          go_wp2
          simp [bodyPost, results, Tryd.results19, go_sem]
          exact ⟨by first | exact HR.out | exact HR.out.symm, hb⟩
        | true =>
          go_wp2_with fail
          refine wp_region_quiet_below (by kernel_rfl) (by kernel_rfl) ?_
          repeat
            first
              | go_big_quiet_skip
              | (go_big_quiet_want; refine quiet_load_midT 26 _ rfl eb (eo + i * 21) rfl ci _ rb Tryd.underlying26 rfl ib ?_; simp only [Act.put, List.setIfInBounds_toArray, List.set_cons_succ, List.set_cons_zero]; go_big_quiet_on)
              | (go_big_quiet_want; refine quiet_load_midT 26 _ rfl eb2 (eo2 + i * 21) rfl di _ rc Tryd.underlying26 rfl ic ?_; simp only [Act.put, List.setIfInBounds_toArray, List.set_cons_succ, List.set_cons_zero]; go_big_quiet_on)
              | (go_big_quiet_want; go_big_quiet_op; go_big_quiet_on)
              | (go_big_quiet_want
                 go_big_quiet_op
                 apply Exists.intro
                 refine ⟨fun p => ?_, ?_⟩
                 · (go_at_call 34; with_reducible exact Calls.regrown_of (sk.out _ _))
                 go_big_quiet_on)
          refine wpQuiet_nil ?_
          rintro w2 ⟨q, rfl⟩
          have hb := B3.out q.d q.os
          have hc := KC.out q.d q.os
          generalize grow (redrawn wr q.d) q.os = w2 at *
          clear rb rc eq ib ic B3 g1 g2 g3 g4 KC cE1 cE2 sk
          have HC : Hid ((w2.cell? ⟨b1, 42, none⟩ = some (.slice (some ⟨eb, eo, none⟩) L.length ec) ∧ w2.cell? ⟨b2, 42, none⟩ = some (.slice (some ⟨eb2, eo2, none⟩) L2.length ec2)) ∧ (w2.cell? ⟨b1, 48, none⟩ = some (.slice ua P.length uc) ∧ w2.cell? ⟨b2, 48, none⟩ = some (.slice ua2 P2.length uc2))) := hc
          clear hc
          go_wp2
          go_roundg (L.length - (i + 1))
          case measure => have := HK.out.1; omega
          case rel => exact ⟨i + 1, rfl, hlt, by go_num, fun n hn => by
            by_cases c : n = i
            · subst c; exact HD.out
            · exact HK.out.2 n (by omega), hb, HC.out.1, HC.out.2⟩
end Go.Proofs.YtllfmlgnemkklaaDoor.tq
