import Derived.Test.YtaefmdofchjofaaXsI
/- Layer 21: the law StateForms. -/
namespace Go.Proofs.Ytaefmdofchjofaa
open Go.RowKit Go.Sort
theorem rep_doc21 (X : List Int) {i : Nat} (h : i < X.length) : X.reverse.getD i 0 = X.getD (X.length - 1 - i) 0 := by
  rw [List.getD, List.getD, List.getElem?_reverse h]
theorem lentEX_set21 (L : List Int) {i : Nat} (h : i < L.length) (u : Int) : (lentEX L).set i u = lentEX (L.set i u) := by
  rw [lentEX, lentEX, List.set_append_left _ _ h]
theorem famE21 {B n : Nat} {W : World} {V : Nat → Value} {F : Nat → List Int} (cs : Array Value) (t : TypeId) (hc : ∀ i, i < n → cs[i]? = some (V i)) (ho : ∀ i, i < n → OwnB B W (V i) (F i)) (dis : ∀ i j k, i < n → j < n → i ≠ j → (V i).ownBlock = some k → (V j).ownBlock ≠ some k) : Fam B (W.alloc (.cells cs t)) W.heap.size n V F 0 where
  cell := fun i hi => by rw [World.cell?_alloc_mark]; exact hc i hi
  rd := fun i hi => ((ho i hi).alloc _).rd
  own := fun i _ hi => (ho i hi).alloc _
  dis := dis
  far := fun i k hi hk e => by have := ((ho i hi).lt k hk).2; omega
theorem Many.belowE21 {B n : Nat} {w w' : World} {V : Nat → Value} (h : Many w w' n V) (hB : B ≤ w.heap.size) (hv : ∀ i k, i < n → (V i).ownBlock = some k → B ≤ k) : Below B w w' :=
  ⟨h.os, h.tape, h.output, h.size, fun k hk => h.block k (by omega) (fun i hi e => by have := hv i k hi e; omega)⟩
/-- Of three. -/
def pick3e21 {α : Type} (x y z : α) (i : Nat) : α := if i = 0 then x else if i = 1 then y else z
theorem byts_rev21 {X : List Int} (h : Byts X) : Byts X.reverse := fun i => by
  by_cases k : i < X.length
  · rw [rep_doc21 X k]; exact h _
  · rw [List.getD, List.getElem?_eq_none (by rw [List.length_reverse]; omega)]
    exact ⟨by decide, by decide⟩
theorem same21_own {B1 B2 : Nat} {v1 v2 : Value} {L : List Int} (hl : L.length ≤ 1000) (w : World) (h1 : OwnB B1 w v1 L) (h2 : OwnB B2 w v2 L) :
    Calls Try.prog 9 #[v1, v2] w fun e w' => e = .returned (.bool true) ∧ Below w.heap.size w w' := by
  obtain ⟨a1, g1, c1, rfl, _, z1, y1, _⟩ := h1.lies
  obtain ⟨a2, g2, c2, rfl, _, z2, y2, _⟩ := h2.lies
  have h := esame_anyX (c := c1) (c' := c2) (by omega) z1 z2 w y1 y2
  rw [decide_eq_true rfl] at h
  exact h
theorem wpList_load_midS {P : Program} {ops : Array Oper} {rest : List Oper} {op : Oper} {a : Act} {w : World} {Q : Exit → Act → World → Prop} (hw : Region.wanted op (yielded ops a.tmps) = true) (ty : TypeId) (x : Operand) (ho : op.op = .load ty x)
    (b o : Nat) (hx : a.eval x = .pointer (some ⟨b, o, none⟩)) (cs : List Value) (d : TypeDesc) (hc : w.rangeAt b o cs)
    (hu : P.underlying ty = some d) (hd : d.isRow = true) (hi : (P.info? ty).map (·.size) = some cs.length)
    (h : wpList P ops Q rest (a.put op.dst (.agg cs.toArray)) w) : wpList P ops Q (op :: rest) a w := by
  unfold wpList
  rw [if_pos hw]
  exact .inl (wp_load_mid ty x ho b o hx cs d hc hu hd hi h)
set_option maxHeartbeats 4000000 in
theorem lnum21_any (v : Int) (w : World) : Calls Try.prog 10 #[.int .i64 v] w fun e w' => e = .returned (.int .i64 v) ∧ Below w.heap.size w w' := by
  go_enter Try.func10, Try.ntmps10
  go_wp2
  simp [bodyPost, results, Try.results10, go_sem]
  exact Below.refl _ _
theorem built_300 : Try.prog.built 28 [(0, .int .u64 300)] = some (acM 300 0 (u8L (List.replicate 32 0)) (u8L (List.replicate 32 0))).toArray := by kernel_rfl
theorem wpList_build_300 {ops : Array Oper} {rest : List Oper} {o : Oper} {a : Act} {Q : Exit → Act → World → Prop} {w : World} {R : List Value} (hb : Try.prog.built 28 [(0, .int .u64 300)] = some R.toArray) (hgd : o.guard = none)
    (ho : o.op = .build 28 #[(0, .const (.int .u64 300))]) (h : wpList Try.prog ops Q rest (a.put o.dst (.agg R.toArray)) w) : wpList Try.prog ops Q (o :: rest) a w := by
  refine wpList_plain hgd fun K hK => ?_
  have e : ((#[(0, Operand.const (.int .u64 300))] : Array (Nat × Operand)).map fun (i, x) => (i, a.eval x)).toList = [(0, .int .u64 300)] := by simp [Act.eval]
  have hr := run_build (P := Try.prog) w 28 ((#[(0, Operand.const (.int .u64 300))] : Array (Nat × Operand)).map fun (i, x) => (i, a.eval x)) _ (by rw [e]; exact hb)
  have hr2 : (execOp a.eval o).run Try.prog w = .ok (.value (.agg R.toArray)) w := by
    unfold execOp
    simp only [ho, Sem.run_bind, hr, Result.andThen_ok]
    rfl
  unfold Oper.wp
  rw [hr2]
  exact hK _ _ h
theorem run_neq21 {M : Array Value} {w : World} (hE : (Op.equalIn 10000 28 (.agg M) (.agg M)).run Try.prog w = .ok true w) : (binOp .neq 28 (.agg M) (.agg M)).run Try.prog w = .ok (.bool false) w := by
  have e : binOp .neq 28 (.agg M) (.agg M) = (do pure (.bool (!(← Op.equal 28 (.agg M) (.agg M))))) := rfl
  have e2 : Op.equal 28 (.agg M) (.agg M) = Op.equalIn 10000 28 (.agg M) (.agg M) := rfl
  rw [e, Sem.run_bind, e2, hE]
  rfl
theorem wp_neq21 {o : Oper} {a : Act} {Q : Exit → Act → World → Prop} {K : Act → World → Prop} {w : World} {x y : Operand} {t : TypeId} (M : Array Value)
    (ho : o.op = .binOp .neq 28 x y t) (hx : a.eval x = .agg M) (hy : a.eval y = .agg M) (hE : (Op.equalIn 10000 28 (.agg M) (.agg M)).run Try.prog w = .ok true w) (h : K (a.put o.dst (.bool false)) w) : Oper.wp Try.prog o a w K Q := by
  have hr2 : (execOp a.eval o).run Try.prog w = .ok (.value (.bool false)) w := by
    have hg := run_eqGuard_agg (P := Try.prog) w .neq 28 x y M M (by kernel_rfl)
    have hb := run_neq21 hE
    unfold execOp
    simp only [ho, hx, hy, Sem.run_bind, hg, hb, Result.andThen_ok]
    rfl
  unfold Oper.wp
  rw [hr2]
  exact h
set_option maxRecDepth 100000 in
set_option maxHeartbeats 32000000 in
theorem forms_any {a : Option Addr} {bb ob c : Nat} {X : List Int} {n b : Int} {S C : List Int} (hn : Word n) (hb : Num b) (hS : S.length = 32) (hC : C.length = 32) (hm2 : X.length ≤ 140737488351232) (hX : Byts X) (lc : X.length ≤ c) (hnc : a = none → c = 0) (hZ : Az a bb ob X) (w : World) (hz : Bz w bb ob X) :
    Calls Try.prog 3 #[.agg (acM n b (u8L S) (u8L C)).toArray, .slice a X.length c] w fun e w' => e = .returned (.bool true) ∧ Below w.heap.size w w' := by
  have hY := byts_rev21 hX
  have r32 : (List.replicate 32 (0 : Int)).length = 32 := by simp
  have LP : Hid ((acX n b S C).length ≤ 1000) := acX_len hS hC
  have LQ : Hid ((acX 300 0 (List.replicate 32 0) (List.replicate 32 0)).length ≤ 1000) := acX_len r32 r32
  have PK : Hid (∀ W, Calls Try.prog 4 #[.agg (acM n b (u8L S) (u8L C)).toArray] W fun e w' => ∃ v, e = .returned (.tuple #[v, .int .i64 0]) ∧ OwnB W.heap.size w' v (acX n b S C) ∧ Below W.heap.size W w') := fun W => item_any hn hb hS hC W
  have RP : Hid (∀ W, Calls Try.prog 5 #[.agg (acM n b (u8L S) (u8L C)).toArray] W fun e w' => ∃ v, e = .returned (.tuple #[v, .int .i64 0]) ∧ OwnB W.heap.size w' v (acX n b S C) ∧ Below W.heap.size W w') := fun W => ritem21_any hn hS hC W
  have PK2 : Hid (∀ W, Calls Try.prog 4 #[.agg (acM 300 0 (u8L (List.replicate 32 0)) (u8L (List.replicate 32 0))).toArray] W fun e w' => ∃ v, e = .returned (.tuple #[v, .int .i64 0]) ∧ OwnB W.heap.size w' v (acX 300 0 (List.replicate 32 0) (List.replicate 32 0)) ∧ Below W.heap.size W w') := fun W => item_any (by constructor <;> decide) (by constructor <;> decide) r32 r32 W
  have RP2 : Hid (∀ W, Calls Try.prog 5 #[.agg (acM 300 0 (u8L (List.replicate 32 0)) (u8L (List.replicate 32 0))).toArray] W fun e w' => ∃ v, e = .returned (.tuple #[v, .int .i64 0]) ∧ OwnB W.heap.size w' v (acX 300 0 (List.replicate 32 0) (List.replicate 32 0)) ∧ Below W.heap.size W w') := fun W => ritem21_any (by constructor <;> decide) r32 r32 W
  have b3 := built_300
  have E1 := eq_pa X
  have E2 := eq_pa X.reverse
  have LE : Hid (∀ W, Below w.heap.size w W → Calls Try.prog 6 #[.slice a X.length c] W fun e w' => ∃ g cap, e = .returned (.slice (some ⟨g, 0, none⟩) X.length cap) ∧ OwnB W.heap.size w' (.slice (some ⟨g, 0, none⟩) (X.length + 70) cap) (lentEX X) ∧ Below W.heap.size W w') := fun W B => elent_anyX hm2 hZ W (hz.keep B)
  have UN : Hid (∀ W g cap, X.length ≤ cap → Bz W g 0 X → Calls Try.prog 7 #[.slice (some ⟨g, 0, none⟩) X.length cap] W fun e w' => e = .returned (.tuple #[.agg (paM X).toArray, .int .i64 (paE X)]) ∧ Below W.heap.size W w') := fun W g cap h1 h2 => parse_any hX h1 (fun x => by cases x) (.inr rfl) W h2
  have RU : Hid (∀ W, Below w.heap.size w W → Calls Try.prog 8 #[.slice a X.length c] W fun e w' => e = .returned (.tuple #[.agg (paM X).toArray, .int .i64 (paE X)]) ∧ Below W.heap.size W w') := fun W B => rparse21_any hX lc hnc hZ W (hz.keep B)
  have UN2 : Hid (∀ W g cap, X.length ≤ cap → Bz W g 0 X.reverse → Calls Try.prog 7 #[.slice (some ⟨g, 0, none⟩) X.length cap] W fun e w' => e = .returned (.tuple #[.agg (paM X.reverse).toArray, .int .i64 (paE X.reverse)]) ∧ Below W.heap.size W w') := fun W g cap h1 h2 => by
    have h := parse_any (c := cap) hY (by rw [List.length_reverse]; exact h1) (fun x => by cases x) (.inr rfl) W h2
    rw [List.length_reverse] at h
    exact h
  have CP : Hid (∀ W g cap, Bz W g 0 X.reverse → Calls Try.prog 12 #[.slice (some ⟨g, 0, none⟩) X.length cap] W fun e w' => ∃ v, e = .returned v ∧ OwnB W.heap.size w' v X.reverse ∧ Below W.heap.size W w') := fun W g cap h2 => by
    have h := ecopied_anyX (cd := cap) (by rw [List.length_reverse]; omega) (.inr rfl) W h2
    rw [List.length_reverse] at h
    exact h
  have RU2 : Hid (∀ W B' v, OwnB B' W v X.reverse → Calls Try.prog 8 #[v] W fun e w' => e = .returned (.tuple #[.agg (paM X.reverse).toArray, .int .i64 (paE X.reverse)]) ∧ Below W.heap.size W w') := fun W B' v h => by
    obtain ⟨a1, g1, c1, rfl, h1, z1, y1, _, _, h8⟩ := h.lies
    exact rparse21_any hY h1 h8 z1 W y1
  have ST : Hid (∀ W g cap, Below w.heap.size w W → X.length + 70 ≤ cap → Bz W g 0 (lentEX X) → Calls Try.prog 11 #[.slice (some ⟨g, 0, none⟩) X.length cap, .slice a X.length c] W fun e w' => e = .returned (.bool true) ∧ Below W.heap.size W w') := fun W g cap B h1 h2 => estill_anyX (by omega) hZ W h1 h2 (hz.keep B)
  have NU : Hid (∀ (v : Int) (w : World), Calls Try.prog 10 #[.int .i64 v] w fun e w' => e = .returned (.int .i64 v) ∧ Below w.heap.size w w') := fun v w => lnum21_any v w
  have HZ : Hid (Az a bb ob X ∧ ∀ W, Below w.heap.size w W → Bz W bb ob X) := ⟨hZ, fun W B => hz.keep B⟩
  have zh := acz_zero
  have ilN : (Try.prog.info? 28).map (·.size) = some (acM n b (u8L S) (u8L C)).length := by rw [acM_len (by rw [u8L, List.length_map]; exact hS) (by rw [u8L, List.length_map]; exact hC)]; exact ac_size
  have ilP : (Try.prog.info? 28).map (·.size) = some (paM X).length := by rw [paM_len]; exact ac_size
  have ilV : (Try.prog.info? 28).map (·.size) = some (paM X.reverse).length := by rw [paM_len]; exact ac_size
  have izP : (Try.prog.info? 28).map (·.size) = some (paM X).toArray.size := by rw [List.size_toArray, paM_len]; exact ac_size
  have izV : (Try.prog.info? 28).map (·.size) = some (paM X.reverse).toArray.size := by rw [List.size_toArray, paM_len]; exact ac_size
  have onP := paM_one X
  have onV := paM_one X.reverse
  have lzP : (paM X).toArray.size = acZ.toArray.size := by rw [List.size_toArray, List.size_toArray, paM_len, acZ_len]
  have lzV : (paM X.reverse).toArray.size = acZ.toArray.size := by rw [List.size_toArray, List.size_toArray, paM_len, acZ_len]
  obtain ⟨m, em⟩ : ∃ m, m = X.length := ⟨_, rfl⟩
  rw [← em] at hm2 lc LE UN RU UN2 CP ST ⊢
  have HM : Hid (X.length = m ∧ m ≤ 140737488351232) := ⟨em.symm, hm2⟩
  have lm : (m : Int) ≤ 140737488351232 := by omega
  have lmc : (m : Int) ≤ (c : Int) := by omega
  clear em hX hY hZ hz hm2 hn hb hS hC hnc r32
  generalize acM 300 0 (u8L (List.replicate 32 0)) (u8L (List.replicate 32 0)) = N3 at *
  generalize acX 300 0 (List.replicate 32 0) (List.replicate 32 0) = QL at *
  generalize acM n b (u8L S) (u8L C) = N at *
  generalize acX n b S C = PL at *
  generalize acZ = Z at *
  generalize paM X.reverse = V at *
  generalize paE X.reverse = vE at *
  generalize paM X = P at *
  generalize paE X = tE at *
  go_enter Try.func3, Try.ntmps3
  have rN := fun (o : Obj) => rangeBox (W := w) (M := N) (t := 28)
  have BX : Below w.heap.size w (w.alloc (.cells N.toArray 28)) := (Below.refl _ _).alloc (Nat.le_refl _) _
  have rN := rangeBox (W := w) (M := N) (t := 28)
  go_wp2_with (refine wpList_load_midS (by rfl) 28 _ rfl w.heap.size 0 rfl N _ rN Try.underlying28 rfl ilN ?_)
  refine calls_world (fun W => Below w.heap.size w W ∧ W.rangeAt w.heap.size 0 N) ⟨BX, rN⟩ ?_
  clear BX rN
  rintro W1 ⟨BB, rN⟩
  have z1 : Hid (w.heap.size ≤ W1.heap.size) := BB.size
  with_reducible refine (PK.out W1).mono ?_
  rintro e w2 ⟨v5, rfl, o5, hb⟩
  replace BB := BB.trans (hb.mono BB.size)
  replace rN := rangeT_keep rN hb
  have z2 := hb.size
  clear hb
  go_wp2_with (refine wpList_load_midS (by rfl) 28 _ rfl w.heap.size 0 rfl N _ rN Try.underlying28 rfl ilN ?_)
  with_reducible refine (RP.out w2).mono ?_
  rintro e W3 ⟨v7, rfl, o7, hb⟩
  replace BB := BB.trans (hb.mono BB.size)
  replace rN := rangeT_keep rN hb
  replace o5 := o5.keep hb
  have z3 := hb.size
  clear hb
  have S3 : Hid (w.heap.size ≤ W1.heap.size ∧ W1.heap.size ≤ w2.heap.size ∧ w2.heap.size ≤ W3.heap.size) := ⟨z1.out, z2, by omega⟩
  have I5 : Hid (∀ k, v5.ownBlock = some k → w.heap.size ≤ k ∧ k < W3.heap.size) := fun k hk => ⟨Nat.le_trans S3.out.1 (o5.lt k hk).1, (o5.lt k hk).2⟩
  have K3 : Hid (Below w.heap.size w W3 ∧ W3.rangeAt w.heap.size 0 N ∧ OwnB w.heap.size W3 v5 PL ∧ OwnB w.heap.size W3 v7 PL) := ⟨BB, rN, o5.base S3.out.1, o7.base (Nat.le_trans S3.out.1 S3.out.2.1)⟩
  clear rN o5 o7 S3 z1 z2 z3 W1 w2
  go_wp2_with fail
  with_reducible refine (LE.out W3 BB).mono ?_
  rintro e w5 ⟨g, cap, rfl, oG, B3⟩
  clear BB
  have lG : Hid (m + 70 ≤ cap ∧ W3.heap.size ≤ g) := by
    obtain ⟨a1, g1, c1, e1, h1, _⟩ := oG.lies
    injection e1 with _ _ e2
    rw [lentX_len, HM.out.1] at h1
    exact ⟨by omega, (oG.lt g rfl).1⟩
  have lcap : (m : Int) ≤ (cap : Int) := by have := lG.out; omega
  have ZG : Hid (∀ {W : World} {L : List Int}, L.length = m → OwnB W3.heap.size W (.slice (some ⟨g, 0, none⟩) (m + 70) cap) (lentEX L) → Bz W g 0 (lentEX L)) := fun {W L} hl h => fun i hi => by
    rw [Nat.zero_add]
    rw [lentX_len, hl] at hi
    exact h.cell (by rw [lentX_len, hl]) hi
  have UP : Hid (∀ W, Below W3.heap.size W3 W → Below w.heap.size w W) := fun W B => K3.out.1.trans (B.mono K3.out.1.size)
  go_wp2_with fail
  with_reducible refine (UN.out w5 g cap (by have := lG.out; omega) (ZG.out HM.out.1 oG).front).mono ?_
  rintro e w6 ⟨rfl, hb⟩
  replace B3 := B3.trans (hb.mono B3.size)
  replace oG := oG.keep hb
  clear hb
  have TH := there_new (W := w6) (b := w6.heap.size) (cs := Z.toArray) (t := 28) rfl (n := P.toArray.size) lzP
  go_wp2_with ((refine wpList_store_mid rfl 28 _ _ rfl w6.heap.size 0 P.toArray rfl rfl TH izP onP ?_); (refine wpList_worldA (fun U => Below w6.heap.size w6 U ∧ U.rangeAt w6.heap.size 0 P) (laid_in ((Below.refl _ _).alloc (Nat.le_refl _) _) (Nat.le_refl _) (by simpa using TH)) ?_); rintro U1 ⟨bU, rU⟩)
  replace B3 := B3.trans (bU.mono B3.size)
  replace oG := oG.keep bU
  clear bU TH
  generalize w6.heap.size = b10 at *
  clear w6 w5
  with_reducible refine (RU.out U1 (UP.out U1 B3)).mono ?_
  rintro e w8 ⟨rfl, hb⟩
  replace B3 := B3.trans (hb.mono B3.size)
  replace oG := oG.keep hb
  have h10 := rangeT_keep rU hb
  clear hb rU
  have TH := there_new (W := w8) (b := w8.heap.size) (cs := Z.toArray) (t := 28) rfl (n := P.toArray.size) lzP
  go_wp2_with ((refine wpList_store_mid rfl 28 _ _ rfl w8.heap.size 0 P.toArray rfl rfl TH izP onP ?_); (refine wpList_worldA (fun U => Below w8.heap.size w8 U ∧ U.rangeAt w8.heap.size 0 P) (laid_in ((Below.refl _ _).alloc (Nat.le_refl _) _) (Nat.le_refl _) (by simpa using TH)) ?_); rintro U2 ⟨bU, rU⟩)
  replace B3 := B3.trans (bU.mono B3.size)
  replace oG := oG.keep bU
  replace h10 := rangeT_keep h10 bU
  clear bU TH
  generalize w8.heap.size = b12 at *
  clear w8
  have o5 := K3.out.2.2.1.keep B3
  have o7 := K3.out.2.2.2.keep B3
  with_reducible refine (same21_own LP.out U2 o5 o7).mono ?_
  rintro e w9 ⟨rfl, hb⟩
  replace B3 := B3.trans (hb.mono B3.size)
  replace oG := oG.keep hb
  replace h10 := rangeT_keep h10 hb
  replace rU := rangeT_keep rU hb
  clear hb o5 o7
  go_wp2_with fail
  with_reducible refine (NU.out _ w9).mono ?_
  rintro e w10 ⟨rfl, hb⟩
  replace B3 := B3.trans (hb.mono B3.size)
  replace oG := oG.keep hb
  replace h10 := rangeT_keep h10 hb
  replace rU := rangeT_keep rU hb
  clear hb
  go_wp2_with first | (refine wpList_load_midS (by rfl) 28 _ rfl b10 0 rfl P _ h10 Try.underlying28 rfl ilP ?_) | (refine wpList_load_midS (by rfl) 28 _ rfl b12 0 rfl P _ rU Try.underlying28 rfl ilP ?_)
  with_reducible refine (NU.out _ w10).mono ?_
  rintro e w11 ⟨rfl, hb⟩
  replace B3 := B3.trans (hb.mono B3.size)
  replace oG := oG.keep hb
  clear hb h10 rU
  go_wp2_with fail
  with_reducible refine (ST.out w11 g cap (UP.out w11 B3) lG.out.1 (ZG.out HM.out.1 oG)).mono ?_
  rintro e w12 ⟨rfl, hb⟩
  replace B3 := B3.trans (hb.mono B3.size)
  replace oG := oG.keep hb
  clear hb w11 w10 w9
  go_wp2_with fail
  go_loopg [14] m (fun k iv wr => ∃ i : Nat, k = m - i ∧ i ≤ m ∧ iv = .int .i64 i ∧ OwnB W3.heap.size wr (.slice (some ⟨g, 0, none⟩) (m + 70) cap) (lentEX (partw X.reverse X i)) ∧ Below W3.heap.size W3 wr)
  case atStart => exact ⟨0, rfl, Nat.zero_le _, rfl, by rw [partw_zero]; exact oG, B3⟩
  case round =>
    clear oG B3 w12
    obtain ⟨i, hk, hi, rfl, oG, B3⟩ := hrel
    have HK : Hid (gk = m - i) := hk
    clear hk
    by_cases h8 : i = m
    · have h8' := h8.symm
      subst h8'
      have lr : Hid (X.reverse.length = m) := by show _ = _; rw [List.length_reverse]; exact HM.out.1
      have oR : OwnB W3.heap.size wr (.slice (some ⟨g, 0, none⟩) (m + 70) cap) (lentEX X.reverse) := by
        have h := oG
        rw [show partw X.reverse X m = X.reverse from by rw [← HM.out.1]; exact partw_all (by rw [List.length_reverse])] at h
        exact h
      clear oG HK
      go_wp2_with fail
      with_reducible refine (UN2.out wr g cap (by have := lG.out; omega) (ZG.out lr.out oR).front).mono ?_
      rintro e w12 ⟨rfl, hb⟩
      replace B3 := B3.trans (hb.mono B3.size)
      replace oR := oR.keep hb
      clear hb
      have TH := there_new (W := w12) (b := w12.heap.size) (cs := Z.toArray) (t := 28) rfl (n := V.toArray.size) lzV
      go_wp2_with ((refine wpList_store_mid rfl 28 _ _ rfl w12.heap.size 0 V.toArray rfl rfl TH izV onV ?_); (refine wpList_worldA (fun U => Below w12.heap.size w12 U ∧ U.rangeAt w12.heap.size 0 V) (laid_in ((Below.refl _ _).alloc (Nat.le_refl _) _) (Nat.le_refl _) (by simpa using TH)) ?_); rintro U3 ⟨bU, rU⟩)
      replace B3 := B3.trans (bU.mono B3.size)
      replace oR := oR.keep bU
      clear bU TH
      generalize w12.heap.size = b15 at *
      clear w12
      with_reducible refine (CP.out U3 g cap (ZG.out lr.out oR).front).mono ?_
      rintro e w14 ⟨v96, rfl, o96, hb⟩
      replace B3 := B3.trans (hb.mono B3.size)
      have h15 := rangeT_keep rU hb
      clear hb oR rU
      go_wp2_with fail
      with_reducible refine (RU2.out w14 _ v96 o96).mono ?_
      rintro e w15 ⟨rfl, hb⟩
      replace B3 := B3.trans (hb.mono B3.size)
      replace h15 := rangeT_keep h15 hb
      clear hb o96
      have TH := there_new (W := w15) (b := w15.heap.size) (cs := Z.toArray) (t := 28) rfl (n := V.toArray.size) lzV
      have rN0 := rangeT_keep K3.out.2.1 B3
      go_wp2_with first | (refine wpList_load_midS (by rfl) 28 _ rfl w.heap.size 0 rfl N _ rN Try.underlying28 rfl ilN ?_) | (((refine wpList_store_mid rfl 28 _ _ rfl w15.heap.size 0 V.toArray rfl rfl TH izV onV ?_); (refine wpList_worldA (fun U => Below w15.heap.size w15 U ∧ U.rangeAt w15.heap.size 0 V) (laid_in ((Below.refl _ _).alloc (Nat.le_refl _) _) (Nat.le_refl _) (by simpa using TH)) ?_); rintro U4 ⟨bU, rU⟩); (have rN := rangeT_keep rN0 bU))
      replace B3 := B3.trans (bU.mono B3.size)
      replace h15 := rangeT_keep h15 bU
      have h17 := rU
      clear bU TH rU rN0
      generalize w15.heap.size = b17 at *
      clear w15
      have z17 : Hid (W3.heap.size ≤ U4.heap.size) := B3.size
      with_reducible refine (PK.out U4).mono ?_
      rintro e w18 ⟨v19, rfl, o19, hb⟩
      replace B3 := B3.trans (hb.mono B3.size)
      replace h15 := rangeT_keep h15 hb
      replace h17 := rangeT_keep h17 hb
      have z18 : Hid (U4.heap.size ≤ w18.heap.size) := hb.size
      have I19 : Hid (∀ k, v19.ownBlock = some k → U4.heap.size ≤ k ∧ k < w18.heap.size) := fun k hk => o19.lt k hk
      clear hb rN
      go_wp2_with (refine wpList_build_300 b3 rfl rfl ?_)
      with_reducible refine (PK2.out w18).mono ?_
      rintro e w19 ⟨v21, rfl, o21, hb⟩
      replace B3 := B3.trans (hb.mono B3.size)
      replace h15 := rangeT_keep h15 hb
      replace h17 := rangeT_keep h17 hb
      replace o19 := o19.keep hb
      have z19 : Hid (w18.heap.size ≤ w19.heap.size) := hb.size
      have I21 : Hid (∀ k, v21.ownBlock = some k → w18.heap.size ≤ k ∧ k < w19.heap.size) := fun k hk => o21.lt k hk
      clear hb
      go_wp2_with (refine wpList_build_300 b3 rfl rfl ?_)
      with_reducible refine (RP2.out w19).mono ?_
      rintro e w20 ⟨v23, rfl, o23, hb⟩
      replace B3 := B3.trans (hb.mono B3.size)
      replace h15 := rangeT_keep h15 hb
      replace h17 := rangeT_keep h17 hb
      replace o19 := o19.keep hb
      replace o21 := o21.keep hb
      clear hb
      have o5 := K3.out.2.2.1.keep B3
      have o7 := K3.out.2.2.2.keep B3
      obtain ⟨a5, _, c5, e5, _⟩ := o5.lies
      obtain ⟨a19, _, c19, e19, _⟩ := o19.lies
      obtain ⟨a21, _, c21, e21, _⟩ := o21.lies
      subst e5 e19 e21
      go_wp2_with first | (refine wpList_load_midS (by rfl) 28 _ rfl b15 0 rfl V _ h15 Try.underlying28 rfl ilV ?_) | (refine wpList_load_midS (by rfl) 28 _ rfl b17 0 rfl V _ h17 Try.underlying28 rfl ilV ?_)
      refine wp_neq21 (x := .tmp 117) (y := .tmp 118) V.toArray rfl (by rfl) (by rfl) (E2 _) ?_
      clear h15 h17
      simp only [Act.put, List.setIfInBounds_toArray, List.set_cons_succ, List.set_cons_zero]
      go_wp2_with fail
      with_reducible refine (NU.out _ w20).mono ?_
      rintro e w21 ⟨rfl, hb⟩
      replace B3 := B3.trans (hb.mono B3.size)
      replace o5 := o5.keep hb
      replace o7 := o7.keep hb
      replace o19 := o19.keep hb
      replace o21 := o21.keep hb
      replace o23 := o23.keep hb
      clear hb
      go_wp2_with fail
      with_reducible refine (same21_own LP.out w21 o19 o7).mono ?_
      rintro e w22 ⟨rfl, hb⟩
      replace B3 := B3.trans (hb.mono B3.size)
      replace o5 := o5.keep hb
      replace o19 := o19.keep hb
      replace o21 := o21.keep hb
      replace o23 := o23.keep hb
      clear hb o7
      go_wp2_with fail
      with_reducible refine (NU.out _ w22).mono ?_
      rintro e w22b ⟨rfl, hb⟩
      replace B3 := B3.trans (hb.mono B3.size)
      replace o5 := o5.keep hb
      replace o19 := o19.keep hb
      replace o21 := o21.keep hb
      replace o23 := o23.keep hb
      clear hb
      go_wp2_with fail
      with_reducible refine (same21_own LQ.out w22b o21 o23).mono ?_
      rintro e w23 ⟨rfl, hb⟩
      replace B3 := B3.trans (hb.mono B3.size)
      replace o5 := o5.keep hb
      replace o19 := o19.keep hb
      replace o21 := o21.keep hb
      clear hb o23
      go_wp2_with fail
      with_reducible refine (NU.out _ w23).mono ?_
      rintro e w24 ⟨rfl, hb⟩
      replace B3 := B3.trans (hb.mono B3.size)
      replace o5 := o5.keep hb
      replace o19 := o19.keep hb
      replace o21 := o21.keep hb
      clear hb
      go_wp2_with fail
      have BB := UP.out w24 B3
      have l0' : w.heap.size ≤ W3.heap.size := K3.out.1.size
      have hf := famE21 (B := w.heap.size) (n := 3) (W := w24) (V := pick3e21 (.slice a5 PL.length c5) (.slice a19 PL.length c19) (.slice a21 QL.length c21)) (F := pick3e21 PL PL QL) #[.slice a5 PL.length c5, .slice a19 PL.length c19, .slice a21 QL.length c21] 29
        (fun i hi => by
          have e : i = 0 ∨ i = 1 ∨ i = 2 := by omega
          rcases e with rfl | rfl | rfl <;> rfl)
        (fun i hi => by
          have e : i = 0 ∨ i = 1 ∨ i = 2 := by omega
          have := z17.out
          have := z18.out
          rcases e with rfl | rfl | rfl
          · exact o5
          · exact o19.base (by omega)
          · exact o21.base (by omega))
        (fun i j k hi hj ne h1 h2 => by
          have e : i = 0 ∨ i = 1 ∨ i = 2 := by omega
          have e' : j = 0 ∨ j = 1 ∨ j = 2 := by omega
          have := z17.out
          have := z18.out
          rcases e with rfl | rfl | rfl <;> rcases e' with rfl | rfl | rfl <;> first | exact absurd rfl ne | (have q1 := I5.out k h1; have q2 := I19.out k h2; omega) | (have q1 := I5.out k h1; have q2 := I21.out k h2; omega) | (have q1 := I19.out k h1; have q2 := I5.out k h2; omega) | (have q1 := I19.out k h1; have q2 := I21.out k h2; omega) | (have q1 := I21.out k h1; have q2 := I5.out k h2; omega) | (have q1 := I21.out k h1; have q2 := I19.out k h2; omega))
      have hv : Hid (∀ i k, i < 3 → (pick3e21 (Value.slice a5 PL.length c5) (.slice a19 PL.length c19) (.slice a21 QL.length c21) i).ownBlock = some k → w.heap.size ≤ k ∧ k < w24.heap.size) := fun i k hi hk => by
        have e : i = 0 ∨ i = 1 ∨ i = 2 := by omega
        have := z17.out
        have := z18.out
        rcases e with rfl | rfl | rfl
        · exact ⟨(I5.out k hk).1, (o5.lt k hk).2⟩
        · have q := o19.lt k hk; exact ⟨by omega, q.2⟩
        · have q := o21.lt k hk; exact ⟨by omega, q.2⟩
      have BB2 : Below w.heap.size w (w24.alloc (.cells #[.slice a5 PL.length c5, .slice a19 PL.length c19, .slice a21 QL.length c21] 29)) := BB.alloc BB.size _
      refine calls_world (fun W => Fam w.heap.size W w24.heap.size 3 (pick3e21 (Value.slice a5 PL.length c5) (.slice a19 PL.length c19) (.slice a21 QL.length c21)) (pick3e21 PL PL QL) 0 ∧ Below w.heap.size w W ∧ w24.heap.size < W.heap.size) ⟨hf, BB2, by simp⟩ ?_
      clear hf BB2 o5 o19 o21 BB B3
      rintro W25 ⟨hf, BB, hs⟩
      with_reducible refine (apm_any (cl := 3) (by decide) (fun i hi => by
          have h1 := LP.out
          have h2 := LQ.out
          have e : i = 0 ∨ i = 1 ∨ i = 2 := by omega
          rcases e with rfl | rfl | rfl <;> simp [pick3e21] <;> omega) W25 BB.size hs hf (fun i k hi hk => by have := hv.out i k hi hk; omega)).mono ?_
      rintro e W26 ⟨rfl, hmn⟩
      have B9 : Hid (Below w.heap.size w W26) := BB.trans (hmn.belowE21 BB.size (fun i k hi hk => (hv.out i k hi hk).1))
      clear hf hmn BB hs
      go_wp2
      simp [bodyPost, results, Try.results3, go_sem]
      exact B9.out
    · have hlt : i < m := by omega
      have hlt' : (i : Int) < (m : Int) := by omega
      have pl : (partw X.reverse X i).length = m := by rw [partw_len (by rw [List.length_reverse]), HM.out.1]
      obtain rfl := HZ.out.1.cons (by rw [HM.out.1]; omega)
      have gx := HZ.out.2 wr (UP.out wr B3) (m - 1 - i) (by rw [HM.out.1]; omega)
      have er : X.getD (m - 1 - i) 0 = X.reverse.getD i 0 := by rw [rep_doc21 X (by rw [HM.out.1]; exact hlt), HM.out.1]
      rw [er] at gx
      have cg := oG.cell (by rw [lentX_len, pl]) (i := i) (by omega)
      have fg := oG.free (by rw [lentX_len, pl]) i
      have hset := oG.set (by rw [lentX_len, pl]) i (X.reverse.getD i 0)
      have NX : Hid (OwnB W3.heap.size (wr.setCell ⟨g, i, none⟩ (.int .u8 (X.reverse.getD i 0))) (.slice (some ⟨g, 0, none⟩) (m + 70) cap) (lentEX (partw X.reverse X (i + 1))) ∧ Below W3.heap.size W3 (wr.setCell ⟨g, i, none⟩ (.int .u8 (X.reverse.getD i 0)))) := by
        refine ⟨?_, B3.setCell lG.out.2 _⟩
        have h := hset.1
        rw [lentEX_set21 _ (by omega), partw_set (by rw [List.length_reverse]) (by rw [HM.out.1]; exact hlt)] at h
        exact h
      clear hset oG B3 er pl
      generalize X.reverse.getD i 0 = x at *
      generalize (lentEX (partw X.reverse X i)).getD i 0 = x0 at *
      have e1 : ((m : Int) - 1 - (i : Int)).toNat = m - 1 - i := by omega
      have e2 : (0 : Int) ≤ (m : Int) - 1 - (i : Int) := by omega
      have e3 : (m : Int) - 1 - (i : Int) < (m : Int) := by omega
      go_wp2
      go_roundg (m - (i + 1))
      case measure => have := HK.out; omega
      case rel => exact ⟨i + 1, rfl, by omega, by go_num, NX.out⟩
end Go.Proofs.Ytaefmdofchjofaa
