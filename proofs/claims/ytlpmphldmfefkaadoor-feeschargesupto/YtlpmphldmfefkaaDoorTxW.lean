import Derived.Test.YtlpmphldmfefkaaDoorTxQ
import Derived.Test.YtlpmphldmfefkaaDoorTxS
import Derived.Deep.MidRow
/- Layer 15: fields that a type does not have. -/
namespace Go.Proofs.YtlpmphldmfefkaaDoor
open Go.RowKit Go.Sort
open tq
theorem eq_zeroT {m : Int} (hm : Num m) (w : World) : (Op.equalIn 10000 24 (.agg #[.int .u64 (l0 m), .int .u64 (l1 m), .int .u64 (l2 m), .int .u64 (l3 m)]) (.agg #[.int .u64 0, .int .u64 0, .int .u64 0, .int .u64 0])).run Tryd.prog w = .ok (decide (m = 0)) w := by
  have h := eq_num hm (show Num 0 from ⟨by decide, by decide⟩) w
  obtain ⟨z0, z1, z2, z3⟩ := zero_limbs
  rw [z0, z1, z2, z3] at h
  exact h
theorem txb_one {w : World} {t : Txv} (h : t.to.length = 20) (ty : TypeId) : TxB (w.alloc (.cells (txC t).toArray ty)) w.heap.size t := TxB.new h
/-- Is the field blank? -/
def blankT (t : Txv) (f : Int) : Bool :=
  if f = 2 then decide (t.pr = 0) else if f = 3 then decide (t.ti = 0) else if f = 4 then decide (t.ca = 0) else if f = 9 then decide (t.El.length = 0) else if f = 10 then decide (t.bc = 0) else if f = 11 then decide (t.Hsl.length = 0) else if f = 12 then decide (t.Ul.length = 0) else true
set_option maxRecDepth 100000 in
set_option maxHeartbeats 4000000 in
theorem isBlank_any {W0 : World} {t : Txv} {f : Int} (hG : TxG W0 t) (w : World) :
    Calls Tryd.prog 65 #[.agg (txC t).toArray, .int .i64 f] w fun e w' => e = .returned (.bool (blankT t f)) ∧ Below w.heap.size w w' := by
  have h20 := hG.to.1
  have hz := build_zero
  by_cases c2 : f = 2
  · rw [show blankT t f = decide (t.pr = 0) by unfold blankT; rw [if_pos c2]]
    subst c2
    have he := eq_zeroT hG.pr
    have g := (txb_one (w := w) h20 32).pr
    clear hG h20
    generalize decide (t.pr = 0) = z at *
    generalize txC t = M at *
    go_enter Tryd.func65, Tryd.ntmps65
    go_wp2
    simp [bodyPost, results, Tryd.results65, go_sem]
    repeat (first | with_reducible exact Below.refl _ _ | with_reducible refine Below.drew ?_ | with_reducible refine Below.alloc ?_ (by first | omega | (simp; done) | (simp; omega)) _)
  by_cases c3 : f = 3
  · rw [show blankT t f = decide (t.ti = 0) by unfold blankT; rw [if_neg c2, if_pos c3]]
    subst c3
    have he := eq_zeroT hG.ti
    have g := (txb_one (w := w) h20 32).ti
    clear hG h20
    generalize decide (t.ti = 0) = z at *
    generalize txC t = M at *
    go_enter Tryd.func65, Tryd.ntmps65
    go_wp2
    simp [bodyPost, results, Tryd.results65, go_sem]
    repeat (first | with_reducible exact Below.refl _ _ | with_reducible refine Below.drew ?_ | with_reducible refine Below.alloc ?_ (by first | omega | (simp; done) | (simp; omega)) _)
  by_cases c4 : f = 4
  · rw [show blankT t f = decide (t.ca = 0) by unfold blankT; rw [if_neg c2, if_neg c3, if_pos c4]]
    subst c4
    have he := eq_zeroT hG.ca
    have g := (txb_one (w := w) h20 32).ca
    clear hG h20
    generalize decide (t.ca = 0) = z at *
    generalize txC t = M at *
    go_enter Tryd.func65, Tryd.ntmps65
    go_wp2
    simp [bodyPost, results, Tryd.results65, go_sem]
    repeat (first | with_reducible exact Below.refl _ _ | with_reducible refine Below.drew ?_ | with_reducible refine Below.alloc ?_ (by first | omega | (simp; done) | (simp; omega)) _)
  by_cases c9 : f = 9
  · rw [show blankT t f = decide (t.El.length = 0) by unfold blankT; rw [if_neg c2, if_neg c3, if_neg c4, if_pos c9]]
    subst c9
    have g := (txb_one (w := w) h20 32).E
    have he : (((t.El.length : Nat) : Int) == 0) = decide (t.El.length = 0) := by
      by_cases h : t.El.length = 0
      · rw [h]; rfl
      · rw [decide_eq_false h]; exact beq_eq_false_iff_ne.2 (by omega)
    clear hG h20
    generalize txC t = M at *
    generalize t.El.length = m at *
    go_enter Tryd.func65, Tryd.ntmps65
    go_wp2
    simp [bodyPost, results, Tryd.results65, go_sem]
    repeat (first | with_reducible exact Below.refl _ _ | with_reducible refine Below.drew ?_ | with_reducible refine Below.alloc ?_ (by first | omega | (simp; done) | (simp; omega)) _)
  by_cases c10 : f = 10
  · rw [show blankT t f = decide (t.bc = 0) by unfold blankT; rw [if_neg c2, if_neg c3, if_neg c4, if_neg c9, if_pos c10]]
    subst c10
    have he := eq_zeroT hG.bc
    have g := (txb_one (w := w) h20 32).bc
    clear hG h20
    generalize decide (t.bc = 0) = z at *
    generalize txC t = M at *
    go_enter Tryd.func65, Tryd.ntmps65
    go_wp2
    simp [bodyPost, results, Tryd.results65, go_sem]
    repeat (first | with_reducible exact Below.refl _ _ | with_reducible refine Below.drew ?_ | with_reducible refine Below.alloc ?_ (by first | omega | (simp; done) | (simp; omega)) _)
  by_cases c11 : f = 11
  · rw [show blankT t f = decide (t.Hsl.length = 0) by unfold blankT; rw [if_neg c2, if_neg c3, if_neg c4, if_neg c9, if_neg c10, if_pos c11]]
    subst c11
    have g := (txb_one (w := w) h20 32).Hs
    have he : (((t.Hsl.length : Nat) : Int) == 0) = decide (t.Hsl.length = 0) := by
      by_cases h : t.Hsl.length = 0
      · rw [h]; rfl
      · rw [decide_eq_false h]; exact beq_eq_false_iff_ne.2 (by omega)
    clear hG h20
    generalize txC t = M at *
    generalize t.Hsl.length = m at *
    go_enter Tryd.func65, Tryd.ntmps65
    go_wp2
    simp [bodyPost, results, Tryd.results65, go_sem]
    repeat (first | with_reducible exact Below.refl _ _ | with_reducible refine Below.drew ?_ | with_reducible refine Below.alloc ?_ (by first | omega | (simp; done) | (simp; omega)) _)
  by_cases c12 : f = 12
  · rw [show blankT t f = decide (t.Ul.length = 0) by unfold blankT; rw [if_neg c2, if_neg c3, if_neg c4, if_neg c9, if_neg c10, if_neg c11, if_pos c12]]
    subst c12
    have g := (txb_one (w := w) h20 32).U
    have he : (((t.Ul.length : Nat) : Int) == 0) = decide (t.Ul.length = 0) := by
      by_cases h : t.Ul.length = 0
      · rw [h]; rfl
      · rw [decide_eq_false h]; exact beq_eq_false_iff_ne.2 (by omega)
    clear hG h20
    generalize txC t = M at *
    generalize t.Ul.length = m at *
    go_enter Tryd.func65, Tryd.ntmps65
    go_wp2
    simp [bodyPost, results, Tryd.results65, go_sem]
    repeat (first | with_reducible exact Below.refl _ _ | with_reducible refine Below.drew ?_ | with_reducible refine Below.alloc ?_ (by first | omega | (simp; done) | (simp; omega)) _)
  · rw [show blankT t f = true by unfold blankT; rw [if_neg c2, if_neg c3, if_neg c4, if_neg c9, if_neg c10, if_neg c11, if_neg c12]]
    clear hG h20
    generalize txC t = M at *
    go_enter Tryd.func65, Tryd.ntmps65
    go_wp2
    simp [bodyPost, results, Tryd.results65, go_sem]
    repeat (first | with_reducible exact Below.refl _ _ | with_reducible refine Below.drew ?_ | with_reducible refine Below.alloc ?_ (by first | omega | (simp; done) | (simp; omega)) _)
end Go.Proofs.YtlpmphldmfefkaaDoor

/- Layer 15: fields that a type does not have: the loop. -/
namespace Go.Proofs.YtlpmphldmfefkaaDoor
open Go.RowKit Go.Sort
open tq
/-- Field number f is filled, and the type does not have it. -/
def strayT (t : Txv) (k : Nat) (f : Nat) : Bool := !decide ((f : Int) ∈ rowsT.getD k []) && !blankT t f
def straysT (t : Txv) (k : Nat) : Bool := (List.range 16).any (strayT t k)
theorem size_tx {t : Txv} (h : t.to.length = 20) : (Tryd.prog.info? 32).map (·.size) = some (txC t).length := by rw [txC_len h]; kernel_rfl
/-- A load of a row under a guard that holds. -/
theorem wpList_load_midG {P : Program} {ops : Array Oper} {rest : List Oper} {op : Oper} {a : Act} {w : World} {Q : Exit → Act → World → Prop} (hw : Region.wanted op (yielded ops a.tmps) = true) (ty : TypeId) (x : Operand) (ho : op.op = .load ty x)
    (b o : Nat) (hx : a.eval x = .pointer (some ⟨b, o, none⟩)) (cs : List Value) (d : TypeDesc) (hc : w.rangeAt b o cs)
    (hu : P.underlying ty = some d) (hd : d.isRow = true) (hi : (P.info? ty).map (·.size) = some cs.length)
    (h : wpList P ops Q rest (a.put op.dst (.agg cs.toArray)) w) : wpList P ops Q (op :: rest) a w := by
  unfold wpList
  rw [if_pos hw]
  exact .inl (wp_load_mid ty x ho b o hx cs d hc hu hd hi h)
set_option maxRecDepth 100000 in
set_option maxHeartbeats 4000000 in
theorem hasStrays_any {W0 : World} {t : Txv} {k : Nat} (hG : TxG W0 t) (ek : t.ty = (k : Int)) (hk : k < 5) (w : World) (hR : Rws w) :
    Calls Tryd.prog 35 #[.agg (txC t).toArray] w fun e w' => e = .returned (.bool (straysT t k)) ∧ Below w.heap.size w w' := by
  have h20 := hG.to.1
  have ST : Hid (∀ f : Nat, ∀ W, Rws W → Calls Tryd.prog 64 #[.int .i64 (k : Int), .int .i64 (f : Int)] W fun e w' => e = .returned (.bool (decide ((f : Int) ∈ rowsT.getD k []))) ∧ Below W.heap.size W w') := fun f W h => stands_any hk W h
  have BK : Hid (∀ f : Nat, ∀ W, Calls Tryd.prog 65 #[.agg (txC t).toArray, .int .i64 (f : Int)] W fun e w' => e = .returned (.bool (blankT t (f : Int))) ∧ Below W.heap.size W w') := fun f W => isBlank_any hG W
  have sz := size_tx h20
  have nB := fun ty => txb_one (w := w) h20 ty
  have tyB : ∀ ty W, Below (w.heap.size + 1) (w.alloc (.cells (txC t).toArray ty)) W → W.cell? ⟨w.heap.size, 0, none⟩ = some (.int .i64 (k : Int)) ∧ W.rangeAt w.heap.size 0 (txC t) := fun ty W B => by
    have h := (nB ty).keep (by rw [World.size_alloc]; exact B)
    exact ⟨by rw [← ek]; exact h.ty, h.all⟩
  have TB : Hid (∀ ty W, Below (w.heap.size + 1) (w.alloc (.cells (txC t).toArray ty)) W → W.cell? ⟨w.heap.size, 0, none⟩ = some (.int .i64 (k : Int)) ∧ W.rangeAt w.heap.size 0 (txC t)) := tyB
  clear nB tyB hG h20 ek
  generalize txC t = M at *
  go_enter Tryd.func35, Tryd.ntmps35
  go_wp2_with fail
  go_loopg [3, 4] 16 (fun q x i wr => ∃ j : Nat, q = 16 - j ∧ j ≤ 16 ∧ i = .int .i64 (j : Int) ∧ (∀ a, a < j → strayT t k a = false) ∧ Below (w.heap.size + 1) (w.alloc (.cells M.toArray 32)) wr ∧ Rws wr)
  case atStart => exact ⟨0, rfl, Nat.zero_le _, rfl, fun a ha => absurd ha (Nat.not_lt_zero _), Below.refl _ _, hR.keep ((Below.refl _ _).alloc (Nat.le_refl _) _)⟩
  case round =>
    clear hR
    obtain ⟨j, hq, hj, rfl, hno, hB, hRw⟩ := hrel
    have HN : Hid (gk = 16 - j ∧ (∀ a, a < j → strayT t k a = false)) := ⟨hq, hno⟩
    have HB : Hid (Below (w.heap.size + 1) (w.alloc (.cells M.toArray 32)) wr ∧ Rws wr) := ⟨hB, hRw⟩
    have BW : Below w.heap.size w wr := ((Below.refl _ _).alloc (Nat.le_refl _) _).trans (hB.mono (by omega))
    have HW : Hid (Below w.heap.size w wr) := BW
    clear hq hno hB hRw BW
    by_cases e : j = 16
    · have dn : straysT t k = false := by
        unfold straysT
        rw [List.any_eq_false]
        intro a ha
        rw [HN.out.2 a (by have := List.mem_range.1 ha; omega)]
        exact Bool.false_ne_true
      subst e
      go_wp2
      simp [bodyPost, results, Tryd.results35, go_sem, dn]
      exact HW.out
    · have hlt : j < 16 := by omega
      have b1 : (j : Int) < 16 := by omega
      have ty := (TB.out _ _ HB.out.1).1
      go_wp2_with fail
      refine (ST.out j _ HB.out.2).mono ?_
      rintro e w3 ⟨rfl, hb⟩
      have B3 : Hid (Below (w.heap.size + 1) (w.alloc (.cells M.toArray 32)) w3 ∧ Rws w3 ∧ Below w.heap.size w w3) := ⟨HB.out.1.trans (hb.mono (by have := HB.out.1.size; simp at this; omega)), HB.out.2.keep hb, HW.out.trans (hb.mono HW.out.size)⟩
      have ES : Hid (strayT t k j = (!decide ((j : Int) ∈ rowsT.getD k []) && !blankT t j)) := rfl
      clear hb HB HW ty
      generalize decide ((j : Int) ∈ rowsT.getD k []) = s at *
      cases s with
      | true =>
        go_wp2
        go_roundg (16 - (j + 1))
        case measure => have := HN.out.1; omega
        case rel => exact ⟨j + 1, rfl, by omega, by go_num, fun a ha => by
          by_cases c : a = j
          · subst c; rw [ES.out]; rfl
          · exact HN.out.2 a (by omega), B3.out.1, B3.out.2.1⟩
      | false =>
        have rB := (TB.out _ _ B3.out.1).2
        go_wp2_with (refine wpList_load_midG (by kernel_rfl) 32 (.tmp 1) rfl w.heap.size 0 rfl M _ rB Tryd.underlying32 rfl sz ?_)
        refine (BK.out j _).mono ?_
        rintro e w4 ⟨rfl, hb⟩
        have B4 : Hid (Below (w.heap.size + 1) (w.alloc (.cells M.toArray 32)) w4 ∧ Rws w4 ∧ Below w.heap.size w w4) := ⟨B3.out.1.trans (hb.mono (by have := B3.out.1.size; simp at this; omega)), B3.out.2.1.keep hb, B3.out.2.2.trans (hb.mono B3.out.2.2.size)⟩
        clear hb B3 rB
        generalize blankT t (j : Int) = z at *
        cases z with
        | true =>
          go_wp2
          go_roundg (16 - (j + 1))
          case measure => have := HN.out.1; omega
          case rel => exact ⟨j + 1, rfl, by omega, by go_num, fun a ha => by
            by_cases c : a = j
            · subst c; rw [ES.out]; rfl
            · exact HN.out.2 a (by omega), B4.out.1, B4.out.2.1⟩
        | false =>
          have dn : straysT t k = true := by
            unfold straysT
            rw [List.any_eq_true]
            exact ⟨j, List.mem_range.2 hlt, by rw [ES.out]; rfl⟩
          go_wp2
          simp [bodyPost, results, Tryd.results35, go_sem, dn]
          exact B4.out.2.2
end Go.Proofs.YtlpmphldmfefkaaDoor
