import Derived.Test.YtllfmlgnemkklaaDoorTxW
import Derived.Deep.MidRow
/- Layer 15: fields that a type does not have: the loop. -/
namespace Go.Proofs.YtllfmlgnemkklaaDoor
open Go.RowKit Go.Sort
open tq
/-- Field number f is filled, and the type does not have it. -/
def strayT (t : Txv) (k : Nat) (f : Nat) : Bool := !decide ((f : Int) ∈ rowsT.getD k []) && !blankT t f
def straysT (t : Txv) (k : Nat) : Bool := (List.range 16).any (strayT t k)
theorem size_tx {t : Txv} (h : t.to.length = 20) : (Tryd.prog.info? 32).map (·.size) = some (txC t).length := by rw [txC_len h]; kernel_rfl
/-- A load of a row under a guard that holds. -/
theorem wpList_load_midG {P : Program} {ops : Array Oper} {rest : List Oper} {op : Oper} {a : Act} {w : World} {Q : Exit → Act → World → Prop} (hw : Region.wanted op (yielded ops a.tmps) = true) (ty : TypeId) (x : Operand) (ho : op.op = .load ty x)
    (b o : Nat) (hx : a.eval x = .pointer (some ⟨b, o, none⟩)) (cs : List Value) (d : TypeDesc) (hc : w.rangeAt b o cs)
    (hu : P.underlying ty = some d) (hd : d.isRow = true) (hi : (P.info? ty).map (·.size) = some cs.length)
    (h : wpList P ops Q rest (a.put op.dst (.agg cs.toArray)) w) : wpList P ops Q (op :: rest) a w := by
  unfold wpList
  rw [if_pos hw]
  exact .inl (wp_load_mid ty x ho b o hx cs d hc hu hd hi h)
set_option maxRecDepth 100000 in
set_option maxHeartbeats 4000000 in
theorem hasStrays_any {W0 : World} {t : Txv} {k : Nat} (hG : TxG W0 t) (ek : t.ty = (k : Int)) (hk : k < 5) (w : World) (hR : Rws w) :
    Calls Tryd.prog 22 #[.agg (txC t).toArray] w fun e w' => e = .returned (.bool (straysT t k)) ∧ Below w.heap.size w w' := by
  have h20 := hG.to.1
  have ST : Hid (∀ f : Nat, ∀ W, Rws W → Calls Tryd.prog 37 #[.int .i64 (k : Int), .int .i64 (f : Int)] W fun e w' => e = .returned (.bool (decide ((f : Int) ∈ rowsT.getD k []))) ∧ Below W.heap.size W w') := fun f W h => stands_any hk W h
  have BK : Hid (∀ f : Nat, ∀ W, Calls Tryd.prog 38 #[.agg (txC t).toArray, .int .i64 (f : Int)] W fun e w' => e = .returned (.bool (blankT t (f : Int))) ∧ Below W.heap.size W w') := fun f W => isBlank_any hG W
  have sz := size_tx h20
  have nB := fun ty => txb_one (w := w) h20 ty
  have tyB : ∀ ty W, Below (w.heap.size + 1) (w.alloc (.cells (txC t).toArray ty)) W → W.cell? ⟨w.heap.size, 0, none⟩ = some (.int .i64 (k : Int)) ∧ W.rangeAt w.heap.size 0 (txC t) := fun ty W B => by
    have h := (nB ty).keep (by rw [World.size_alloc]; exact B)
    exact ⟨by rw [← ek]; exact h.ty, h.all⟩
  have TB : Hid (∀ ty W, Below (w.heap.size + 1) (w.alloc (.cells (txC t).toArray ty)) W → W.cell? ⟨w.heap.size, 0, none⟩ = some (.int .i64 (k : Int)) ∧ W.rangeAt w.heap.size 0 (txC t)) := tyB
  clear nB tyB hG h20 ek
  generalize txC t = M at *
  go_enter Tryd.func22, Tryd.ntmps22
  go_wp2_with fail
  go_loopg [3, 4] 16 (fun q x i wr => ∃ j : Nat, q = 16 - j ∧ j ≤ 16 ∧ i = .int .i64 (j : Int) ∧ (∀ a, a < j → strayT t k a = false) ∧ Below (w.heap.size + 1) (w.alloc (.cells M.toArray 32)) wr ∧ Rws wr)
  case atStart => exact ⟨0, rfl, Nat.zero_le _, rfl, fun a ha => absurd ha (Nat.not_lt_zero _), Below.refl _ _, hR.keep ((Below.refl _ _).alloc (Nat.le_refl _) _)⟩
  case round =>
    clear hR
    obtain ⟨j, hq, hj, rfl, hno, hB, hRw⟩ := hrel
    have HN : Hid (gk = 16 - j ∧ (∀ a, a < j → strayT t k a = false)) := ⟨hq, hno⟩
    have HB : Hid (Below (w.heap.size + 1) (w.alloc (.cells M.toArray 32)) wr ∧ Rws wr) := ⟨hB, hRw⟩
    have BW : Below w.heap.size w wr := ((Below.refl _ _).alloc (Nat.le_refl _) _).trans (hB.mono (by omega))
    have HW : Hid (Below w.heap.size w wr) := BW
    clear hq hno hB hRw BW
    by_cases e : j = 16
    · have dn : straysT t k = false := by
        unfold straysT
        rw [List.any_eq_false]
        intro a ha
        rw [HN.out.2 a (by have := List.mem_range.1 ha; omega)]
        exact Bool.false_ne_true
      subst e
      go_wp2
      simp [bodyPost, results, Tryd.results22, go_sem, dn]
      exact HW.out
    · have hlt : j < 16 := by omega
      have b1 : (j : Int) < 16 := by omega
      have ty := (TB.out _ _ HB.out.1).1
      go_wp2_with fail
      refine (ST.out j _ HB.out.2).mono ?_
      rintro e w3 ⟨rfl, hb⟩
      have B3 : Hid (Below (w.heap.size + 1) (w.alloc (.cells M.toArray 32)) w3 ∧ Rws w3 ∧ Below w.heap.size w w3) := ⟨HB.out.1.trans (hb.mono (by have := HB.out.1.size; simp at this; omega)), HB.out.2.keep hb, HW.out.trans (hb.mono HW.out.size)⟩
      have ES : Hid (strayT t k j = (!decide ((j : Int) ∈ rowsT.getD k []) && !blankT t j)) := rfl
      clear hb HB HW ty
      generalize decide ((j : Int) ∈ rowsT.getD k []) = s at *
      cases s with
      | true =>
        go_wp2
        go_roundg (16 - (j + 1))
        case measure => have := HN.out.1; omega
        case rel => exact ⟨j + 1, rfl, by omega, by go_num, fun a ha => by
          by_cases c : a = j
          · subst c; rw [ES.out]; rfl
          · exact HN.out.2 a (by omega), B3.out.1, B3.out.2.1⟩
      | false =>
        have rB := (TB.out _ _ B3.out.1).2
        go_wp2_with (refine wpList_load_midG (by kernel_rfl) 32 (.tmp 1) rfl w.heap.size 0 rfl M _ rB Tryd.underlying32 rfl sz ?_)
        refine (BK.out j _).mono ?_
        rintro e w4 ⟨rfl, hb⟩
        have B4 : Hid (Below (w.heap.size + 1) (w.alloc (.cells M.toArray 32)) w4 ∧ Rws w4 ∧ Below w.heap.size w w4) := ⟨B3.out.1.trans (hb.mono (by have := B3.out.1.size; simp at this; omega)), B3.out.2.1.keep hb, B3.out.2.2.trans (hb.mono B3.out.2.2.size)⟩
        clear hb B3 rB
        generalize blankT t (j : Int) = z at *
        cases z with
        | true =>
          go_wp2
          go_roundg (16 - (j + 1))
          case measure => have := HN.out.1; omega
          case rel => exact ⟨j + 1, rfl, by omega, by go_num, fun a ha => by
            by_cases c : a = j
            · subst c; rw [ES.out]; rfl
            · exact HN.out.2 a (by omega), B4.out.1, B4.out.2.1⟩
        | false =>
          have dn : straysT t k = true := by
            unfold straysT
            rw [List.any_eq_true]
            exact ⟨j, List.mem_range.2 hlt, by rw [ES.out]; rfl⟩
          go_wp2
          simp [bodyPost, results, Tryd.results22, go_sem, dn]
          exact B4.out.2.2
end Go.Proofs.YtllfmlgnemkklaaDoor
