import Derived.Test.YtcjabligkeaafaaDoorRbB
import Derived.Test.YtcjabligkeaafaaDoorBmZ
import Derived.Test.YtcjabligkeaafaaDoorQBar
import Derived.Test.YtcjabligkeaafaaDoorQTail
import Derived.Great.BuildSlice
import Derived.Great.FillDense
import Derived.BigFrame
/- Slices of one row built; what a filter of one address and one topic finds. -/
namespace Go.Proofs.YtcjabligkeaafaaDoor.tq
open Go.RowKit Go.Sort
theorem wp_build_oneR {o : Oper} {a : Act} {w : World} {K : Act → World → Prop} {Q : Exit → Act → World → Prop} {T E : TypeId} {k bytes : Nat} {x : Operand} {cs : List Value} (hT : Tryd.prog.underlying T = some (.slice E)) (hI : rowInfo Tryd.prog E k bytes = true) (k0 : 0 < k) (k1 : k < 1000000)
    (ho : o.op = .buildSlice T 1 #[(0, x)]) (hx : a.eval x = .agg cs.toArray) (hl : cs.length = k) (h : K (a.put o.dst (.slice (some ⟨w.heap.size, 0, none⟩) 1 1)) (w.alloc (.cells cs.toArray E))) : o.wp Tryd.prog a w K Q := by
  obtain ⟨i, z, hi, hz, hs, _, hk⟩ := rowInfo_of hI
  refine wp_buildSlice T E 1 _ ho cs.toArray i z hT hi hz (by rw [hs]; omega) (by rw [hs]; omega) ?_ h
  have f := Go.Great.fill_whole (s := k) k0 [Value.agg cs.toArray] ((Array.range (1 * k)).map (z.cells[· % z.cells.size]!)) (fun v hv => by
    obtain rfl := List.mem_singleton.1 hv
    show cs.toArray.size = k
    rw [List.size_toArray, hl]) (by simp)
  rw [hs]
  have e : (#[(0, x)] : Array (Nat × Operand)).map (fun (i, x) => (i, a.eval x)) = #[(0, .agg cs.toArray)] := by simp [hx]
  rw [e]
  have e2 : (([Value.agg cs.toArray].flatMap fun v => v.cells.toList).toArray : Array Value) = cs.toArray := by simp [Value.cells]
  rw [e2] at f
  exact f
theorem wpList_build_oneR {ops : Array Oper} {rest : List Oper} {o : Oper} {a : Act} {w : World} {Q : Exit → Act → World → Prop} {T E : TypeId} {k bytes : Nat} {x : Operand} {cs : List Value} (hw : Region.wanted o (yielded ops a.tmps) = true) (hT : Tryd.prog.underlying T = some (.slice E)) (hI : rowInfo Tryd.prog E k bytes = true) (k0 : 0 < k) (k1 : k < 1000000)
    (ho : o.op = .buildSlice T 1 #[(0, x)]) (hx : a.eval x = .agg cs.toArray) (hl : cs.length = k) (h : wpList Tryd.prog ops Q rest (a.put o.dst (.slice (some ⟨w.heap.size, 0, none⟩) 1 1)) (w.alloc (.cells cs.toArray E))) : wpList Tryd.prog ops Q (o :: rest) a w :=
  Go.BigFrame.wpList_want hw fun _ hK => wp_build_oneR hT hI k0 k1 ho hx hl (hK _ _ h)
theorem rows_one {W : World} {cs : List Value} {E : TypeId} : (W.alloc (.cells cs.toArray E)).rangeAt W.heap.size 0 cs := fun j v hv => by
  rw [Nat.zero_add, World.cell?_alloc_mark]; simpa using hv
theorem fnd_some {As : List (List Int)} {L : List Kl} {ls : List Lg} : ∀ n, n ≤ ls.length → fnd As L ls n ≠ [] → ∃ l ∈ ls, logTk As L l = true
  | 0, _, h => absurd rfl h
  | n + 1, hn, h => by
    cases c : logTk As L (ls.getD n zLg) with
    | true => exact ⟨_, by rw [List.getD, List.getElem?_eq_getElem (by omega)]; exact List.getElem_mem _, c⟩
    | false =>
      rw [fnd_no c] at h
      exact fnd_some n (by omega) h
/-- What is found has the address and the topic. -/
theorem fnd_has {ls : List Lg} {A T : List Int} {a : Option Addr} {b o c : Nat} (h : fnd [A] [⟨a, b, o, c, [T]⟩] ls ls.length ≠ []) : hasX (blL ls) A = true ∧ hasX (blL ls) T = true := by
  obtain ⟨l, hl, e⟩ := fnd_some _ (Nat.le_refl _) h
  unfold logTk at e
  simp only [Bool.and_eq_true, decide_eq_true_iff] at e
  obtain ⟨e1, e2, e3⟩ := e
  have a1 : l.adr = A := by
    unfold tak at e1
    simpa [kHas] using e1
  have l1 : 1 ≤ l.Tl.length := e2
  have t1 : l.Tl.getD 0 [] = T := by
    have : topTk [⟨a, b, o, c, [T]⟩] l.Tl 1 = true := e3
    unfold topTk at this
    rw [Bool.and_eq_true] at this
    have h2 := this.2
    unfold tak at h2
    simpa [kHas] using h2
  refine ⟨has_bl hl (by rw [← a1]; simp [txL]), has_bl hl ?_⟩
  rw [← t1]
  unfold txL
  rw [List.getD, List.getElem?_eq_getElem (by omega)]
  exact List.mem_cons_of_mem _ (List.getElem_mem _)
end Go.Proofs.YtcjabligkeaafaaDoor.tq
