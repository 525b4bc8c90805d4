import Derived.Test.YtcjabligkeaafaaDoorTsB
import Derived.Laws.StructEq
import Derived.Test.YtcjabligkeaafaaDoorRcO
/- StillHashes of what LentHashes made; sameEntry; slices.EqualFunc of entries. -/
namespace Go.Proofs.YtcjabligkeaafaaDoor.tq
open Go.RowKit Go.Sort
theorem KsG.keep {W W' : World} {a : Option Addr} {b o c : Nat} {ks : List (List Int)} (h : KsG W a b o c ks) (B : Below W.heap.size W W') : KsG W' a b o c ks := ⟨h.1, h.2.1, fun i hi => ⟨(h.2.2 i hi).1, range_keep (h.2.2 i hi).2 B⟩⟩
theorem BtG.keep {W W' : World} {a : Option Addr} {b o c : Nat} {X : List Int} (h : BtG W a b o c X) (B : Below W.heap.size W W') : BtG W' a b o c X := ⟨h.1, h.2.1, h.2.2.1.keep B, h.2.2.2⟩
end Go.Proofs.YtcjabligkeaafaaDoor.tq

/- receipt.Gas of both sides. -/
namespace Go.Proofs.YtcjabligkeaafaaDoor.tq
open Go.RowKit Go.Sort
def v6 (L : List Int) : List Value := L.map (Value.int .u64)
end Go.Proofs.YtcjabligkeaafaaDoor.tq

/- Tools: a value put into a block; a row loaded, two compared, under a guard. -/
namespace Go.Proofs.YtcjabligkeaafaaDoor.tq
open Go.RowKit Go.Sort
theorem wpList_boxT {P : Program} {ops : Array Oper} {rest : List Oper} {o : Oper} {a : Act} {w : World} {Q : Exit → Act → World → Prop} (hg : o.guard = none) (t : TypeId) (x : Operand) (ho : o.op = .box t x) (cs : List Value) (hx : a.eval x = .agg cs.toArray)
    (h : ∀ (b : Nat) (W : World), Hid (b = w.heap.size ∧ W.heap.size = b + 1) → Below w.heap.size w W → W.rangeAt b 0 cs → wpList P ops Q rest (a.put o.dst (.pointer (some ⟨b, 0, none⟩))) W) : wpList P ops Q (o :: rest) a w := by
  refine wpList_plain hg fun K hK => ?_
  unfold Oper.wp execOp
  simp only [ho, Sem.run_bind, Instr.box, newVar, newRow, run_newObj_alloc, Sem.run_pure, Result.andThen_ok]
  refine hK _ _ (h _ _ ⟨rfl, World.size_alloc _ _⟩ ((Below.refl _ _).alloc (Nat.le_refl _) _) ?_)
  rw [hx]
  exact new_range
theorem wpList_load_midT {P : Program} {ops : Array Oper} {rest : List Oper} {op : Oper} {a : Act} {w : World} {Q : Exit → Act → World → Prop} (hw : Region.wanted op (yielded ops a.tmps) = true) (ty : TypeId) (x : Operand) (ho : op.op = .load ty x)
    (b o : Nat) (hx : a.eval x = .pointer (some ⟨b, o, none⟩)) (cs : List Value) (d : TypeDesc) (hc : w.rangeAt b o cs)
    (hu : P.underlying ty = some d) (hd : d.isRow = true) (hi : (P.info? ty).map (·.size) = some cs.length)
    (h : wpList P ops Q rest (a.put op.dst (.agg cs.toArray)) w) : wpList P ops Q (op :: rest) a w := by
  unfold wpList
  rw [if_pos hw]
  exact .inl (wp_load_mid ty x ho b o hx cs d hc hu hd hi h)
end Go.Proofs.YtcjabligkeaafaaDoor.tq
