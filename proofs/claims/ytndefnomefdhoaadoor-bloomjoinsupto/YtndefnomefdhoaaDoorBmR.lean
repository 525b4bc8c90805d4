import Derived.Test.YtndefnomefdhoaaDoorBmQ
import Derived.BigFrame
/- BloomHolds. -/
namespace Go.Proofs.YtndefnomefdhoaaDoor
open Go.RowKit Go.Sort

theorem wpList_load_wantM {P : Program} {ops : Array Oper} {rest : List Oper} {a : Act} {w : World} {Q : Exit → Act → World → Prop} {n gi : Nat} {gb : Bool} {ty tt : TypeId} {x : Operand} {pos : String} {after : Array Edge} (b o : Nat) (cs : List Value) (d : TypeDesc) (hc : w.rangeAt b o cs)
    (hu : P.underlying ty = some d) (hd : d.isRow = true) (hi : (P.info? ty).map (·.size) = some cs.length) (hx : a.eval x = .pointer (some ⟨b, o, none⟩)) (hw : Region.wanted ⟨some n, .load ty x, tt, pos, after, some (gi, gb)⟩ (yielded ops a.tmps) = true)
    (h : wpList P ops Q rest (a.put (some n) (.agg cs.toArray)) w) : wpList P ops Q (⟨some n, .load ty x, tt, pos, after, some (gi, gb)⟩ :: rest) a w :=
  BigFrame.wpList_want hw fun _ hK => wp_load_mid ty x rfl b o hx cs d hc hu hd hi (hK _ _ h)
theorem wpList_build_wantM {P : Program} {ops : Array Oper} {rest : List Oper} {a : Act} {w : World} {Q : Exit → Act → World → Prop} {n gi : Nat} {gb : Bool} {ty tt : TypeId} {pos : String} {after : Array Edge} (cs : Array Value)
    (hb : P.built ty [] = some cs) (hw : Region.wanted ⟨some n, .build ty #[], tt, pos, after, some (gi, gb)⟩ (yielded ops a.tmps) = true)
    (h : wpList P ops Q rest (a.put (some n) (.agg cs)) w) : wpList P ops Q (⟨some n, .build ty #[], tt, pos, after, some (gi, gb)⟩ :: rest) a w :=
  BigFrame.wpList_want hw fun _ hK => wp_build ty #[] rfl (by simp [hb]) (by simpa [hb] using hK _ _ h)
theorem tF_of {XS : List (List (BitVec 8))} {j : Nat} (hj : j < 2048) : tF (ofF XS) j = decide (j ∈ XS.flatMap plL) := by
  rw [ofF, tF_sets _ zF_len (fun x hx => by obtain ⟨X, _, h⟩ := List.mem_flatMap.1 hx; exact plL_lt h) j hj, tF_zero, Bool.false_or]
end Go.Proofs.YtndefnomefdhoaaDoor
