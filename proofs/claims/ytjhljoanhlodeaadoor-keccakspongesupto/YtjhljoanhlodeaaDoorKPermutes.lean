import Derived.Test.YtjhljoanhlodeaaDoorKRPerm
import Derived.Test.YtjhljoanhlodeaaDoorKEq
namespace Go.Proofs.YtjhljoanhlodeaaDoor
open Go.RowKit Go.Sort

theorem Tab.grown {W : World} {b : Nat} {l : List Nat} (h : Tab W b l) (d : Nat) (os : Array Obj) : Tab (grow (redrawn W d) os) b l := fun i hi => cell_regrown (h i hi) d os
theorem Lns.grown {W : World} {b : Nat} {L : List (BitVec 64)} (h : Lns W b L) (d : Nat) (os : Array Obj) : Lns (grow (redrawn W d) os) b L := fun i hi => cell_regrown (h i hi) d os

theorem quiet_load_mid {P : Program} {C : World → Prop} {a : Act} {o : Oper} {K : Act → Prop} (ty : TypeId) (x : Operand) (ho : o.op = .load ty x)
    (b f : Nat) (hx : a.eval x = .pointer (some ⟨b, f, none⟩)) (cs : List Value) (d : TypeDesc) (hS : ∀ w, C w → w.rangeAt b f cs)
    (hu : P.underlying ty = some d) (hd : d.isRow = true) (hi : (P.info? ty).map (·.size) = some cs.length) (h : K (a.put o.dst (.agg cs.toArray))) : o.quiet P a C K :=
  ⟨.agg cs.toArray, fun w hw => by
    unfold Oper.quietAt execOp
    simp only [ho, hx, Instr.loadAt, Instr.sureAddr, Sem.run_bind, Sem.run_pure, Result.andThen_ok, run_loadVar_mid w b f ty cs d (hS w hw) hu hd hi]
    exact ⟨rfl, rfl⟩, h⟩

end Go.Proofs.YtjhljoanhlodeaaDoor
