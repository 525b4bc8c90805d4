import Derived.Test.YtcjabligkeaafaaDoorKSpec
import Derived.Test.YtcjabligkeaafaaDoorKPerm
import Derived.Test.YtcjabligkeaafaaDoorTail
import Derived.Test.YtcjabligkeaafaaDoorKBase
namespace Go.Proofs.YtcjabligkeaafaaDoor.K
open Go.RowKit Go.Sort

theorem lanes_size {L : List (BitVec 64)} (h : L.length = 25) : ((lanes L).toArray).size = 25 := by simp [lanes_len, h]

end Go.Proofs.YtcjabligkeaafaaDoor.K

namespace Go.Proofs.YtcjabligkeaafaaDoor.K
open Go.RowKit Go.Sort

theorem quiet_load_mid {P : Program} {C : World → Prop} {a : Act} {o : Oper} {K : Act → Prop} (ty : TypeId) (x : Operand) (ho : o.op = .load ty x)
    (b f : Nat) (hx : a.eval x = .pointer (some ⟨b, f, none⟩)) (cs : List Value) (d : TypeDesc) (hS : ∀ w, C w → w.rangeAt b f cs)
    (hu : P.underlying ty = some d) (hd : d.isRow = true) (hi : (P.info? ty).map (·.size) = some cs.length) (h : K (a.put o.dst (.agg cs.toArray))) : o.quiet P a C K :=
  ⟨.agg cs.toArray, fun w hw => by
    unfold Oper.quietAt execOp
    simp only [ho, hx, Instr.loadAt, Instr.sureAddr, Sem.run_bind, Sem.run_pure, Result.andThen_ok, run_loadVar_mid w b f ty cs d (hS w hw) hu hd hi]
    exact ⟨rfl, rfl⟩, h⟩

end Go.Proofs.YtcjabligkeaafaaDoor.K

namespace Go.Proofs.YtcjabligkeaafaaDoor.K
open Go.RowKit Go.Sort

theorem wpList_world {P : Program} {ops : Array Oper} {Q : Exit → Act → World → Prop} {rest : List Oper} {a : Act} {w : World} (S : World → Prop) (h : S w) (k : ∀ W, S W → wpList P ops Q rest a W) : wpList P ops Q rest a w := k w h
theorem fresh_arr {W : World} {b : Nat} (e : b = W.heap.size) : Arr (W.alloc (.cells #[.int .u64 0, .int .u64 0, .int .u64 0, .int .u64 0, .int .u64 0, .int .u64 0, .int .u64 0, .int .u64 0, .int .u64 0, .int .u64 0, .int .u64 0, .int .u64 0, .int .u64 0, .int .u64 0, .int .u64 0, .int .u64 0, .int .u64 0, .int .u64 0, .int .u64 0, .int .u64 0, .int .u64 0, .int .u64 0, .int .u64 0, .int .u64 0, .int .u64 0] 58)) b (List.replicate 25 0) := Arr.zeros _ e

end Go.Proofs.YtcjabligkeaafaaDoor.K
