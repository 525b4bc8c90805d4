import Derived.Test.YtjlilnjggmelgaaDoorFLaid
import Derived.Test.YtjlilnjggmelgaaDoorCSumK
import Derived.Test.YtjlilnjggmelgaaDoorDivAny
namespace Go.Proofs.YtjlilnjggmelgaaDoor
open Go.ChangeShapes Go.WideShapes Go.ChangeAt Go.RowKit

theorem cells_pt : Tryd.prog.cellsOf 28 = 9 := by kernel_rfl
theorem cells_bool : Tryd.prog.cellsOf 4 = 1 := by kernel_rfl
theorem nine {H : Type} {enc : TypeId × Value → H} {w : World} {base : Nat} {sp : Nat → Bool} {held : Bool} {fuel : Nat} {cs : List Value} {z1 z2 : List Int} {b : Bool} {p : List MemPlace}
    (h : DataW.trod enc Tryd.prog w base sp held fuel 28 cs = some (.agg [Lib.tabData .u64 z1, Lib.tabData .u64 z2, .lit (.bool b)], p)) : cs = (z1.map fun z => Value.int .u64 z) ++ ((z2.map fun z => Value.int .u64 z) ++ [.bool b]) := by
  obtain ⟨xs, m, rfl, hx, hl, hn, hi⟩ := DataW.trod_struct Tryd.underlying28 h
  have hxs : xs.map (·.1) = [Lib.tabData .u64 z1, Lib.tabData .u64 z2, .lit (.bool b)] := by
    have := congrArg Prod.fst hx
    simpa using this.symm
  match xs, hxs with
  | [(_, p1), (_, p2), (_, p3)], hxs =>
    simp only [List.map_cons, List.map_nil, List.cons.injEq, and_true] at hxs
    obtain ⟨rfl, rfl, rfl⟩ := hxs
    have a : List.take (Tryd.prog.cellsOf 26) (List.drop 0 cs) = z1.map fun z => Value.int .u64 z := four (hi 0 _ rfl)
    have c : List.take (Tryd.prog.cellsOf 26) (List.drop 4 cs) = z2.map fun z => Value.int .u64 z := four (hi 1 _ rfl)
    have d : DataW.trod enc Tryd.prog w base sp held m 4 (List.take (Tryd.prog.cellsOf 4) (List.drop 8 cs)) = some (.lit (.bool b), p3) := hi 2 _ rfl
    obtain ⟨b', e, hb⟩ := DataW.trod_bool Tryd.underlying4 d
    simp only [Prod.mk.injEq, DataW.lit.injEq, Lit.bool.injEq] at hb
    obtain ⟨rfl, _⟩ := hb
    rw [cells_bool] at e
    rw [cells_num] at a c
    rw [cells_pt] at hl
    rw [List.drop_zero] at a
    rw [← a, ← c, ← e]
    rw [show List.take 1 (List.drop 8 cs) = List.drop 8 cs from List.take_of_length_le (by simp; omega), show List.drop 8 cs = List.drop 4 (List.drop 4 cs) by rw [List.drop_drop], List.take_append_drop, List.take_append_drop]

end Go.Proofs.YtjlilnjggmelgaaDoor

/- Multiples, bit by bit: what the table of columns holds, and the numbers that a doubling carries on. -/
namespace Go.Proofs.YtjlilnjggmelgaaDoor
open Go.RowKit Go.Sort

namespace EC
end EC

end Go.Proofs.YtjlilnjggmelgaaDoor
