import Derived.Test.YtgedkdkaddcmmaaDoorFLaid
import Derived.Test.YtgedkdkaddcmmaaDoorCOps
import Derived.Test.YtgedkdkaddcmmaaDoorRefBit
import Derived.Test.YtgedkdkaddcmmaaDoorOpen
namespace Go.Proofs.YtgedkdkaddcmmaaDoor
open Go.ChangeShapes Go.WideShapes Go.ChangeAt Go.RowKit

theorem cells_pt : Tryd.prog.cellsOf 27 = 9 := by kernel_rfl
theorem cells_bool : Tryd.prog.cellsOf 4 = 1 := by kernel_rfl
theorem nine {H : Type} {enc : TypeId × Value → H} {w : World} {base : Nat} {sp : Nat → Bool} {held : Bool} {fuel : Nat} {cs : List Value} {z1 z2 : List Int} {b : Bool} {p : List MemPlace}
    (h : DataW.trod enc Tryd.prog w base sp held fuel 27 cs = some (.agg [Lib.tabData .u64 z1, Lib.tabData .u64 z2, .lit (.bool b)], p)) : cs = (z1.map fun z => Value.int .u64 z) ++ ((z2.map fun z => Value.int .u64 z) ++ [.bool b]) := by
  obtain ⟨xs, m, rfl, hx, hl, hn, hi⟩ := DataW.trod_struct Tryd.underlying27 h
  have hxs : xs.map (·.1) = [Lib.tabData .u64 z1, Lib.tabData .u64 z2, .lit (.bool b)] := by
    have := congrArg Prod.fst hx
    simpa using this.symm
  match xs, hxs with
  | [(_, p1), (_, p2), (_, p3)], hxs =>
    simp only [List.map_cons, List.map_nil, List.cons.injEq, and_true] at hxs
    obtain ⟨rfl, rfl, rfl⟩ := hxs
    have a : List.take (Tryd.prog.cellsOf 25) (List.drop 0 cs) = z1.map fun z => Value.int .u64 z := four (hi 0 _ rfl)
    have c : List.take (Tryd.prog.cellsOf 25) (List.drop 4 cs) = z2.map fun z => Value.int .u64 z := four (hi 1 _ rfl)
    have d : DataW.trod enc Tryd.prog w base sp held m 4 (List.take (Tryd.prog.cellsOf 4) (List.drop 8 cs)) = some (.lit (.bool b), p3) := hi 2 _ rfl
    obtain ⟨b', e, hb⟩ := DataW.trod_bool Tryd.underlying4 d
    simp only [Prod.mk.injEq, DataW.lit.injEq, Lit.bool.injEq] at hb
    obtain ⟨rfl, _⟩ := hb
    rw [cells_bool] at e
    rw [cells_num] at a c
    rw [cells_pt] at hl
    rw [List.drop_zero] at a
    rw [← a, ← c, ← e]
    rw [show List.take 1 (List.drop 8 cs) = List.drop 8 cs from List.take_of_length_le (by simp; omega), show List.drop 8 cs = List.drop 4 (List.drop 4 cs) by rw [List.drop_drop], List.take_append_drop, List.take_append_drop]

end Go.Proofs.YtgedkdkaddcmmaaDoor

/- Multiples, bit by bit: what the table of columns holds, and the numbers that a doubling carries on. -/
namespace Go.Proofs.YtgedkdkaddcmmaaDoor
open Go.RowKit Go.Sort

namespace EC
end EC

end Go.Proofs.YtgedkdkaddcmmaaDoor

namespace Go.Proofs.YtgedkdkaddcmmaaDoor
open Go.ChangeShapes Go.WideShapes Go.ChangeAt Go.RowKit

section
variable {H : Type} {enc : TypeId × Value → H} {w : World} {base : Nat} {spare : Nat → Bool} {held : Bool}

set_option maxRecDepth 4000 in
theorem trod_num4 {fuel : Nat} {cs : List Value} {x : DataW H × List MemPlace} (h : DataW.trod enc Tryd.prog w base spare held fuel 25 cs = some x) :
    ∃ n, Num n ∧ cs = [.int .u64 (l0 n), .int .u64 (l1 n), .int .u64 (l2 n), .int .u64 (l3 n)] ∧ x = (dat n, []) := by
  obtain ⟨xs, m, rfl, hx, hl, hn, hi⟩ := DataW.trod_array Tryd.underlying25 h
  rw [Tryd.cellsN] at hl
  simp only [Tryd.cellsW] at hi
  have i0 := hi 0 (by decide); have i1 := hi 1 (by decide); have i2 := hi 2 (by decide); have i3 := hi 3 (by decide)
  match cs, hl with
  | [c0, c1, c2, c3], _ =>
    match xs, hn with
    | [y0, y1, y2, y3], _ =>
      simp at i0 i1 i2 i3
      obtain ⟨a0, e0, rfl, w0⟩ := DataW.trod_int Tryd.underlying23 i0
      obtain ⟨a1, e1, rfl, w1⟩ := DataW.trod_int Tryd.underlying23 i1
      obtain ⟨a2, e2, rfl, w2⟩ := DataW.trod_int Tryd.underlying23 i2
      obtain ⟨a3, e3, rfl, w3⟩ := DataW.trod_int Tryd.underlying23 i3
      simp at e0 e1 e2 e3
      subst e0 e1 e2 e3
      have k0 := word_of_wf w0; have k1 := word_of_wf w1; have k2 := word_of_wf w2; have k3 := word_of_wf w3
      obtain ⟨r0, r1, r2, r3⟩ := limbs_of k0 k1 k2 k3 rfl
      refine ⟨num a0 a1 a2 a3, num_Num k0 k1 k2 k3, ?_, ?_⟩
      · rw [r0, r1, r2, r3]
      · unfold dat; rw [r0, r1, r2, r3]; simpa using hx

end
end Go.Proofs.YtgedkdkaddcmmaaDoor
