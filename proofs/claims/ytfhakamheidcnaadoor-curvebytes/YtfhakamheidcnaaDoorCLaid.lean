import Derived.Test.YtfhakamheidcnaaDoorFLaid
import Derived.Test.YtfhakamheidcnaaDoorCSumK
import Derived.Test.YtfhakamheidcnaaDoorDivAny
import Derived.Test.YtfhakamheidcnaaDoorOpen
namespace Go.Proofs.YtfhakamheidcnaaDoor
open Go.ChangeShapes Go.WideShapes Go.ChangeAt Go.RowKit

theorem cells_pt : Tryd.prog.cellsOf 26 = 9 := by kernel_rfl
theorem cells_bool : Tryd.prog.cellsOf 4 = 1 := by kernel_rfl
theorem nine {H : Type} {enc : TypeId × Value → H} {w : World} {base : Nat} {sp : Nat → Bool} {held : Bool} {fuel : Nat} {cs : List Value} {z1 z2 : List Int} {b : Bool} {p : List MemPlace}
    (h : DataW.trod enc Tryd.prog w base sp held fuel 26 cs = some (.agg [Lib.tabData .u64 z1, Lib.tabData .u64 z2, .lit (.bool b)], p)) : cs = (z1.map fun z => Value.int .u64 z) ++ ((z2.map fun z => Value.int .u64 z) ++ [.bool b]) := by
  obtain ⟨xs, m, rfl, hx, hl, hn, hi⟩ := DataW.trod_struct Tryd.underlying26 h
  have hxs : xs.map (·.1) = [Lib.tabData .u64 z1, Lib.tabData .u64 z2, .lit (.bool b)] := by
    have := congrArg Prod.fst hx
    simpa using this.symm
  match xs, hxs with
  | [(_, p1), (_, p2), (_, p3)], hxs =>
    simp only [List.map_cons, List.map_nil, List.cons.injEq, and_true] at hxs
    obtain ⟨rfl, rfl, rfl⟩ := hxs
    have a : List.take (Tryd.prog.cellsOf 24) (List.drop 0 cs) = z1.map fun z => Value.int .u64 z := four (hi 0 _ rfl)
    have c : List.take (Tryd.prog.cellsOf 24) (List.drop 4 cs) = z2.map fun z => Value.int .u64 z := four (hi 1 _ rfl)
    have d : DataW.trod enc Tryd.prog w base sp held m 4 (List.take (Tryd.prog.cellsOf 4) (List.drop 8 cs)) = some (.lit (.bool b), p3) := hi 2 _ rfl
    obtain ⟨b', e, hb⟩ := DataW.trod_bool Tryd.underlying4 d
    simp only [Prod.mk.injEq, DataW.lit.injEq, Lit.bool.injEq] at hb
    obtain ⟨rfl, _⟩ := hb
    rw [cells_bool] at e
    rw [cells_num] at a c
    rw [cells_pt] at hl
    rw [List.drop_zero] at a
    rw [← a, ← c, ← e]
    rw [show List.take 1 (List.drop 8 cs) = List.drop 8 cs from List.take_of_length_le (by simp; omega), show List.drop 8 cs = List.drop 4 (List.drop 4 cs) by rw [List.drop_drop], List.take_append_drop, List.take_append_drop]

end Go.Proofs.YtfhakamheidcnaaDoor

/- Multiples, bit by bit: what the table of columns holds, and the numbers that a doubling carries on. -/
namespace Go.Proofs.YtfhakamheidcnaaDoor
open Go.RowKit Go.Sort

namespace EC
end EC

end Go.Proofs.YtfhakamheidcnaaDoor

namespace Go.Proofs.YtfhakamheidcnaaDoor
open Go.ChangeShapes Go.WideShapes Go.ChangeAt Go.RowKit

section
variable {H : Type} {enc : TypeId × Value → H} {w : World} {base : Nat} {spare : Nat → Bool} {held : Bool}

set_option maxRecDepth 4000 in
theorem trod_num4 {fuel : Nat} {cs : List Value} {x : DataW H × List MemPlace} (h : DataW.trod enc Tryd.prog w base spare held fuel 24 cs = some x) :
    ∃ n, Num n ∧ cs = [.int .u64 (l0 n), .int .u64 (l1 n), .int .u64 (l2 n), .int .u64 (l3 n)] ∧ x = (dat n, []) := by
  obtain ⟨xs, m, rfl, hx, hl, hn, hi⟩ := DataW.trod_array Tryd.underlying24 h
  rw [Tryd.cellsN] at hl
  simp only [Tryd.cellsW] at hi
  have i0 := hi 0 (by decide); have i1 := hi 1 (by decide); have i2 := hi 2 (by decide); have i3 := hi 3 (by decide)
  match cs, hl with
  | [c0, c1, c2, c3], _ =>
    match xs, hn with
    | [y0, y1, y2, y3], _ =>
      simp at i0 i1 i2 i3
      obtain ⟨a0, e0, rfl, w0⟩ := DataW.trod_int Tryd.underlying22 i0
      obtain ⟨a1, e1, rfl, w1⟩ := DataW.trod_int Tryd.underlying22 i1
      obtain ⟨a2, e2, rfl, w2⟩ := DataW.trod_int Tryd.underlying22 i2
      obtain ⟨a3, e3, rfl, w3⟩ := DataW.trod_int Tryd.underlying22 i3
      simp at e0 e1 e2 e3
      subst e0 e1 e2 e3
      have k0 := word_of_wf w0; have k1 := word_of_wf w1; have k2 := word_of_wf w2; have k3 := word_of_wf w3
      obtain ⟨r0, r1, r2, r3⟩ := limbs_of k0 k1 k2 k3 rfl
      refine ⟨num a0 a1 a2 a3, num_Num k0 k1 k2 k3, ?_, ?_⟩
      · rw [r0, r1, r2, r3]
      · unfold dat; rw [r0, r1, r2, r3]; simpa using hx

set_option maxRecDepth 4000 in
theorem open_point {r : Reach} {b0 : Nat} {v : Value} {d : DataW H} {p : List MemPlace} (hv : Value.okWide Tryd.prog w r b0 26 v) (h : DataW.Trod enc Tryd.prog w base spare held 26 v d p) :
    ∃ x y i, Num x ∧ Num y ∧ v = .agg #[.int .u64 (l0 x), .int .u64 (l1 x), .int .u64 (l2 x), .int .u64 (l3 x), .int .u64 (l0 y), .int .u64 (l1 y), .int .u64 (l2 y), .int .u64 (l3 y), .bool i] ∧ d = .agg [dat x, dat y, .lit (.bool i)] ∧ p = [] := by
  obtain ⟨cs, rfl, hsz⟩ : ∃ cs : Array Value, v = .agg cs ∧ cs.size = 9 := by
    simp only [Value.okWide, Tryd.underlying26] at hv
    obtain ⟨cs, h1, h2, _⟩ := hv
    exact ⟨cs, h1, h2.trans cells_pt⟩
  obtain ⟨fuel, hf⟩ := h
  obtain ⟨xs, m, rfl, hx, hl, hn, hi⟩ := DataW.trod_struct Tryd.underlying26 hf
  match xs, hn with
  | [y0, y1, y2], _ =>
    have a : DataW.trod enc Tryd.prog w base spare held m 24 (List.take (Tryd.prog.cellsOf 24) (List.drop 0 (Value.agg cs).cells.toList)) = some y0 := hi 0 _ rfl
    have c : DataW.trod enc Tryd.prog w base spare held m 24 (List.take (Tryd.prog.cellsOf 24) (List.drop 4 (Value.agg cs).cells.toList)) = some y1 := hi 1 _ rfl
    have e : DataW.trod enc Tryd.prog w base spare held m 4 (List.take (Tryd.prog.cellsOf 4) (List.drop 8 (Value.agg cs).cells.toList)) = some y2 := hi 2 _ rfl
    obtain ⟨x, nx, ex, rfl⟩ := trod_num4 a
    obtain ⟨y, ny, ey, rfl⟩ := trod_num4 c
    obtain ⟨b, eb, rfl⟩ := DataW.trod_bool Tryd.underlying4 e
    rw [cells_bool] at eb
    rw [cells_num] at ex ey
    simp only [Value.cells] at ex ey eb
    refine ⟨x, y, b, nx, ny, ?_, ?_, ?_⟩
    · congr 1
      apply Array.ext'
      have l9 : cs.toList.length = 9 := by simpa using hsz
      have e : cs.toList = List.take 4 (List.drop 0 cs.toList) ++ (List.take 4 (List.drop 4 cs.toList) ++ List.take 1 (List.drop 8 cs.toList)) := by
        rw [List.drop_zero, show List.take 1 (List.drop 8 cs.toList) = List.drop 8 cs.toList from List.take_of_length_le (by simp; omega), show List.drop 8 cs.toList = List.drop 4 (List.drop 4 cs.toList) by rw [List.drop_drop], List.take_append_drop, List.take_append_drop]
      rw [e, ex, ey, eb]
      rfl
    · simpa using congrArg Prod.fst hx
    · simpa using congrArg Prod.snd hx

theorem shut_point (x y : Int) (i : Bool) : DataW.Trod enc Tryd.prog w base spare held 26 (.agg #[.int .u64 (l0 x), .int .u64 (l1 x), .int .u64 (l2 x), .int .u64 (l3 x), .int .u64 (l0 y), .int .u64 (l1 y), .int .u64 (l2 y), .int .u64 (l3 y), .bool i]) (.agg [dat x, dat y, .lit (.bool i)]) [] := by
  refine ⟨4, ?_⟩
  have w0 := wf_of_word (l0_word x); have w1 := wf_of_word (l1_word x); have w2 := wf_of_word (l2_word x); have w3 := wf_of_word (l3_word x)
  have u0 := wf_of_word (l0_word y); have u1 := wf_of_word (l1_word y); have u2 := wf_of_word (l2_word y); have u3 := wf_of_word (l3_word y)
  simp [DataW.trod, Value.cells, Tryd.underlying26, Tryd.underlying24, Tryd.underlying22, Tryd.underlying4, cells_pt, cells_bool, cells_num, Tryd.cellsW, w0, w1, w2, w3, u0, u1, u2, u3, dat, List.range_succ]
end
end Go.Proofs.YtfhakamheidcnaaDoor
