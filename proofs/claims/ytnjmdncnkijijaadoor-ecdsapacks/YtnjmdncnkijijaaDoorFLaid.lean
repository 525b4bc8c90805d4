import Derived.Test.YtnjmdncnkijijaaDoorCards
import Derived.Test.YtnjmdncnkijijaaDoorTie
import Derived.Test.YtnjmdncnkijijaaDoorFExp
import Derived.Test.YtnjmdncnkijijaaDoorOpen
import Derived.WalkKit
import Derived.ProofKit
import Derived.OpenShut
import Derived.Deep.DeepHandedRow
import Derived.Lib.LaidTab
import Derived.Stop.LaidErr
/- What the table of moduli holds; the world of the witness. -/
namespace Go.Proofs.YtnjmdncnkijijaaDoor
open Go.ChangeShapes Go.WideShapes Go.ChangeAt Go.RowKit

/-- A block's cells put anew. -/
def lay (cs : Array Value) : Obj → Obj
  | .cells _ t frozen => .cells cs t frozen
  | o => o
noncomputable def laidWorld (os : Os) : World :=
  { World.holding Tryd.prog os ⟨#[], #[], []⟩ with heap := (World.holding Tryd.prog os ⟨#[], #[], []⟩).heap.modify 0 (lay #[.int .u64 18446744069414583343, .int .u64 18446744073709551615, .int .u64 18446744073709551615, .int .u64 18446744073709551615, .int .u64 4294968273, .int .u64 0, .int .u64 0, .int .u64 0, .int .u64 13822214165235122497, .int .u64 13451932020343611451, .int .u64 18446744073709551614, .int .u64 18446744073709551615, .int .u64 4624529908474429119, .int .u64 4994812053365940164, .int .u64 1, .int .u64 0]) }
def mZ : List Int := [18446744069414583343, 18446744073709551615, 18446744073709551615, 18446744073709551615, 4294968273, 0, 0, 0, 13822214165235122497, 13451932020343611451, 18446744073709551614, 18446744073709551615, 4624529908474429119, 4994812053365940164, 1, 0]

theorem cells_u64 : Tryd.prog.cellsOf 22 = 1 := by kernel_rfl
theorem cells_num : Tryd.prog.cellsOf 24 = 4 := by kernel_rfl
theorem cells_mod : Tryd.prog.cellsOf 66 = 8 := by kernel_rfl
theorem cells_two : Tryd.prog.cellsOf 72 = 16 := by kernel_rfl
theorem g_moduli : Tryd.prog.globalNamed "waybill/field.moduli" = some 0 := by kernel_rfl
theorem t_moduli : (Tryd.prog.globals[0]?).map (·.type) = some 72 := by kernel_rfl

theorem four {H : Type} {enc : TypeId × Value → H} {w : World} {base : Nat} {sp : Nat → Bool} {held : Bool} {fuel : Nat} {cs : List Value} {zs : List Int} {p : List MemPlace}
    (h : DataW.trod enc Tryd.prog w base sp held fuel 24 cs = some (Lib.tabData .u64 zs, p)) : cs = zs.map fun z => Value.int .u64 z :=
  Lib.cells_of_tab Tryd.underlying24 Tryd.underlying22 cells_u64 cells_num h

theorem eight {H : Type} {enc : TypeId × Value → H} {w : World} {base : Nat} {sp : Nat → Bool} {held : Bool} {fuel : Nat} {cs : List Value} {z1 z2 : List Int} {p : List MemPlace}
    (h : DataW.trod enc Tryd.prog w base sp held fuel 66 cs = some (.agg [Lib.tabData .u64 z1, Lib.tabData .u64 z2], p)) : cs = (z1.map fun z => Value.int .u64 z) ++ (z2.map fun z => Value.int .u64 z) := by
  obtain ⟨xs, m, rfl, hx, hl, hn, hi⟩ := DataW.trod_struct Tryd.underlying66 h
  have hxs : xs.map (·.1) = [Lib.tabData .u64 z1, Lib.tabData .u64 z2] := by
    have := congrArg Prod.fst hx
    simpa using this.symm
  match xs, hxs with
  | [(_, p1), (_, p2)], hxs =>
    simp only [List.map_cons, List.map_nil, List.cons.injEq, and_true] at hxs
    obtain ⟨rfl, rfl⟩ := hxs
    have a : List.take (Tryd.prog.cellsOf 24) (List.drop 0 cs) = z1.map fun z => Value.int .u64 z := four (hi 0 _ rfl)
    have b : List.take (Tryd.prog.cellsOf 24) (List.drop 4 cs) = z2.map fun z => Value.int .u64 z := four (hi 1 _ rfl)
    rw [cells_num] at a b
    rw [List.drop_zero] at a
    rw [cells_mod] at hl
    rw [← a, ← b]
    rw [show List.take 4 (List.drop 4 cs) = List.drop 4 cs from List.take_of_length_le (by simp; omega)]
    exact (List.take_append_drop 4 cs).symm

theorem mds_of {W : World} (h : laidMet Tryd.prog [("waybill/field.moduli", Rows.laid_waybill_field_moduli)] W) : Mds W := by
  obtain ⟨ps, ⟨g, t, cs, fuel, p, q, h1, h2, h3, h4, _, _⟩, _, _⟩ := h
  obtain rfl : 0 = g := Option.some.inj (g_moduli.symm.trans h1)
  obtain rfl : 72 = t := Option.some.inj (t_moduli.symm.trans h2)
  obtain ⟨xs, m, rfl, hx, hl, hn, hi⟩ := DataW.trod_array Tryd.underlying72 h4
  have hxs : xs.map (·.1) = [.agg [Lib.tabData .u64 (mZ.take 4), Lib.tabData .u64 ((mZ.drop 4).take 4)], .agg [Lib.tabData .u64 ((mZ.drop 8).take 4), Lib.tabData .u64 (mZ.drop 12)]] := by
    have := congrArg Prod.fst hx
    simp only [Rows.laid_waybill_field_moduli, DataW.agg.injEq] at this
    exact this.symm
  have hcs : cs.toList = mZ.map fun z => Value.int .u64 z := by
    match xs, hxs with
    | [(_, p1), (_, p2)], hxs =>
      simp only [List.map_cons, List.map_nil, List.cons.injEq, and_true] at hxs
      obtain ⟨rfl, rfl⟩ := hxs
      have a := eight (hi 0 (by decide))
      have b := eight (hi 1 (by decide))
      simp only [cells_mod, Nat.zero_mul, Nat.one_mul, List.drop_zero] at a b
      rw [cells_two] at hl
      rw [show List.take 8 (List.drop 8 cs.toList) = List.drop 8 cs.toList from List.take_of_length_le (by simp only [List.length_drop]; omega)] at b
      rw [← List.take_append_drop 8 cs.toList, a, b]
      rfl
  have T : Lib.TabIs Tryd.prog W "waybill/field.moduli" .u64 mZ := by
    show W.var? Tryd.prog "waybill/field.moduli" = _
    rw [h3, ← hcs]
  intro i hi
  have hi' : i < mZ.length := hi
  rw [T.cell g_moduli i hi']
  obtain ⟨a0, a1, a2, a3⟩ := limbs_p
  obtain ⟨b0, b1, b2, b3⟩ := limbs_pc
  obtain ⟨c0, c1, c2, c3⟩ := limbs_n
  obtain ⟨d0, d1, d2, d3⟩ := limbs_nc
  rw [a0, a1, a2, a3, b0, b1, b2, b3, c0, c1, c2, c3, d0, d1, d2, d3]
  rfl
end Go.Proofs.YtnjmdncnkijijaaDoor

namespace Go.Proofs.YtnjmdncnkijijaaDoor
open Go.ChangeShapes Go.WideShapes Go.ChangeAt Go.RowKit

theorem cells_sig : Tryd.prog.cellsOf 26 = 9 := by kernel_rfl
theorem cells_bool6 : Tryd.prog.cellsOf 4 = 1 := by kernel_rfl
section
variable {H : Type} {enc : TypeId × Value → H} {w : World} {base : Nat} {spare : Nat → Bool} {held : Bool}

set_option maxRecDepth 4000 in
theorem trod_num6 {fuel : Nat} {cs : List Value} {x : DataW H × List MemPlace} (h : DataW.trod enc Tryd.prog w base spare held fuel 24 cs = some x) :
    ∃ n, Num n ∧ cs = [.int .u64 (l0 n), .int .u64 (l1 n), .int .u64 (l2 n), .int .u64 (l3 n)] ∧ x = (dat n, []) := by
  obtain ⟨xs, m, rfl, hx, hl, hn, hi⟩ := DataW.trod_array Tryd.underlying24 h
  rw [Tryd.cellsN] at hl
  simp only [Tryd.cellsW] at hi
  have i0 := hi 0 (by decide); have i1 := hi 1 (by decide); have i2 := hi 2 (by decide); have i3 := hi 3 (by decide)
  match cs, hl with
  | [c0, c1, c2, c3], _ =>
    match xs, hn with
    | [y0, y1, y2, y3], _ =>
      simp at i0 i1 i2 i3
      obtain ⟨a0, e0, rfl, w0⟩ := DataW.trod_int Tryd.underlying22 i0
      obtain ⟨a1, e1, rfl, w1⟩ := DataW.trod_int Tryd.underlying22 i1
      obtain ⟨a2, e2, rfl, w2⟩ := DataW.trod_int Tryd.underlying22 i2
      obtain ⟨a3, e3, rfl, w3⟩ := DataW.trod_int Tryd.underlying22 i3
      simp at e0 e1 e2 e3
      subst e0 e1 e2 e3
      have k0 := word_of_wf w0; have k1 := word_of_wf w1; have k2 := word_of_wf w2; have k3 := word_of_wf w3
      obtain ⟨r0, r1, r2, r3⟩ := limbs_of k0 k1 k2 k3 rfl
      refine ⟨num a0 a1 a2 a3, num_Num k0 k1 k2 k3, ?_, ?_⟩
      · rw [r0, r1, r2, r3]
      · unfold dat; rw [r0, r1, r2, r3]; simpa using hx

set_option maxRecDepth 4000 in
theorem open_sig {r : Reach} {b0 : Nat} {v : Value} {d : DataW H} {p : List MemPlace} (hv : Value.okWide Tryd.prog w r b0 26 v) (h : DataW.Trod enc Tryd.prog w base spare held 26 v d p) :
    ∃ x y i, Num x ∧ Num y ∧ v = .agg #[.int .u64 (l0 x), .int .u64 (l1 x), .int .u64 (l2 x), .int .u64 (l3 x), .int .u64 (l0 y), .int .u64 (l1 y), .int .u64 (l2 y), .int .u64 (l3 y), .bool i] ∧ d = .agg [dat x, dat y, .lit (.bool i)] ∧ p = [] := by
  obtain ⟨cs, rfl, hsz⟩ : ∃ cs : Array Value, v = .agg cs ∧ cs.size = 9 := by
    simp only [Value.okWide, Tryd.underlying26] at hv
    obtain ⟨cs, h1, h2, _⟩ := hv
    exact ⟨cs, h1, h2.trans cells_sig⟩
  obtain ⟨fuel, hf⟩ := h
  obtain ⟨xs, m, rfl, hx, hl, hn, hi⟩ := DataW.trod_struct Tryd.underlying26 hf
  match xs, hn with
  | [y0, y1, y2], _ =>
    have a : DataW.trod enc Tryd.prog w base spare held m 24 (List.take (Tryd.prog.cellsOf 24) (List.drop 0 (Value.agg cs).cells.toList)) = some y0 := hi 0 _ rfl
    have c : DataW.trod enc Tryd.prog w base spare held m 24 (List.take (Tryd.prog.cellsOf 24) (List.drop 4 (Value.agg cs).cells.toList)) = some y1 := hi 1 _ rfl
    have e : DataW.trod enc Tryd.prog w base spare held m 4 (List.take (Tryd.prog.cellsOf 4) (List.drop 8 (Value.agg cs).cells.toList)) = some y2 := hi 2 _ rfl
    obtain ⟨x, nx, ex, rfl⟩ := trod_num6 a
    obtain ⟨y, ny, ey, rfl⟩ := trod_num6 c
    obtain ⟨b, eb, rfl⟩ := DataW.trod_bool Tryd.underlying4 e
    rw [cells_bool6] at eb
    rw [cells_num] at ex ey
    simp only [Value.cells] at ex ey eb
    refine ⟨x, y, b, nx, ny, ?_, ?_, ?_⟩
    · congr 1
      apply Array.ext'
      have l9 : cs.toList.length = 9 := by simpa using hsz
      have e : cs.toList = List.take 4 (List.drop 0 cs.toList) ++ (List.take 4 (List.drop 4 cs.toList) ++ List.take 1 (List.drop 8 cs.toList)) := by
        rw [List.drop_zero, show List.take 1 (List.drop 8 cs.toList) = List.drop 8 cs.toList from List.take_of_length_le (by simp; omega), show List.drop 8 cs.toList = List.drop 4 (List.drop 4 cs.toList) by rw [List.drop_drop], List.take_append_drop, List.take_append_drop]
      rw [e, ex, ey, eb]
      rfl
    · simpa using congrArg Prod.fst hx
    · simpa using congrArg Prod.snd hx

theorem shut_sig (x y : Int) (i : Bool) : DataW.Trod enc Tryd.prog w base spare held 26 (.agg #[.int .u64 (l0 x), .int .u64 (l1 x), .int .u64 (l2 x), .int .u64 (l3 x), .int .u64 (l0 y), .int .u64 (l1 y), .int .u64 (l2 y), .int .u64 (l3 y), .bool i]) (.agg [dat x, dat y, .lit (.bool i)]) [] := by
  refine ⟨4, ?_⟩
  have w0 := wf_of_word (l0_word x); have w1 := wf_of_word (l1_word x); have w2 := wf_of_word (l2_word x); have w3 := wf_of_word (l3_word x)
  have u0 := wf_of_word (l0_word y); have u1 := wf_of_word (l1_word y); have u2 := wf_of_word (l2_word y); have u3 := wf_of_word (l3_word y)
  simp [DataW.trod, Value.cells, Tryd.underlying26, Tryd.underlying24, Tryd.underlying22, Tryd.underlying4, cells_sig, cells_bool6, cells_num, Tryd.cellsW, w0, w1, w2, w3, u0, u1, u2, u3, dat, List.range_succ]
end
end Go.Proofs.YtnjmdncnkijijaaDoor
