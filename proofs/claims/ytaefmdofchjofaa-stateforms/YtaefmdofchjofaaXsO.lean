import Derived.Test.YtaefmdofchjofaaXsB
import Derived.Test.YtaefmdofchjofaaOpen
import Derived.Test.YtaefmdofchjofaaUbO
/- Layer 21: an account as an argument. -/
namespace Go.Proofs.Ytaefmdofchjofaa
open Go.ChangeShapes Go.WideShapes Go.ChangeAt Go.RowKit
theorem cells_acN : Try.prog.cellsOf 28 = 69 := by kernel_rfl
theorem cells_u64X : Try.prog.cellsOf 22 = 1 := by kernel_rfl
theorem cells_numX : Try.prog.cellsOf 24 = 4 := by kernel_rfl
theorem cells_haX : Try.prog.cellsOf 26 = 32 := by kernel_rfl
theorem cells_u8X : Try.prog.cellsOf 5 = 1 := by kernel_rfl
theorem parts69 {α : Type} (l : List α) (h : l.length = 69) : l = List.take 1 (List.drop 0 l) ++ (List.take 4 (List.drop 1 l) ++ (List.take 32 (List.drop 5 l) ++ List.take 32 (List.drop 37 l))) := by
  have h3 : List.take 32 (List.drop 37 l) = List.drop 37 l := List.take_of_length_le (by simp; omega)
  have h2 : List.take 32 (List.drop 5 l) ++ List.drop 37 l = List.drop 5 l := by rw [show List.drop 37 l = List.drop 32 (List.drop 5 l) by rw [List.drop_drop]]; exact List.take_append_drop _ _
  have h1 : List.take 4 (List.drop 1 l) ++ List.drop 5 l = List.drop 1 l := by rw [show List.drop 5 l = List.drop 4 (List.drop 1 l) by rw [List.drop_drop]]; exact List.take_append_drop _ _
  rw [h3, h2, h1, List.drop_zero, List.take_append_drop]
section
variable {H : Type} {enc : TypeId × Value → H} {w : World} {base : Nat} {spare : Nat → Bool} {held : Bool}
set_option maxRecDepth 4000 in
theorem trod_numX {fuel : Nat} {cs : List Value} {x : DataW H × List MemPlace} (h : DataW.trod enc Try.prog w base spare held fuel 24 cs = some x) :
    ∃ n, Num n ∧ cs = [.int .u64 (l0 n), .int .u64 (l1 n), .int .u64 (l2 n), .int .u64 (l3 n)] := by
  obtain ⟨xs, m, rfl, hx, hl, hn, hi⟩ := DataW.trod_array Try.underlying24 h
  rw [Try.cellsN] at hl
  simp only [Try.cellsW] at hi
  have i0 := hi 0 (by decide); have i1 := hi 1 (by decide); have i2 := hi 2 (by decide); have i3 := hi 3 (by decide)
  match cs, hl with
  | [c0, c1, c2, c3], _ =>
    match xs, hn with
    | [y0, y1, y2, y3], _ =>
      simp at i0 i1 i2 i3
      obtain ⟨a0, e0, rfl, w0⟩ := DataW.trod_int Try.underlying22 i0
      obtain ⟨a1, e1, rfl, w1⟩ := DataW.trod_int Try.underlying22 i1
      obtain ⟨a2, e2, rfl, w2⟩ := DataW.trod_int Try.underlying22 i2
      obtain ⟨a3, e3, rfl, w3⟩ := DataW.trod_int Try.underlying22 i3
      simp at e0 e1 e2 e3
      subst e0 e1 e2 e3
      have k0 := word_of_wf w0; have k1 := word_of_wf w1; have k2 := word_of_wf w2; have k3 := word_of_wf w3
      obtain ⟨r0, r1, r2, r3⟩ := limbs_of k0 k1 k2 k3 rfl
      refine ⟨num a0 a1 a2 a3, num_Num k0 k1 k2 k3, ?_⟩
      rw [r0, r1, r2, r3]
set_option maxRecDepth 4000 in
theorem cells_bytesX {fuel : Nat} {cs : List Value} {x : DataW H × List MemPlace} (h : DataW.trod enc Try.prog w base spare held fuel 26 cs = some x) :
    ∃ X : List Int, X.length = 32 ∧ cs = u8L X := by
  obtain ⟨xs, m, rfl, hx, hl, hn, hi⟩ := DataW.trod_array Try.underlying26 h
  rw [cells_haX] at hl
  simp only [cells_u8X] at hi
  have hc : ∀ i, i < 32 → ∃ z, cs[i]? = some (.int .u8 z) := fun i hi2 => by
    have k := hi i hi2
    rw [Nat.mul_one] at k
    rw [List.getElem?_eq_getElem (show i < xs.length by omega)] at k
    obtain ⟨z, e, _, _⟩ := DataW.trod_int Try.underlying5 k
    refine ⟨z, ?_⟩
    have := congrArg (fun l => l[0]?) e
    simp only [List.getElem?_take, List.getElem?_drop] at this
    simpa using this
  refine ⟨cs.map fun v => match v with | .int _ z => z | _ => 0, by rw [List.length_map]; exact hl, ?_⟩
  apply List.ext_getElem?
  intro i
  by_cases k : i < 32
  · obtain ⟨z, e⟩ := hc i k
    rw [u8L, List.map_map, List.getElem?_map, e]
    rfl
  · rw [List.getElem?_eq_none (by omega), List.getElem?_eq_none (by rw [u8L, List.length_map, List.length_map]; omega)]
set_option maxRecDepth 10000 in
theorem open_ac {r : Reach} {b0 : Nat} {v : Value} {d : DataW H} {p : List MemPlace} (hv : Value.okWide Try.prog w r b0 28 v) (h : DataW.Trod enc Try.prog w base spare held 28 v d p) :
    ∃ (n b : Int) (S C : List Int), Word n ∧ Num b ∧ S.length = 32 ∧ C.length = 32 ∧ v = .agg (acM n b (u8L S) (u8L C)).toArray := by
  obtain ⟨cs, rfl, hsz⟩ : ∃ cs : Array Value, v = .agg cs ∧ cs.size = 69 := by
    simp only [Value.okWide, Try.underlying28] at hv
    obtain ⟨cs, h1, h2, _⟩ := hv
    exact ⟨cs, h1, h2.trans cells_acN⟩
  obtain ⟨fuel, hf⟩ := h
  obtain ⟨xs, m, rfl, hxx, hl, hn, hi⟩ := DataW.trod_struct Try.underlying28 hf
  match xs, hn with
  | [y0, y1, y2, y3], _ =>
    have a0 : DataW.trod enc Try.prog w base spare held m 22 (List.take (Try.prog.cellsOf 22) (List.drop 0 (Value.agg cs).cells.toList)) = some y0 := hi 0 _ rfl
    have a1 : DataW.trod enc Try.prog w base spare held m 24 (List.take (Try.prog.cellsOf 24) (List.drop 1 (Value.agg cs).cells.toList)) = some y1 := hi 1 _ rfl
    have a2 : DataW.trod enc Try.prog w base spare held m 26 (List.take (Try.prog.cellsOf 26) (List.drop 5 (Value.agg cs).cells.toList)) = some y2 := hi 2 _ rfl
    have a3 : DataW.trod enc Try.prog w base spare held m 26 (List.take (Try.prog.cellsOf 26) (List.drop 37 (Value.agg cs).cells.toList)) = some y3 := hi 3 _ rfl
    obtain ⟨n, en, _, wn⟩ := DataW.trod_int Try.underlying22 a0
    obtain ⟨b, nb, eb⟩ := trod_numX a1
    obtain ⟨S, lS, eS⟩ := cells_bytesX a2
    obtain ⟨C, lC, eC⟩ := cells_bytesX a3
    rw [cells_numX] at eb
    rw [cells_u64X] at en
    rw [cells_haX] at eS eC
    simp only [Value.cells] at en eb eS eC
    refine ⟨n, b, S, C, word_of_wf wn, nb, lS, lC, ?_⟩
    congr 1
    apply Array.ext'
    rw [parts69 cs.toList (by simpa using hsz), en, eb, eS, eC]
    rfl
end
end Go.Proofs.Ytaefmdofchjofaa
