import Derived.Test.YtfpiopjlcjckeaaDoorOpen
import Derived.Test.YtfpiopjlcjckeaaDoorFLaid
namespace Go.Proofs.YtfpiopjlcjckeaaDoor
open Go.ChangeShapes Go.WideShapes Go.ChangeAt Go.RowKit

section
variable {H : Type} {enc : TypeId × Value → H} {w : World} {base : Nat} {spare : Nat → Bool} {held : Bool}

theorem trod_num {fuel : Nat} {cs : List Value} {x : DataW H × List MemPlace} (h : DataW.trod enc Tryd.prog w base spare held fuel 30 cs = some x) :
    ∃ n, Num n ∧ cs = [.int .u64 (l0 n), .int .u64 (l1 n), .int .u64 (l2 n), .int .u64 (l3 n)] ∧ x = (dat n, []) := by
  obtain ⟨xs, m, rfl, hx, hl, hn, hi⟩ := DataW.trod_array Tryd.underlying30 h
  rw [Tryd.cellsN] at hl
  simp only [Tryd.cellsW] at hi
  have i0 := hi 0 (by decide); have i1 := hi 1 (by decide); have i2 := hi 2 (by decide); have i3 := hi 3 (by decide)
  match cs, hl with
  | [c0, c1, c2, c3], _ =>
    match xs, hn with
    | [y0, y1, y2, y3], _ =>
      simp at i0 i1 i2 i3
      obtain ⟨a0, e0, rfl, w0⟩ := DataW.trod_int Tryd.underlying28 i0
      obtain ⟨a1, e1, rfl, w1⟩ := DataW.trod_int Tryd.underlying28 i1
      obtain ⟨a2, e2, rfl, w2⟩ := DataW.trod_int Tryd.underlying28 i2
      obtain ⟨a3, e3, rfl, w3⟩ := DataW.trod_int Tryd.underlying28 i3
      simp at e0 e1 e2 e3
      subst e0 e1 e2 e3
      have k0 := word_of_wf w0; have k1 := word_of_wf w1; have k2 := word_of_wf w2; have k3 := word_of_wf w3
      obtain ⟨r0, r1, r2, r3⟩ := limbs_of k0 k1 k2 k3 rfl
      refine ⟨num a0 a1 a2 a3, num_Num k0 k1 k2 k3, ?_, ?_⟩
      · rw [r0, r1, r2, r3]
      · unfold dat; rw [r0, r1, r2, r3]; simpa using hx

theorem Tryd.cells3 : Tryd.prog.cellsOf 40 = 12 := by kernel_rfl

theorem open_three {r : Reach} {b0 : Nat} {v : Value} {d : DataW H} {p : List MemPlace} (hv : Value.okWide Tryd.prog w r b0 40 v) (h : DataW.Trod enc Tryd.prog w base spare held 40 v d p) :
    ∃ x y z, Num x ∧ Num y ∧ Num z ∧ v = .agg #[.int .u64 (l0 x), .int .u64 (l1 x), .int .u64 (l2 x), .int .u64 (l3 x), .int .u64 (l0 y), .int .u64 (l1 y), .int .u64 (l2 y), .int .u64 (l3 y), .int .u64 (l0 z), .int .u64 (l1 z), .int .u64 (l2 z), .int .u64 (l3 z)] ∧ d = .agg [dat x, dat y, dat z] ∧ p = [] := by
  obtain ⟨cs, rfl, hsz⟩ : ∃ cs : Array Value, v = .agg cs ∧ cs.size = 12 := by
    simp only [Value.okWide, Tryd.underlying40] at hv
    obtain ⟨cs, h1, h2, _⟩ := hv
    exact ⟨cs, h1, h2.trans Tryd.cells3⟩
  obtain ⟨fuel, hf⟩ := h
  obtain ⟨xs, m, rfl, hx, hl, hn, hi⟩ := DataW.trod_array Tryd.underlying40 hf
  simp only [Value.cells, Tryd.cellsN] at hi
  have i0 := hi 0 (by decide); have i1 := hi 1 (by decide); have i2 := hi 2 (by decide)
  match xs, hn with
  | [y0, y1, y2], _ =>
    simp only [List.getElem?_cons_zero, List.getElem?_cons_succ] at i0 i1 i2
    obtain ⟨x, nx, ex, rfl⟩ := trod_num i0
    obtain ⟨y, ny, ey, rfl⟩ := trod_num i1
    obtain ⟨z, nz, ez, rfl⟩ := trod_num i2
    refine ⟨x, y, z, nx, ny, nz, ?_, ?_, ?_⟩
    · congr 1
      apply Array.ext'
      have e : cs.toList = (cs.toList.drop (0 * 4)).take 4 ++ ((cs.toList.drop (1 * 4)).take 4 ++ (cs.toList.drop (2 * 4)).take 4) := by
        have l12 : cs.toList.length = 12 := by simpa using hsz
        apply List.ext_getElem?
        intro i
        simp only [List.getElem?_append, List.length_take, List.length_drop, List.getElem?_take, List.getElem?_drop, l12]
        by_cases h1 : i < 4
        · simp [h1]
        · by_cases h2 : i < 8
          · rw [if_neg (by omega), if_pos (by omega), if_pos (by omega)]
            exact congrArg (fun j => cs.toList[j]?) (by omega)
          · by_cases h3 : i < 12
            · rw [if_neg (by omega), if_neg (by omega), if_pos (by omega)]
              exact congrArg (fun j => cs.toList[j]?) (by omega)
            · rw [if_neg (by omega), if_neg (by omega), if_neg (by omega)]
              exact List.getElem?_eq_none (by omega)
      rw [e, ex, ey, ez]
      rfl
    · simpa using congrArg Prod.fst hx
    · simpa using congrArg Prod.snd hx

theorem shut_three (x y z : Int) : DataW.Trod enc Tryd.prog w base spare held 40 (.agg #[.int .u64 (l0 x), .int .u64 (l1 x), .int .u64 (l2 x), .int .u64 (l3 x), .int .u64 (l0 y), .int .u64 (l1 y), .int .u64 (l2 y), .int .u64 (l3 y), .int .u64 (l0 z), .int .u64 (l1 z), .int .u64 (l2 z), .int .u64 (l3 z)]) (.agg [dat x, dat y, dat z]) [] := by
  refine ⟨3, ?_⟩
  have w0 := wf_of_word (l0_word x); have w1 := wf_of_word (l1_word x); have w2 := wf_of_word (l2_word x); have w3 := wf_of_word (l3_word x)
  have u0 := wf_of_word (l0_word y); have u1 := wf_of_word (l1_word y); have u2 := wf_of_word (l2_word y); have u3 := wf_of_word (l3_word y)
  have v0 := wf_of_word (l0_word z); have v1 := wf_of_word (l1_word z); have v2 := wf_of_word (l2_word z); have v3 := wf_of_word (l3_word z)
  simp [DataW.trod, Value.cells, Tryd.underlying40, Tryd.underlying30, Tryd.underlying28, Tryd.cells3, Tryd.cellsN, Tryd.cellsW, w0, w1, w2, w3, u0, u1, u2, u3, v0, v1, v2, v3, dat, List.range_succ]
end
end Go.Proofs.YtfpiopjlcjckeaaDoor
