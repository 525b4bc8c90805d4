import Derived.Test.YtlpmphldmfefkaaDoorNum
import Derived.Test.YtlpmphldmfefkaaDoorRows
import Derived.ProofKit
import Derived.OpenShut
import Derived.Lib.SmallJoins
namespace Go.Proofs.YtlpmphldmfefkaaDoor
open Go.ChangeShapes Go.WideShapes Go.ChangeAt Go.RowKit

theorem Tryd.cellsN : Tryd.prog.cellsOf 24 = 4 := by kernel_rfl
theorem Tryd.cellsW : Tryd.prog.cellsOf 22 = 1 := by kernel_rfl

theorem word_of_wf {x : Int} (h : (Lit.int .u64 x).wf = true) : Word x := by
  simp [Lit.wf, IntKind.min, IntKind.max, IntKind.signed, IntKind.bits] at h
  exact ⟨by omega, by omega⟩
/-- How a number reads. -/
def dat {H : Type} (n : Int) : DataW H := .agg [.lit (.int .u64 (l0 n)), .lit (.int .u64 (l1 n)), .lit (.int .u64 (l2 n)), .lit (.int .u64 (l3 n))]

section
variable {H : Type} {enc : TypeId × Value → H} {w : World} {base : Nat} {spare : Nat → Bool} {held : Bool}

set_option maxRecDepth 4000 in
theorem open_num {r : Reach} {b0 : Nat} {v : Value} {d : DataW H} {p : List MemPlace} (hv : Value.okWide Tryd.prog w r b0 24 v) (h : DataW.Trod enc Tryd.prog w base spare held 24 v d p) :
    ∃ n, Num n ∧ v = .agg #[.int .u64 (l0 n), .int .u64 (l1 n), .int .u64 (l2 n), .int .u64 (l3 n)] ∧ d = dat n ∧ p = [] := by
  obtain ⟨cs, rfl, hsz⟩ : ∃ cs : Array Value, v = .agg cs ∧ cs.size = 4 := by
    simp only [Value.okWide, Tryd.underlying24] at hv
    obtain ⟨cs, h1, h2, _⟩ := hv
    exact ⟨cs, h1, h2.trans Tryd.cellsN⟩
  obtain ⟨c0, c1, c2, c3, rfl⟩ := Joins.array4 hsz
  obtain ⟨fuel, hf⟩ := h
  obtain ⟨xs, m, rfl, hx, hl, hn, hi⟩ := DataW.trod_array Tryd.underlying24 hf
  simp only [Value.cells, Tryd.cellsW] at hi
  have i0 := hi 0 (by decide); have i1 := hi 1 (by decide); have i2 := hi 2 (by decide); have i3 := hi 3 (by decide)
  match xs, hn with
  | [y0, y1, y2, y3], _ =>
    simp at i0 i1 i2 i3
    obtain ⟨a0, e0, rfl, w0⟩ := DataW.trod_int Tryd.underlying22 i0
    obtain ⟨a1, e1, rfl, w1⟩ := DataW.trod_int Tryd.underlying22 i1
    obtain ⟨a2, e2, rfl, w2⟩ := DataW.trod_int Tryd.underlying22 i2
    obtain ⟨a3, e3, rfl, w3⟩ := DataW.trod_int Tryd.underlying22 i3
    simp at e0 e1 e2 e3
    subst e0 e1 e2 e3
    have k0 := word_of_wf w0; have k1 := word_of_wf w1; have k2 := word_of_wf w2; have k3 := word_of_wf w3
    obtain ⟨r0, r1, r2, r3⟩ := limbs_of k0 k1 k2 k3 rfl
    refine ⟨num a0 a1 a2 a3, num_Num k0 k1 k2 k3, ?_, ?_, ?_⟩
    · rw [r0, r1, r2, r3]
    · unfold dat; rw [r0, r1, r2, r3]; simpa using congrArg Prod.fst hx
    · simpa using congrArg Prod.snd hx

end
end Go.Proofs.YtlpmphldmfefkaaDoor
