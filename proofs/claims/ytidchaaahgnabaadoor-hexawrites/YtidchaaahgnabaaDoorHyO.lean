import Derived.Test.YtidchaaahgnabaaDoorHyH
import Derived.Test.YtidchaaahgnabaaDoorRows
import Derived.ProofKit
import Derived.OpenShut
import Derived.Lib.SmallJoins
import Derived.SizedLaws
import Derived.Carry
import Derived.ChangeSlices
import Derived.ChangeMaps5
/- Layer 8: arguments opened. -/
namespace Go.Proofs.YtidchaaahgnabaaDoor.hn
open Go.ChangeShapes Go.WideShapes Go.ChangeAt Go.RowKit
theorem Tryd.cellsN : Tryd.prog.cellsOf 34 = 4 := by kernel_rfl
theorem Tryd.cellsW : Tryd.prog.cellsOf 32 = 1 := by kernel_rfl

theorem word_of_wf {x : Int} (h : (Lit.int .u64 x).wf = true) : Word x := by
  simp [Lit.wf, IntKind.min, IntKind.max, IntKind.signed, IntKind.bits] at h
  exact ⟨by omega, by omega⟩
theorem wf_of_word {x : Int} (h : Word x) : (Lit.int .u64 x).wf = true := by
  obtain ⟨_, _⟩ := h
  simp [Lit.wf, IntKind.min, IntKind.max, IntKind.signed, IntKind.bits]
  omega

/-- How a number reads. -/
def dat {H : Type} (n : Int) : DataW H := .agg [.lit (.int .u64 (l0 n)), .lit (.int .u64 (l1 n)), .lit (.int .u64 (l2 n)), .lit (.int .u64 (l3 n))]

section
variable {H : Type} {enc : TypeId × Value → H} {w : World} {base : Nat} {spare : Nat → Bool} {held : Bool}

set_option maxRecDepth 4000 in
theorem open_num {r : Reach} {b0 : Nat} {v : Value} {d : DataW H} {p : List MemPlace} (hv : Value.okWide Tryd.prog w r b0 34 v) (h : DataW.Trod enc Tryd.prog w base spare held 34 v d p) :
    ∃ n, Num n ∧ v = .agg #[.int .u64 (l0 n), .int .u64 (l1 n), .int .u64 (l2 n), .int .u64 (l3 n)] ∧ d = dat n ∧ p = [] := by
  obtain ⟨cs, rfl, hsz⟩ : ∃ cs : Array Value, v = .agg cs ∧ cs.size = 4 := by
    simp only [Value.okWide, Tryd.underlying34] at hv
    obtain ⟨cs, h1, h2, _⟩ := hv
    exact ⟨cs, h1, h2.trans Tryd.cellsN⟩
  obtain ⟨c0, c1, c2, c3, rfl⟩ := Joins.array4 hsz
  obtain ⟨fuel, hf⟩ := h
  obtain ⟨xs, m, rfl, hx, hl, hn, hi⟩ := DataW.trod_array Tryd.underlying34 hf
  simp only [Value.cells, Tryd.cellsW] at hi
  have i0 := hi 0 (by decide); have i1 := hi 1 (by decide); have i2 := hi 2 (by decide); have i3 := hi 3 (by decide)
  match xs, hn with
  | [y0, y1, y2, y3], _ =>
    simp at i0 i1 i2 i3
    obtain ⟨a0, e0, rfl, w0⟩ := DataW.trod_int Tryd.underlying32 i0
    obtain ⟨a1, e1, rfl, w1⟩ := DataW.trod_int Tryd.underlying32 i1
    obtain ⟨a2, e2, rfl, w2⟩ := DataW.trod_int Tryd.underlying32 i2
    obtain ⟨a3, e3, rfl, w3⟩ := DataW.trod_int Tryd.underlying32 i3
    simp at e0 e1 e2 e3
    subst e0 e1 e2 e3
    have k0 := word_of_wf w0; have k1 := word_of_wf w1; have k2 := word_of_wf w2; have k3 := word_of_wf w3
    obtain ⟨r0, r1, r2, r3⟩ := limbs_of k0 k1 k2 k3 rfl
    refine ⟨num a0 a1 a2 a3, num_Num k0 k1 k2 k3, ?_, ?_, ?_⟩
    · rw [r0, r1, r2, r3]
    · unfold dat; rw [r0, r1, r2, r3]; simpa using congrArg Prod.fst hx
    · simpa using congrArg Prod.snd hx

theorem shut_num (n : Int) : DataW.Trod enc Tryd.prog w base spare held 34 (.agg #[.int .u64 (l0 n), .int .u64 (l1 n), .int .u64 (l2 n), .int .u64 (l3 n)]) (dat n) [] := by
  refine ⟨2, ?_⟩
  have w0 := wf_of_word (l0_word n); have w1 := wf_of_word (l1_word n); have w2 := wf_of_word (l2_word n); have w3 := wf_of_word (l3_word n)
  simp [DataW.trod, Value.cells, Tryd.underlying34, Tryd.underlying32, Tryd.cellsN, Tryd.cellsW, w0, w1, w2, w3, dat, List.range_succ]
end
def Bys (X : List Int) : Prop := ∀ x ∈ X, 0 ≤ x ∧ x < 256
theorem Bys.at {X : List Int} (h : Bys X) (i : Nat) : 0 ≤ X.getD i 0 ∧ X.getD i 0 < 256 := by
  by_cases hi : i < X.length
  · rw [List.getD, List.getElem?_eq_getElem hi]
    exact h _ (List.getElem_mem hi)
  · rw [List.getD, List.getElem?_eq_none (by omega)]
    exact ⟨by decide, by decide⟩
theorem laidOutM : laidOutB Tryd.prog = true := by kernel_rfl
theorem cells8 : Tryd.prog.cellsOf 5 = 1 := by kernel_rfl
theorem bytes8 : Tryd.prog.bytesOf 5 = 1 := by kernel_rfl
section
variable {H : Type} {enc : TypeId × Value → H}
set_option maxRecDepth 100000 in
theorem open_u8 {W : World} {base : Nat} {v : Value} {d : DataW H} {p : List MemPlace} (hval : Value.okWide Tryd.prog W .any base 30 v) (h : DataW.Trod enc Tryd.prog W 0 (fun _ => true) true 30 v d p) :
    ∃ (a : Option Addr) (bt ot ct : Nat) (X : List Int), v = .slice a X.length ct ∧ Az a bt ot X ∧ Bz W bt ot X ∧ Bys X ∧ X.length ≤ ct ∧ ((d.weights Tryd.prog 30).all (· ≤ reachBytes) = true → X.length ≤ 140737488351232) := by
  obtain ⟨a1, len, cap, rfl⟩ := okWide_slice Tryd.underlying30 hval
  obtain ⟨fuel, hf⟩ := h
  rcases open_ints Tryd.underlying30 Tryd.underlying5 cells8 hf with ⟨hcs, hx⟩ | ⟨a, len', cap', zs, hcs, _, hl, hm, hz, hx, hcell, hwz⟩
  · simp [Value.cells] at hcs
    obtain ⟨rfl, rfl, rfl⟩ := hcs
    exact ⟨.none, 0, 0, 0, [], rfl, .inl rfl, fun i hi => absurd hi (by simp), fun x hx => (by simp at hx), Nat.le_refl _, fun _ => by simp⟩
  · simp [Value.cells] at hcs
    obtain ⟨rfl, rfl, rfl⟩ := hcs
    simp only [Prod.mk.injEq] at hx
    obtain ⟨rfl, rfl⟩ := hx
    simp only [if_true] at hz
    have lL : (zs.take len).length = len := by rw [List.length_take]; omega
    have hB : Bys (zs.take len) := fun x hx => by
      have := hwz x (List.mem_of_mem_take hx)
      simp [Lit.wf, IntKind.min, IntKind.max, IntKind.signed, IntKind.bits] at this
      exact ⟨by omega, by omega⟩
    have bl : ((DataW.slice (H := H) (lits .u8 (zs.take len)) (lits .u8 (zs.drop len))).weights Tryd.prog 30).all (· ≤ reachBytes) = true → (zs.take len).length ≤ 140737488351232 := fun hw => by
      rw [DataW.weights, Tryd.underlying30] at hw
      simp only [List.all_cons, Bool.and_eq_true, decide_eq_true_eq, bytes8] at hw
      have h1 := hw.1
      have e1 : (lits (H := H) .u8 (zs.take len)).length = (zs.take len).length := by simp [lits]
      rw [e1] at h1
      have e2 : reachBytes = 140737488351232 := by decide
      rw [e2] at h1
      omega
    by_cases h0 : len = 0
    · exact ⟨some a, 0, 0, cap, zs.take len, by rw [lL], .inl (List.eq_nil_of_length_eq_zero (by omega)), fun i hi => absurd hi (by omega), hB, by omega, bl⟩
    · obtain ⟨ab, ao, spot⟩ := a
      have hspot : spot = .none := by simpa [Addr.add] using World.cell?_spot (hcell 0 (by omega))
      subst hspot
      refine ⟨some ⟨ab, ao, .none⟩, ab, ao, cap, zs.take len, by rw [lL], .inr rfl, fun i hi => ?_, hB, by omega, bl⟩
      have hc := hcell i (by omega)
      rw [Addr.add_lit] at hc
      rw [hc]
      simp [List.getD, show i < len by omega]
end
section
variable {H : Type} {enc : TypeId × Value → H} {P : Program} {w : World} {base : Nat} {spare : Nat → Bool} {held : Bool}
theorem trodAll_five {t0 t1 t2 t3 t4 : TypeId} {args : Array Value} {ds : List (DataW H)} {ps : List MemPlace} (h : DataW.TrodAll enc P w base spare held [t0, t1, t2, t3, t4] args.toList ds ps) :
    ∃ v0 v1 v2 v3 v4 d0 d1 d2 d3 d4 p0 p1 p2 p3 p4, args = #[v0, v1, v2, v3, v4] ∧ ds = [d0, d1, d2, d3, d4] ∧ ps = p0 ++ p1 ++ p2 ++ p3 ++ p4 ∧ DataW.Trod enc P w base spare held t0 v0 d0 p0 ∧ DataW.Trod enc P w base spare held t1 v1 d1 p1 ∧ DataW.Trod enc P w base spare held t2 v2 d2 p2 ∧ DataW.Trod enc P w base spare held t3 v3 d3 p3 ∧ DataW.Trod enc P w base spare held t4 v4 d4 p4 := by
  obtain ⟨v0, vs, d0, ds', p0, q, hargs, rfl, rfl, g0, hr⟩ := trodAll_cons h
  obtain ⟨v1, v2, v3, v4, d1, d2, d3, d4, p1, p2, p3, p4, ha, rfl, rfl, g1, g2, g3, g4⟩ := trodAll_four (args := vs.toArray) (by simpa using hr)
  have hv : vs = [v1, v2, v3, v4] := by
    have := congrArg Array.toList ha
    simpa using this
  subst hv
  exact ⟨v0, v1, v2, v3, v4, d0, d1, d2, d3, d4, p0, p1, p2, p3, p4, by cases args; simp_all, rfl, by simp, g0, g1, g2, g3, g4⟩
theorem trodAll_mk5 {t0 t1 t2 t3 t4 : TypeId} {v0 v1 v2 v3 v4 : Value} {d0 d1 d2 d3 d4 : DataW H} {p0 p1 p2 p3 p4 : List MemPlace} (h0 : DataW.Trod enc P w base spare held t0 v0 d0 p0) (h1 : DataW.Trod enc P w base spare held t1 v1 d1 p1) (h2 : DataW.Trod enc P w base spare held t2 v2 d2 p2) (h3 : DataW.Trod enc P w base spare held t3 v3 d3 p3) (h4 : DataW.Trod enc P w base spare held t4 v4 d4 p4) :
    DataW.TrodAll enc P w base spare held [t0, t1, t2, t3, t4] [v0, v1, v2, v3, v4] [d0, d1, d2, d3, d4] (p0 ++ (p1 ++ (p2 ++ (p3 ++ p4)))) := ⟨p0, p1 ++ (p2 ++ (p3 ++ p4)), h0, trodAll_mk4 h1 h2 h3 h4, rfl⟩
end
end Go.Proofs.YtidchaaahgnabaaDoor.hn
