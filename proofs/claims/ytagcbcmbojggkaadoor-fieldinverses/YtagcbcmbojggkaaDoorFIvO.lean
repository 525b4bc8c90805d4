import Derived.Test.YtagcbcmbojggkaaDoorFIvW
import Derived.SizedLaws
import Derived.Test.YtagcbcmbojggkaaDoorOpen
import Derived.ProofKit
import Derived.OpenShut
import Derived.Carry
import Derived.ChangeSlices
import Derived.Deep.Slices
/- A list of numbers as an argument. -/
namespace Go.Proofs.YtagcbcmbojggkaaDoor
open Go.ChangeShapes Go.WideShapes Go.ChangeAt Go.RowKit Go.Deep

theorem bytesU : Tryd.prog.bytesOf 25 = 32 := by kernel_rfl
theorem laidOutF : laidOutB Tryd.prog = true := by kernel_rfl
theorem list_ofF {α : Type} {p : Nat → α → Prop} (z : α) : ∀ n, (∀ i, i < n → ∃ a, p i a) → ∃ L : List α, L.length = n ∧ ∀ i, i < n → p i (L.getD i z)
  | 0, _ => ⟨[], rfl, fun _ h => absurd h (Nat.not_lt_zero _)⟩
  | n + 1, h => by
    obtain ⟨L, hl, hp⟩ := list_ofF z n fun i hi => h i (by omega)
    obtain ⟨a, ha⟩ := h n (by omega)
    refine ⟨L ++ [a], by simp [hl], fun i hi => ?_⟩
    by_cases e : i = n
    · subst e; simpa [List.getD, ← hl] using ha
    · have h1 := hp i (by omega)
      simpa [List.getD, List.getElem?_append_left (show i < L.length by omega)] using h1
section
variable {H : Type} {enc : TypeId × Value → H}
theorem cells_num4 {w : World} {base fuel : Nat} {spare : Nat → Bool} {held : Bool} {cs : List Value} {x : DataW H × List MemPlace} (hf : DataW.trod enc Tryd.prog w base spare held fuel 25 cs = some x) :
    ∃ n, Num n ∧ cs = [.int .u64 (l0 n), .int .u64 (l1 n), .int .u64 (l2 n), .int .u64 (l3 n)] := by
  obtain ⟨xs, m, rfl, hx, hl, hn, hi⟩ := DataW.trod_array Tryd.underlying25 hf
  rw [Tryd.cellsN] at hl
  simp only [Tryd.cellsW] at hi
  match cs, hl with
  | [c0, c1, c2, c3], _ =>
    have i0 := hi 0 (by decide); have i1 := hi 1 (by decide); have i2 := hi 2 (by decide); have i3 := hi 3 (by decide)
    match xs, hn with
    | [y0, y1, y2, y3], _ =>
      simp at i0 i1 i2 i3
      obtain ⟨a0, e0, _, w0⟩ := DataW.trod_int Tryd.underlying23 i0
      obtain ⟨a1, e1, _, w1⟩ := DataW.trod_int Tryd.underlying23 i1
      obtain ⟨a2, e2, _, w2⟩ := DataW.trod_int Tryd.underlying23 i2
      obtain ⟨a3, e3, _, w3⟩ := DataW.trod_int Tryd.underlying23 i3
      simp at e0 e1 e2 e3
      subst e0 e1 e2 e3
      have k0 := word_of_wf w0; have k1 := word_of_wf w1; have k2 := word_of_wf w2; have k3 := word_of_wf w3
      obtain ⟨r0, r1, r2, r3⟩ := limbs_of k0 k1 k2 k3 rfl
      exact ⟨num a0 a1 a2 a3, num_Num k0 k1 k2 k3, by rw [r0, r1, r2, r3]⟩
set_option maxRecDepth 100000 in
theorem open_nums {W : World} {base : Nat} {v : Value} {d : DataW H} {p : List MemPlace} (hval : Value.okWide Tryd.prog W .any base 22 v) (h : DataW.Trod enc Tryd.prog W 0 (fun _ => true) true 22 v d p) :
    ∃ (a : Option Addr) (bp op cp : Nat) (L : List Int), v = .slice a L.length cp ∧ At4 a bp op L ∧ Nms W bp op L ∧ (∀ i, i < L.length → Num (L.getD i 0)) ∧ ((d.weights Tryd.prog 22).all (· ≤ reachBytes) = true → L.length ≤ 4398046511104) := by
  obtain ⟨a1, len, cap, rfl⟩ := okWide_slice Tryd.underlying22 hval
  obtain ⟨fuel, hf⟩ := h
  rcases open_slice Tryd.underlying22 hf with ⟨hcs, hx⟩ | ⟨a, len', cap', m, n, D, Pl, hcs, _, hl, hm, hM, hx, hr⟩
  · simp [Value.cells] at hcs
    obtain ⟨rfl, rfl, rfl⟩ := hcs
    exact ⟨.none, 0, 0, 0, [], rfl, .inl rfl, (fun i hi => absurd hi (Nat.not_lt_zero _)), fun i hi => absurd hi (Nat.not_lt_zero _), fun _ => by simp⟩
  · simp [Value.cells] at hcs
    obtain ⟨rfl, rfl, rfl⟩ := hcs
    simp only [if_true] at hM
    subst hM
    simp only [Prod.mk.injEq] at hx
    obtain ⟨rfl, rfl⟩ := hx
    have bl : ((DataW.slice (H := H) ((List.range len).map D) ((List.range (m - len)).map fun j => D (len + j))).weights Tryd.prog 22).all (· ≤ reachBytes) = true → len ≤ 4398046511104 := fun hw => by
      rw [DataW.weights, Tryd.underlying22] at hw
      simp only [List.all_cons, Bool.and_eq_true, decide_eq_true_eq, bytesU] at hw
      have h1 := hw.1
      have e2 : reachBytes = 140737488351232 := by decide
      rw [List.length_map, List.length_range, List.length_map, List.length_range, e2] at h1
      omega
    rw [Tryd.cellsN] at hr
    obtain ⟨ab, ao, spot⟩ := a
    have each : ∀ i, i < len → ∃ z : Int, Num z ∧ ∀ j u, [Value.int .u64 (l0 z), .int .u64 (l1 z), .int .u64 (l2 z), .int .u64 (l3 z)][j]? = some u → W.cell? (((⟨ab, ao, spot⟩ : Addr).add (i * 4)).add j) = some u := fun i hi => by
      obtain ⟨cs', h1, h2⟩ := hr i (by omega)
      obtain ⟨z, hz, rfl⟩ := cells_num4 h2
      refine ⟨z, hz, fun j u hu => ?_⟩
      have hj : j < 4 := (List.getElem?_eq_some_iff.1 hu).1
      unfold World.cells? at h1
      split at h1
      · have := mapM_some_get h1 j j (by simp [hj])
        rw [this, hu]
      · cases h1
    by_cases h0 : len = 0
    · subst h0
      exact ⟨some ⟨ab, ao, spot⟩, 0, 0, m, [], rfl, .inl rfl, fun i hi => absurd hi (Nat.not_lt_zero _), fun i hi => absurd hi (Nat.not_lt_zero _), fun _ => by simp⟩
    · have hspot : spot = .none := by
        obtain ⟨z, hz, hc⟩ := each 0 (by omega)
        have h1 := hc 0 (.int .u64 (l0 z)) rfl
        simpa [Addr.add] using World.cell?_spot h1
      subst hspot
      obtain ⟨L, hl2, hp⟩ := list_ofF (p := fun i (z : Int) => Num z ∧ W.cell? ⟨ab, ao + i * 4, none⟩ = some (.int .u64 (l0 z)) ∧ W.cell? ⟨ab, ao + i * 4 + 1, none⟩ = some (.int .u64 (l1 z)) ∧ W.cell? ⟨ab, ao + i * 4 + 2, none⟩ = some (.int .u64 (l2 z)) ∧ W.cell? ⟨ab, ao + i * 4 + 3, none⟩ = some (.int .u64 (l3 z))) 0 len (fun i hi => by
        obtain ⟨z, hz, hc⟩ := each i hi
        have q : ∀ j u, [Value.int .u64 (l0 z), .int .u64 (l1 z), .int .u64 (l2 z), .int .u64 (l3 z)][j]? = some u → W.cell? ⟨ab, ao + i * 4 + j, none⟩ = some u := fun j u hu => by
          have := hc j u hu
          rw [Addr.add_lit, Addr.add_lit] at this
          exact this
        exact ⟨z, hz, q 0 _ rfl, q 1 _ rfl, q 2 _ rfl, q 3 _ rfl⟩)
      exact ⟨some ⟨ab, ao, .none⟩, ab, ao, m, L, by rw [hl2], .inr rfl, fun k hk => (hp k (by omega)).2, fun k hk => (hp k (by omega)).1, fun hw => by rw [hl2]; exact bl hw⟩
end
end Go.Proofs.YtagcbcmbojggkaaDoor
