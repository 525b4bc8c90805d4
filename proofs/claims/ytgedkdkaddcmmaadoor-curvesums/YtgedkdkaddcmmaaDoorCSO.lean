import Derived.Test.YtgedkdkaddcmmaaDoorCLaid
import Derived.Test.YtgedkdkaddcmmaaDoorCSumK
import Derived.SizedLaws
import Derived.ProofKit
import Derived.OpenShut
import Derived.Carry
import Derived.ChangeSlices
import Derived.Deep.Slices
/- A list of points as an argument. -/
namespace Go.Proofs.YtgedkdkaddcmmaaDoor
open Go.ChangeShapes Go.WideShapes Go.ChangeAt Go.RowKit Go.Deep

theorem bytesPt : Tryd.prog.bytesOf 27 = 72 := by kernel_rfl
theorem laidOutP : laidOutB Tryd.prog = true := by kernel_rfl
theorem cellsPt : Tryd.prog.cellsOf 27 = 9 := by kernel_rfl
theorem list_ofP {α : Type} {p : Nat → α → Prop} (z : α) : ∀ n, (∀ i, i < n → ∃ a, p i a) → ∃ L : List α, L.length = n ∧ ∀ i, i < n → p i (L.getD i z)
  | 0, _ => ⟨[], rfl, fun _ h => absurd h (Nat.not_lt_zero _)⟩
  | n + 1, h => by
    obtain ⟨L, hl, hp⟩ := list_ofP z n fun i hi => h i (by omega)
    obtain ⟨a, ha⟩ := h n (by omega)
    refine ⟨L ++ [a], by simp [hl], fun i hi => ?_⟩
    by_cases e : i = n
    · subst e; simpa [List.getD, ← hl] using ha
    · have h1 := hp i (by omega)
      simpa [List.getD, List.getElem?_append_left (show i < L.length by omega)] using h1
section
variable {H : Type} {enc : TypeId × Value → H}
set_option maxRecDepth 4000 in
theorem cells_pt9 {w : World} {base fuel : Nat} {spare : Nat → Bool} {held : Bool} {cs : List Value} {x : DataW H × List MemPlace} (hf : DataW.trod enc Tryd.prog w base spare held fuel 27 cs = some x) :
    ∃ q : PP, Num q.x ∧ Num q.y ∧ cs = [.int .u64 (l0 q.x), .int .u64 (l1 q.x), .int .u64 (l2 q.x), .int .u64 (l3 q.x), .int .u64 (l0 q.y), .int .u64 (l1 q.y), .int .u64 (l2 q.y), .int .u64 (l3 q.y), .bool q.i] := by
  obtain ⟨xs, m, rfl, hx, hl, hn, hi⟩ := DataW.trod_struct Tryd.underlying27 hf
  rw [cellsPt] at hl
  match xs, hn with
  | [y0, y1, y2], _ =>
    have a : DataW.trod enc Tryd.prog w base spare held m 25 (List.take (Tryd.prog.cellsOf 25) (List.drop 0 cs)) = some y0 := hi 0 _ rfl
    have c : DataW.trod enc Tryd.prog w base spare held m 25 (List.take (Tryd.prog.cellsOf 25) (List.drop 4 cs)) = some y1 := hi 1 _ rfl
    have e : DataW.trod enc Tryd.prog w base spare held m 4 (List.take (Tryd.prog.cellsOf 4) (List.drop 8 cs)) = some y2 := hi 2 _ rfl
    obtain ⟨x, nx, ex, rfl⟩ := trod_num4 a
    obtain ⟨y, ny, ey, rfl⟩ := trod_num4 c
    obtain ⟨b, eb, rfl⟩ := DataW.trod_bool Tryd.underlying4 e
    rw [cells_bool] at eb
    rw [cells_num] at ex ey
    match cs, hl with
    | [c0, c1, c2, c3, c4, c5, c6, c7, c8], _ =>
      simp at ex ey eb
      obtain ⟨rfl, rfl, rfl, rfl⟩ := ex
      obtain ⟨rfl, rfl, rfl, rfl⟩ := ey
      subst eb
      exact ⟨⟨x, y, b⟩, nx, ny, rfl⟩
set_option maxRecDepth 100000 in
theorem open_points {W : World} {base : Nat} {v : Value} {d : DataW H} {p : List MemPlace} (hval : Value.okWide Tryd.prog W .any base 22 v) (h : DataW.Trod enc Tryd.prog W 0 (fun _ => true) true 22 v d p) :
    ∃ (a : Option Addr) (bp op cp : Nat) (L : List PP), v = .slice a L.length cp ∧ (L = [] ∨ a = some ⟨bp, op, none⟩) ∧ Pts W bp op L ∧ (∀ i, i < L.length → Num (L.getD i ⟨0, 0, true⟩).x ∧ Num (L.getD i ⟨0, 0, true⟩).y) ∧ (L ≠ [] → bp < W.heap.size) ∧ ((d.weights Tryd.prog 22).all (· ≤ reachBytes) = true → L.length ≤ 1954687338326) := by
  obtain ⟨a1, len, cap, rfl⟩ := okWide_slice Tryd.underlying22 hval
  obtain ⟨fuel, hf⟩ := h
  rcases open_slice Tryd.underlying22 hf with ⟨hcs, hx⟩ | ⟨a, len', cap', m, n, D, Pl, hcs, _, hl, hm, hM, hx, hr⟩
  · simp [Value.cells] at hcs
    obtain ⟨rfl, rfl, rfl⟩ := hcs
    exact ⟨.none, 0, 0, 0, [], rfl, .inl rfl, (fun i hi => absurd hi (Nat.not_lt_zero _)), (fun i hi => absurd hi (Nat.not_lt_zero _)), fun h => absurd rfl h, fun _ => by simp⟩
  · simp [Value.cells] at hcs
    obtain ⟨rfl, rfl, rfl⟩ := hcs
    simp only [if_true] at hM
    subst hM
    simp only [Prod.mk.injEq] at hx
    obtain ⟨rfl, rfl⟩ := hx
    have bl : ((DataW.slice (H := H) ((List.range len).map D) ((List.range (m - len)).map fun j => D (len + j))).weights Tryd.prog 22).all (· ≤ reachBytes) = true → len ≤ 1954687338326 := fun hw => by
      rw [DataW.weights, Tryd.underlying22] at hw
      simp only [List.all_cons, Bool.and_eq_true, decide_eq_true_eq, bytesPt] at hw
      have h1 := hw.1
      have e2 : reachBytes = 140737488351232 := by decide
      rw [List.length_map, List.length_range, List.length_map, List.length_range, e2] at h1
      omega
    rw [cellsPt] at hr
    obtain ⟨ab, ao, spot⟩ := a
    have each : ∀ i, i < len → ∃ z : PP, Num z.x ∧ Num z.y ∧ ∀ j u, [Value.int .u64 (l0 z.x), .int .u64 (l1 z.x), .int .u64 (l2 z.x), .int .u64 (l3 z.x), .int .u64 (l0 z.y), .int .u64 (l1 z.y), .int .u64 (l2 z.y), .int .u64 (l3 z.y), .bool z.i][j]? = some u → W.cell? (((⟨ab, ao, spot⟩ : Addr).add (i * 9)).add j) = some u := fun i hi => by
      obtain ⟨cs', h1, h2⟩ := hr i (by omega)
      obtain ⟨z, hz, hz2, rfl⟩ := cells_pt9 h2
      refine ⟨z, hz, hz2, fun j u hu => ?_⟩
      have hj : j < 9 := (List.getElem?_eq_some_iff.1 hu).1
      unfold World.cells? at h1
      split at h1
      · have := mapM_some_get h1 j j (by simp [hj])
        rw [this, hu]
      · cases h1
    by_cases h0 : len = 0
    · subst h0
      exact ⟨some ⟨ab, ao, spot⟩, 0, 0, m, [], rfl, .inl rfl, (fun i hi => absurd hi (Nat.not_lt_zero _)), (fun i hi => absurd hi (Nat.not_lt_zero _)), fun h => absurd rfl h, fun _ => by simp⟩
    · have hspot : spot = .none := by
        obtain ⟨z, hz, hz2, hc⟩ := each 0 (by omega)
        have h1 := hc 0 (.int .u64 (l0 z.x)) rfl
        simpa [Addr.add] using World.cell?_spot h1
      subst hspot
      obtain ⟨L, hl2, hp⟩ := list_ofP (p := fun i (z : PP) => (Num z.x ∧ Num z.y) ∧ ∀ j u, [Value.int .u64 (l0 z.x), .int .u64 (l1 z.x), .int .u64 (l2 z.x), .int .u64 (l3 z.x), .int .u64 (l0 z.y), .int .u64 (l1 z.y), .int .u64 (l2 z.y), .int .u64 (l3 z.y), .bool z.i][j]? = some u → W.cell? ⟨ab, ao + i * 9 + j, none⟩ = some u) ⟨0, 0, true⟩ len (fun i hi => by
        obtain ⟨z, hz, hz2, hc⟩ := each i hi
        refine ⟨z, ⟨hz, hz2⟩, fun j u hu => ?_⟩
        have := hc j u hu
        rw [Addr.add_lit, Addr.add_lit] at this
        exact this)
      refine ⟨some ⟨ab, ao, .none⟩, ab, ao, m, L, by rw [hl2], .inr rfl, fun k hk => ?_, fun k hk => (hp k (by omega)).1, fun _ => ?_, fun hw => by rw [hl2]; exact bl hw⟩
      · have q := (hp k (by omega)).2
        exact ⟨q 0 _ rfl, q 1 _ rfl, q 2 _ rfl, q 3 _ rfl, q 4 _ rfl, q 5 _ rfl, q 6 _ rfl, q 7 _ rfl, q 8 _ rfl⟩
      · have q := (hp 0 (by omega)).2 0 _ rfl
        exact World.block_lt_of_cell? W _ q
end
end Go.Proofs.YtgedkdkaddcmmaaDoor
