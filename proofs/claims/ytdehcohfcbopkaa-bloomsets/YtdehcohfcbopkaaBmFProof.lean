import Derived.Test.YtdehcohfcbopkaaBmF
import Derived.Test.YtdehcohfcbopkaaBmO
import Derived.ProofKit
import Derived.OpenShut
import Derived.SizedLaws
import Derived.Carry
import Derived.ChangeMaps5
import Derived.Deep.Slices
/- BloomSets: the statement. -/
namespace Go.Proofs.Ytdehcohfcbopkaa.bw
open Go.ChangeShapes Go.WideShapes Go.ChangeAt Go.RowKit Go.Deep

theorem bytesB : Try.prog.bytesOf 24 = 256 := by kernel_rfl
section
variable {H : Type} {enc : TypeId × Value → H}
theorem cells_bloom {w : World} {base fuel : Nat} {spare : Nat → Bool} {held : Bool} {cs : List Value} {x : DataW H × List MemPlace} (hf : DataW.trod enc Try.prog w base spare held fuel 24 cs = some x) :
    ∃ L : List (BitVec 8), L.length = 256 ∧ cs = byts L := by
  obtain ⟨xs, m, rfl, hx, hl, hn, hi⟩ := DataW.trod_array Try.underlying24 hf
  simp only [cells5, Nat.mul_one] at hi hl
  rw [cellsB] at hl
  obtain ⟨L, hL, hp⟩ := list_of (p := fun i (b : BitVec 8) => cs[i]? = some (.int .u8 (Y b))) 0 256 (fun i h => by
    have h1 := hi i h
    rw [List.getElem?_eq_getElem (by omega)] at h1
    obtain ⟨n, e1, e2, e3⟩ := DataW.trod_int Try.underlying5 h1
    have b : 0 ≤ n ∧ n < 256 := by
      simp [Lit.wf, IntKind.min, IntKind.max, IntKind.signed, IntKind.bits] at e3
      exact ⟨by omega, by omega⟩
    obtain ⟨x, rfl⟩ := Y_of b.1 b.2
    refine ⟨x, ?_⟩
    have := congrArg (·[0]?) e1
    simpa [List.getElem?_take, List.getElem?_drop] using this)
  refine ⟨L, hL, ?_⟩
  apply List.ext_getElem?
  intro i
  by_cases h : i < 256
  · rw [hp i h]; simp [byts, List.getD, show i < L.length by omega]
  · rw [List.getElem?_eq_none (by omega), List.getElem?_eq_none (by rw [byts_len]; omega)]
set_option maxRecDepth 100000 in
theorem open_blooms {W : World} {base : Nat} {v : Value} {d : DataW H} {p : List MemPlace} (hval : Value.okWide Try.prog W .any base 22 v) (h : DataW.Trod enc Try.prog W 0 (fun _ => true) true 22 v d p) :
    ∃ (a : Option Addr) (bp op cp : Nat) (FS : List (List (BitVec 8))), v = .slice a FS.length cp ∧ (FS = [] ∨ a = some ⟨bp, op, none⟩) ∧ Fls W bp op FS ∧ ((d.weights Try.prog 22).all (· ≤ reachBytes) = true → FS.length < 1099511627775) := by
  obtain ⟨a1, len, cap, rfl⟩ := okWide_slice Try.underlying22 hval
  obtain ⟨fuel, hf⟩ := h
  rcases open_slice Try.underlying22 hf with ⟨hcs, hx⟩ | ⟨a, len', cap', m, n, D, Pl, hcs, _, hl, hm, hM, hx, hr⟩
  · simp [Value.cells] at hcs
    obtain ⟨rfl, rfl, rfl⟩ := hcs
    exact ⟨.none, 0, 0, 0, [], rfl, .inl rfl, (fun i hi => absurd hi (Nat.not_lt_zero _)), fun _ => by simp⟩
  · simp [Value.cells] at hcs
    obtain ⟨rfl, rfl, rfl⟩ := hcs
    simp only [if_true] at hM
    subst hM
    simp only [Prod.mk.injEq] at hx
    obtain ⟨rfl, rfl⟩ := hx
    have bl : ((DataW.slice (H := H) ((List.range len).map D) ((List.range (m - len)).map fun j => D (len + j))).weights Try.prog 22).all (· ≤ reachBytes) = true → len < 1099511627775 := fun hw => by
      rw [DataW.weights, Try.underlying22] at hw
      simp only [List.all_cons, Bool.and_eq_true, decide_eq_true_eq, bytesB] at hw
      have h1 := hw.1
      rw [List.length_map, List.length_range, List.length_map, List.length_range, reach_eq] at h1
      omega
    rw [cellsB] at hr
    obtain ⟨ab, ao, spot⟩ := a
    have each : ∀ i, i < len → ∃ F : List (BitVec 8), F.length = 256 ∧ ∀ j u, (byts F)[j]? = some u → W.cell? (((⟨ab, ao, spot⟩ : Addr).add (i * 256)).add j) = some u := fun i hi => by
      obtain ⟨cs', h1, h2⟩ := hr i (by omega)
      obtain ⟨F, hF, rfl⟩ := cells_bloom h2
      refine ⟨F, hF, fun j u hu => ?_⟩
      have hj : j < 256 := by
        have := (List.getElem?_eq_some_iff.1 hu).1
        rwa [byts_len, hF] at this
      unfold World.cells? at h1
      split at h1
      · have := mapM_some_get h1 j j (by simp [hj])
        rw [this, hu]
      · cases h1
    by_cases h0 : len = 0
    · subst h0
      exact ⟨some ⟨ab, ao, spot⟩, 0, 0, m, [], rfl, .inl rfl, fun i hi => absurd hi (Nat.not_lt_zero _), fun _ => by simp⟩
    · have hspot : spot = .none := by
        obtain ⟨F, hF, hc⟩ := each 0 (by omega)
        have h1 := hc 0 (.int .u8 (Y (F.getD 0 0))) (by simp [byts, List.getD, show 0 < F.length by omega])
        simpa [Addr.add] using World.cell?_spot h1
      subst hspot
      obtain ⟨FS, hl2, hp⟩ := list_of (p := fun i (F : List (BitVec 8)) => F.length = 256 ∧ W.rangeAt ab (ao + i * 256) (byts F)) zF len (fun i hi => by
        obtain ⟨F, hF, hc⟩ := each i hi
        refine ⟨F, hF, fun j u hu => ?_⟩
        have := hc j u hu
        rw [Addr.add_lit, Addr.add_lit] at this
        exact this)
      exact ⟨some ⟨ab, ao, .none⟩, ab, ao, m, FS, by rw [hl2], .inr rfl, fun k hk => hp k (by omega), fun hw => by rw [hl2]; exact bl hw⟩
end
end Go.Proofs.Ytdehcohfcbopkaa.bw
namespace Go.Proofs.Ytdehcohfcbopkaa
open Go.ChangeShapes Go.WideShapes Go.ChangeAt Go.RowKit

theorem ownZ : ownKnob Try.prog.godebug = none := by kernel_rfl

set_option maxRecDepth 100000 in
theorem bloomSets_lifted (os : Os) (started : os.Started) (H : Type) (enc : TypeId × Value → H) :
    ReturnsInHanded {} Try.checked os 3 .any (Rows.bloomSetsSpec.pre6 enc Try.prog Try.f3 Rows.bloomSetsRow.domain false) (Rows.bloomSetsSpec.post enc Try.prog Try.f3 false true false false) := by
  refine returnsInHanded_of_change_sized (C := Try.checked) ownZ started (by kernel_rfl) Try.func3
    (ChangeSpec.witness6 (enc := enc) (C := Try.checked) false ⟨#[], #[.slice .none 0 0, .agg (Array.replicate 256 (.int .u8 0)), .agg (Array.replicate 256 (.int .u8 0))], []⟩ 8 (by kernel_rfl) (by kernel_rfl) (by kernel_rfl) (by kernel_rfl)) ?_
  intro W base args ds gs before hval0 hW hcnd hwt _
  have hval : ∀ (j : Nat) t v, Try.f3.params[j]? = some t → args[j]? = some v → Value.okWide Try.prog W .any base t v := hval0
  have hW' := hW
  obtain ⟨p, q, hA0, hV, rfl, hfz, hnd⟩ := hW
  have hA : DataW.TrodAll enc Try.prog W 0 (fun _ => true) true Try.f3.params.toList args.toList ds p := hA0
  have hwt' : (DataW.weightsEach Try.prog (Try.f3.params.toList ++ Rows.bloomSetsSpec.plain.varTypes Try.prog) (ds ++ gs)).all (· ≤ reachBytes) = true := hwt
  rw [Try.params3] at hA hval hwt'
  obtain ⟨v0, v1, v2, d0, d1, d2, p0, p1, p2, hargs, rfl, rfl, h0, h1, h2⟩ := trodAll_three hA
  subst hargs
  obtain ⟨rfl, rfl⟩ := trodVars_none hV
  have k0 := h0
  obtain ⟨a, bp, op, cp, FS, rfl, x1, x2, x3⟩ := bw.open_blooms (hval 0 22 v0 rfl rfl) h0
  obtain ⟨A, x01, rfl, rfl, rfl⟩ := bw.open_bloom (hval 1 24 v1 rfl rfl) h1
  obtain ⟨B, x11, rfl, rfl, rfl⟩ := bw.open_bloom (hval 2 24 v2 rfl rfl) h2
  clear hA0 hval0
  simp only [List.append_nil] at hW' hwt'
  replace x3 := x3 (by
    have h := hwt'
    simp only [DataW.weightsEach, List.cons_append, List.nil_append] at h
    simp only [List.all_append, Bool.and_eq_true] at h
    exact h.1)
  have hlt : ∀ x ∈ p0, x.block < W.heap.size := fun x hx => by simpa using hW'.lt x (by simpa using hx)
  refine (sets_any x3 x1 x01 x11 W x2).mono fun e W' ⟨he, hg⟩ => ?_
  subst he
  exact ⟨_, rfl, _, _, _, [], _, [], hW', trodAll_mk1 (shut_bool Try.underlying4 _), trodAll_mk3 (Below.trod bw.laidOut (by kernel_rfl) (of_decide_eq_true (by kernel_rfl)) k0 hg (fun x hx => hlt x hx)) (bw.shut_bloom x01) (bw.shut_bloom x11), rfl, hg.frame _, fun h => by cases h⟩

theorem bloomSets_holds : Rows.BloomSetsSaid :=
  OpenClaim.holds_of_wide 3 Try.f3 rfl rfl rfl rfl rfl rfl rfl ⟨rfl, rfl, rfl, rfl, rfl⟩ rfl rfl rfl rfl rfl (by kernel_rfl) Try.func3 (by kernel_rfl)
    (of_decide_eq_true (by kernel_rfl)) (by unfold Func.isWrapper; first | (rw [if_pos (by decide +kernel)]; kernel_rfl) | (rw [if_neg (by decide +kernel)]; exact ⟨rfl, rfl⟩))
    (fun os started H enc _ => bloomSets_lifted os started H enc)
#print axioms bloomSets_holds
end Go.Proofs.Ytdehcohfcbopkaa
