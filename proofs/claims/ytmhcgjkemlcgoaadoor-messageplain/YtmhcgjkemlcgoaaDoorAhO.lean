import Derived.Test.YtmhcgjkemlcgoaaDoorUbO
import Derived.ProofKit
import Derived.OpenShut
import Derived.SizedLaws
import Derived.Carry
import Derived.ChangeMaps5
import Derived.ChangeSlices
import Derived.Deep.Slices
/- Layer 8: addresses and digests as arguments. -/
namespace Go.Proofs.YtmhcgjkemlcgoaaDoor.hx
open Go.ChangeShapes Go.WideShapes Go.ChangeAt Go.RowKit Go.Deep
def cB (A : List Int) : List Value := A.map (Value.int .u8)
theorem cB_len (A : List Int) : (cB A).length = A.length := List.length_map _
theorem cells5 : Tryd.prog.cellsOf 5 = 1 := by kernel_rfl
theorem list_of {α : Type} {p : Nat → α → Prop} (z : α) : ∀ n, (∀ i, i < n → ∃ a, p i a) → ∃ L : List α, L.length = n ∧ ∀ i, i < n → p i (L.getD i z)
  | 0, _ => ⟨[], rfl, fun _ h => absurd h (Nat.not_lt_zero _)⟩
  | n + 1, h => by
    obtain ⟨L, hl, hp⟩ := list_of z n fun i hi => h i (by omega)
    obtain ⟨a, ha⟩ := h n (by omega)
    refine ⟨L ++ [a], by simp [hl], fun i hi => ?_⟩
    by_cases e : i = n
    · subst e; simpa [List.getD, ← hl] using ha
    · have h1 := hp i (by omega)
      simpa [List.getD, List.getElem?_append_left (show i < L.length by omega)] using h1
theorem mapM_all {α β : Type} {f : α → Option β} {g : α → β} : ∀ (l : List α), (∀ i ∈ l, f i = some (g i)) → l.mapM f = some (l.map g)
  | [], _ => rfl
  | a :: l, h => by
    rw [List.mapM_cons, h a (by simp), mapM_all l fun i hi => h i (by simp [hi])]
    rfl
theorem flat_nil {α β γ : Type} (f : α → β) : ∀ L : List α, ((L.map fun x => (f x, ([] : List γ))).flatMap (·.2)) = []
  | [] => rfl
  | _ :: L => by rw [List.map_cons, List.flatMap_cons, flat_nil f L]; rfl
/-- How a row of bytes reads. -/
noncomputable def dat {H : Type} (X : List Int) : DataW H := .agg (X.map fun x => .lit (.int .u8 x))
def Wfb (X : List Int) : Prop := ∀ x ∈ X, (Lit.int .u8 x).wf = true
section
variable {H : Type} {enc : TypeId × Value → H} {w : World} {base : Nat} {spare : Nat → Bool} {held : Bool}
theorem cells_adN : Tryd.prog.cellsOf 24 = 20 := by kernel_rfl
set_option maxRecDepth 100000 in
theorem cells_ad {fuel : Nat} {cs : List Value} {x : DataW H × List MemPlace} (hf : DataW.trod enc Tryd.prog w base spare held fuel 24 cs = some x) :
    ∃ X : List Int, X.length = 20 ∧ Wfb X ∧ cs = cB X ∧ x = (dat X, []) := by
  obtain ⟨xs, m, rfl, hx, hl, hn, hi⟩ := DataW.trod_array Tryd.underlying24 hf
  simp only [cells5, Nat.mul_one] at hi hl
  rw [cells_adN] at hl
  obtain ⟨X, hX, hp⟩ := list_of (p := fun i (b : Int) => cs[i]? = some (.int .u8 b) ∧ (Lit.int .u8 b).wf = true ∧ xs[i]? = some (.lit (.int .u8 b), [])) 0 20 (fun i h => by
    have h1 := hi i h
    rw [List.getElem?_eq_getElem (by omega)] at h1
    obtain ⟨b, e1, e2, e3⟩ := DataW.trod_int Tryd.underlying5 h1
    refine ⟨b, ?_, e3, ?_⟩
    · have := congrArg (·[0]?) e1
      simpa [List.getElem?_take, List.getElem?_drop] using this
    · rw [List.getElem?_eq_getElem (by omega), e2])
  have e1 : cs = cB X := by
    apply List.ext_getElem?
    intro i
    by_cases h : i < 20
    · rw [(hp i h).1]; simp [cB, List.getD, show i < X.length by omega]
    · rw [List.getElem?_eq_none (by omega), List.getElem?_eq_none (by rw [cB_len]; omega)]
  have e2 : xs = X.map fun x => (.lit (.int .u8 x), []) := by
    apply List.ext_getElem?
    intro i
    by_cases h : i < 20
    · rw [(hp i h).2.2]; simp [List.getD, show i < X.length by omega]
    · rw [List.getElem?_eq_none (by omega), List.getElem?_eq_none (by simp; omega)]
  refine ⟨X, hX, fun z hz => ?_, e1, ?_⟩
  · obtain ⟨i, hi', rfl⟩ := List.getElem_of_mem hz
    have := (hp i (by omega)).2.1
    rwa [List.getD, List.getElem?_eq_getElem hi'] at this
  · rw [e2] at hx
    rw [hx, dat, flat_nil]
    simp [Function.comp_def]
set_option maxRecDepth 100000 in
theorem open_ad {r : Reach} {b0 : Nat} {v : Value} {d : DataW H} {p : List MemPlace} (hv : Value.okWide Tryd.prog w r b0 24 v) (h : DataW.Trod enc Tryd.prog w base spare held 24 v d p) :
    ∃ X : List Int, X.length = 20 ∧ Wfb X ∧ v = .agg (cB X).toArray ∧ d = dat X ∧ p = [] := by
  obtain ⟨cs, rfl, hsz⟩ : ∃ cs : Array Value, v = .agg cs ∧ cs.size = 20 := by
    simp only [Value.okWide, Tryd.underlying24] at hv
    obtain ⟨cs, h1, h2, _⟩ := hv
    exact ⟨cs, h1, h2.trans cells_adN⟩
  obtain ⟨fuel, hf⟩ := h
  obtain ⟨X, h1, h2, h3, h4⟩ := cells_ad hf
  simp only [Prod.mk.injEq] at h4
  refine ⟨X, h1, h2, ?_, h4.1, h4.2⟩
  have e : cs = (cB X).toArray := by
    apply Array.toList_inj.1
    simpa [Value.cells] using h3
  rw [e]
set_option maxRecDepth 100000 in
theorem shut_ad {X : List Int} (hl : X.length = 20) (hw : Wfb X) : DataW.Trod enc Tryd.prog w base spare held 24 (.agg (cB X).toArray) (dat X) [] := by
  refine ⟨2, ?_⟩
  have h : (List.range 20).mapM (fun i => DataW.trod enc Tryd.prog w base spare held 1 5 (((cB X).drop (i * 1)).take 1)) = some ((List.range 20).map fun i => (.lit (.int .u8 (X.getD i 0)), [])) := by
    apply mapM_all
    intro i hi
    have hi' : i < 20 := List.mem_range.1 hi
    have e : ((cB X).drop (i * 1)).take 1 = [.int .u8 (X.getD i 0)] := by
      rw [Nat.mul_one]
      apply List.ext_getElem?
      intro j
      cases j with
      | zero => simp [List.getElem?_drop, cB, List.getD, show i < X.length by omega]
      | succ j => simp [List.getElem?_take]
    have wf : (Lit.int .u8 (X.getD i 0)).wf = true := hw _ (by rw [List.getD, List.getElem?_eq_getElem (by omega)]; exact List.getElem_mem (by omega))
    have wf' : (Lit.int .u8 (X[i]?.getD 0)).wf = true := wf
    rw [e]
    simp [DataW.trod, Tryd.underlying5, wf']
  have e : (List.range 20).map (fun i => (DataW.lit (.int .u8 (X.getD i 0)) : DataW H)) = X.map fun x => .lit (.int .u8 x) := by
    apply List.ext_getElem?
    intro i
    by_cases h : i < 20
    · simp [h, List.getD, show i < X.length by omega]
    · rw [List.getElem?_eq_none (by simp; omega), List.getElem?_eq_none (by simp; omega)]
  unfold DataW.trod
  simp only [Value.cells, Tryd.underlying24, cells_adN, cells5]
  rw [if_pos (by simp [cB_len, hl]), show (1 : Nat) = 1 from rfl]
  rw [h]
  rw [Option.map_some, flat_nil, List.map_map, dat, ← e]
  rfl
end
section
variable {H : Type} {enc : TypeId × Value → H} {W : World}
end
end Go.Proofs.YtmhcgjkemlcgoaaDoor.hx
