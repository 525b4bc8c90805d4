import Derived.Test.YtdehcohfcbopkaaSBase
import Derived.ProofKit
import Derived.OpenShut
import Derived.Carry
import Derived.ChangeSlices
import Derived.Deep.Matrix
import Derived.SizedLaws
/- Opening lists of texts, with what they weigh. -/
namespace Go.Proofs.Ytdehcohfcbopkaa.bw
open Go.ChangeShapes Go.WideShapes Go.ChangeAt Go.RowKit Go.Deep

theorem cellsB : Try.prog.cellsOf 24 = 256 := by kernel_rfl
theorem cells5 : Try.prog.cellsOf 5 = 1 := by kernel_rfl
theorem list_of {α : Type} {p : Nat → α → Prop} (z : α) : ∀ n, (∀ i, i < n → ∃ a, p i a) → ∃ L : List α, L.length = n ∧ ∀ i, i < n → p i (L.getD i z)
  | 0, _ => ⟨[], rfl, fun _ h => absurd h (Nat.not_lt_zero _)⟩
  | n + 1, h => by
    obtain ⟨L, hl, hp⟩ := list_of z n fun i hi => h i (by omega)
    obtain ⟨a, ha⟩ := h n (by omega)
    refine ⟨L ++ [a], by simp [hl], fun i hi => ?_⟩
    by_cases e : i = n
    · subst e; simpa [List.getD, ← hl] using ha
    · have h1 := hp i (by omega)
      simpa [List.getD, List.getElem?_append_left (show i < L.length by omega)] using h1

theorem mapM_all {α β : Type} {f : α → Option β} {g : α → β} : ∀ (l : List α), (∀ i ∈ l, f i = some (g i)) → l.mapM f = some (l.map g)
  | [], _ => rfl
  | a :: l, h => by
    rw [List.mapM_cons, h a (by simp), mapM_all l fun i hi => h i (by simp [hi])]
    rfl

theorem flat_nil {α β γ : Type} (f : α → β) : ∀ L : List α, ((L.map fun x => (f x, ([] : List γ))).flatMap (·.2)) = []
  | [] => rfl
  | _ :: L => by rw [List.map_cons, List.flatMap_cons, flat_nil f L]; rfl

/-- How a filter reads. -/
noncomputable def dat {H : Type} (L : List (BitVec 8)) : DataW H := .agg (L.map fun x => .lit (.int .u8 (Y x)))

section
variable {H : Type} {enc : TypeId × Value → H} {w : World} {base : Nat} {spare : Nat → Bool} {held : Bool}

set_option maxRecDepth 100000 in
theorem open_bloom {r : Reach} {b0 : Nat} {v : Value} {d : DataW H} {p : List MemPlace} (hv : Value.okWide Try.prog w r b0 24 v) (h : DataW.Trod enc Try.prog w base spare held 24 v d p) :
    ∃ L : List (BitVec 8), L.length = 256 ∧ v = .agg (byts L).toArray ∧ d = dat L ∧ p = [] := by
  obtain ⟨cs, rfl, hsz⟩ : ∃ cs : Array Value, v = .agg cs ∧ cs.size = 256 := by
    simp only [Value.okWide, Try.underlying24] at hv
    obtain ⟨cs, h1, h2, _⟩ := hv
    exact ⟨cs, h1, h2.trans cellsB⟩
  obtain ⟨fuel, hf⟩ := h
  obtain ⟨xs, m, rfl, hx, hl, hn, hi⟩ := DataW.trod_array Try.underlying24 hf
  simp only [Value.cells, cells5, Nat.mul_one] at hi hl
  obtain ⟨L, hL, hp⟩ := list_of (p := fun i (b : BitVec 8) => cs.toList[i]? = some (.int .u8 (Y b)) ∧ xs[i]? = some (.lit (.int .u8 (Y b)), [])) 0 256 (fun i h => by
    have h1 := hi i h
    rw [List.getElem?_eq_getElem (by omega)] at h1
    obtain ⟨n, e1, e2, e3⟩ := DataW.trod_int Try.underlying5 h1
    have b : 0 ≤ n ∧ n < 256 := by
      simp [Lit.wf, IntKind.min, IntKind.max, IntKind.signed, IntKind.bits] at e3
      exact ⟨by omega, by omega⟩
    obtain ⟨x, rfl⟩ := Y_of b.1 b.2
    refine ⟨x, ?_, ?_⟩
    · have := congrArg (·[0]?) e1
      simpa [List.getElem?_take, List.getElem?_drop] using this
    · rw [List.getElem?_eq_getElem (by omega), e2])
  have e1 : cs = (byts L).toArray := by
    apply Array.toList_inj.1
    apply List.ext_getElem?
    intro i
    by_cases h : i < 256
    · rw [(hp i h).1]; simp [byts, List.getD, show i < L.length by omega]
    · rw [List.getElem?_eq_none (by simp; omega), List.getElem?_eq_none (by simp [byts_len]; omega)]
  have e2 : xs = L.map fun x => (.lit (.int .u8 (Y x)), []) := by
    apply List.ext_getElem?
    intro i
    by_cases h : i < 256
    · rw [(hp i h).2]; simp [List.getD, show i < L.length by omega]
    · rw [List.getElem?_eq_none (by omega), List.getElem?_eq_none (by simp; omega)]
  rw [e2] at hx
  refine ⟨L, hL, by rw [e1], ?_, ?_⟩
  · have := congrArg Prod.fst hx
    simpa [dat, Function.comp_def] using this
  · have := congrArg Prod.snd hx
    rw [flat_nil] at this
    exact this

theorem shut_bloom {L : List (BitVec 8)} (hl : L.length = 256) : DataW.Trod enc Try.prog w base spare held 24 (.agg (byts L).toArray) (dat L) [] := by
  refine ⟨2, ?_⟩
  have wf : ∀ x : BitVec 8, (Lit.int .u8 (Y x)).wf = true := by
    intro x
    have := Y_lo x; have := Y_hi x
    simp [Lit.wf, IntKind.min, IntKind.max, IntKind.signed, IntKind.bits]
    omega
  have h : (List.range 256).mapM (fun i => DataW.trod enc Try.prog w base spare held 1 5 (((byts L).drop (i * 1)).take 1)) = some ((List.range 256).map fun i => (.lit (.int .u8 (Y (L.getD i 0))), [])) := by
    apply mapM_all
    intro i hi
    have hi' : i < 256 := List.mem_range.1 hi
    have e : ((byts L).drop (i * 1)).take 1 = [.int .u8 (Y (L.getD i 0))] := by
      rw [Nat.mul_one]
      apply List.ext_getElem?
      intro j
      cases j with
      | zero => simp [List.getElem?_drop, byts, List.getD, show i < L.length by omega]
      | succ j => simp [List.getElem?_take]
    rw [e]
    simp [DataW.trod, Try.underlying5, wf]
  have e : (List.range 256).map (fun i => (DataW.lit (.int .u8 (Y (L.getD i 0))) : DataW H)) = L.map fun x => .lit (.int .u8 (Y x)) := by
    apply List.ext_getElem?
    intro i
    by_cases h : i < 256
    · simp [h, List.getD, show i < L.length by omega]
    · rw [List.getElem?_eq_none (by simp; omega), List.getElem?_eq_none (by simp; omega)]
  unfold DataW.trod
  simp only [Value.cells, Try.underlying24, cellsB, cells5]
  rw [if_pos (by simp [byts_len, hl]), show (1 : Nat) = 1 from rfl]
  rw [h]
  rw [Option.map_some, flat_nil, List.map_map, dat, ← e]
  rfl
end

theorem laidOut : laidOutB Try.prog = true := by kernel_rfl
theorem bytes5 : Try.prog.bytesOf 5 = 1 := by kernel_rfl
theorem reach_eq : reachBytes = 140737488351232 := by decide
/-- The bytes that numbers stand for. -/
def bytesOf (zs : List Int) : List (BitVec 8) := zs.map fun n => BitVec.ofNat 8 n.toNat
theorem byte_at {zs : List Int} {len i : Nat} (hi : i < len) (hl : len ≤ zs.length) (hw : ∀ n ∈ zs, (Lit.int .u8 n).wf = true) : Y ((bytesOf (zs.take len)).getD i 0) = zs.getD i 0 := by
  have hw2 : (Lit.int .u8 (zs.getD i 0)).wf = true := hw _ (by
    rw [List.getD, List.getElem?_eq_getElem (by omega)]
    exact List.getElem_mem (by omega))
  have b : 0 ≤ zs.getD i 0 ∧ zs.getD i 0 < 256 := by
    simp [Lit.wf, IntKind.min, IntKind.max, IntKind.signed, IntKind.bits] at hw2
    exact ⟨by simpa using hw2.1, by have := hw2.2; simp at this ⊢; omega⟩
  have e : (bytesOf (zs.take len)).getD i 0 = BitVec.ofNat 8 (zs.getD i 0).toNat := by
    rw [bytesOf, List.getD, List.getElem?_map, List.getElem?_take, if_pos (by omega), List.getD, List.getElem?_eq_getElem (show i < zs.length by omega)]
    rfl
  rw [e, Y_eq, BitVec.toNat_ofNat]
  generalize zs.getD i 0 = z at *
  omega
def partOf (a : Option Addr) (len cap : Nat) (zs : List Int) : Part :=
  match a with
  | none => ⟨none, 0, 0, cap, bytesOf (zs.take len)⟩
  | some x => ⟨some x, x.block, x.off, cap, bytesOf (zs.take len)⟩
theorem partOf_a (a : Option Addr) (len cap : Nat) (zs : List Int) : (partOf a len cap zs).a = a := by cases a <;> rfl
theorem partOf_c (a : Option Addr) (len cap : Nat) (zs : List Int) : (partOf a len cap zs).c = cap := by cases a <;> rfl
theorem partOf_X (a : Option Addr) (len cap : Nat) (zs : List Int) : (partOf a len cap zs).X = bytesOf (zs.take len) := by cases a <;> rfl
theorem partOf_ok {W : World} {a : Option Addr} {len cap : Nat} {zs : List Int} (hl : len ≤ cap) (hz : zs.length = cap) (hw : ∀ n ∈ zs, (Lit.int .u8 n).wf = true) (h0 : a = none → cap = 0) (hc : ∀ a', a = some a' → ∀ c, c < cap → W.cell? (a'.add c) = some (.int .u8 (zs.getD c 0))) :
    (partOf a len cap zs).val = .slice a len cap ∧ (partOf a len cap zs).ok W := by
  have lX : (bytesOf (zs.take len)).length = len := by rw [bytesOf, List.length_map, List.length_take]; omega
  cases a with
  | none =>
    have h1 := h0 rfl
    have h2 : len = 0 := by omega
    refine ⟨by show Value.slice none (bytesOf (zs.take len)).length cap = _; rw [lX], .inl (List.eq_nil_of_length_eq_zero (by rw [partOf_X]; omega)), by rw [partOf_X, partOf_c, lX]; exact hl, fun i hi => ?_⟩
    rw [partOf_X, lX] at hi
    omega
  | some x =>
    obtain ⟨b, o, spot⟩ := x
    refine ⟨by show Value.slice (some ⟨b, o, spot⟩) (bytesOf (zs.take len)).length cap = _; rw [lX], ?_, by rw [partOf_X, partOf_c, lX]; exact hl, fun i hi => ?_⟩
    · by_cases h1 : len = 0
      · exact .inl (List.eq_nil_of_length_eq_zero (by rw [partOf_X]; omega))
      · have hspot : spot = .none := by simpa [Addr.add] using World.cell?_spot (hc _ rfl 0 (by omega))
        subst hspot
        exact .inr rfl
    · rw [partOf_X, lX] at hi
      have hspot : spot = .none := by simpa [Addr.add] using World.cell?_spot (hc _ rfl 0 (by omega))
      subst hspot
      have h1 := hc _ rfl i (by omega)
      rw [Addr.add_lit] at h1
      rw [partOf_X, byte_at hi (by omega) hw]
      exact h1

section
variable {H : Type} {enc : TypeId × Value → H}

end
end Go.Proofs.Ytdehcohfcbopkaa.bw
