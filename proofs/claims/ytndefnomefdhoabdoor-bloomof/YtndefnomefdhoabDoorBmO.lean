import Derived.Test.YtndefnomefdhoabDoorSBase
import Derived.ProofKit
import Derived.OpenShut
import Derived.Carry
import Derived.ChangeSlices
import Derived.Deep.Matrix
import Derived.SizedLaws
/- Opening lists of texts, with what they weigh. -/
namespace Go.Proofs.YtndefnomefdhoabDoor.bw
open Go.ChangeShapes Go.WideShapes Go.ChangeAt Go.RowKit Go.Deep

theorem cells5 : Tryd.prog.cellsOf 5 = 1 := by kernel_rfl
theorem list_of {α : Type} {p : Nat → α → Prop} (z : α) : ∀ n, (∀ i, i < n → ∃ a, p i a) → ∃ L : List α, L.length = n ∧ ∀ i, i < n → p i (L.getD i z)
  | 0, _ => ⟨[], rfl, fun _ h => absurd h (Nat.not_lt_zero _)⟩
  | n + 1, h => by
    obtain ⟨L, hl, hp⟩ := list_of z n fun i hi => h i (by omega)
    obtain ⟨a, ha⟩ := h n (by omega)
    refine ⟨L ++ [a], by simp [hl], fun i hi => ?_⟩
    by_cases e : i = n
    · subst e; simpa [List.getD, ← hl] using ha
    · have h1 := hp i (by omega)
      simpa [List.getD, List.getElem?_append_left (show i < L.length by omega)] using h1

theorem mapM_all {α β : Type} {f : α → Option β} {g : α → β} : ∀ (l : List α), (∀ i ∈ l, f i = some (g i)) → l.mapM f = some (l.map g)
  | [], _ => rfl
  | a :: l, h => by
    rw [List.mapM_cons, h a (by simp), mapM_all l fun i hi => h i (by simp [hi])]
    rfl

theorem flat_nil {α β γ : Type} (f : α → β) : ∀ L : List α, ((L.map fun x => (f x, ([] : List γ))).flatMap (·.2)) = []
  | [] => rfl
  | _ :: L => by rw [List.map_cons, List.flatMap_cons, flat_nil f L]; rfl

/-- How a filter reads. -/
noncomputable def dat {H : Type} (L : List (BitVec 8)) : DataW H := .agg (L.map fun x => .lit (.int .u8 (Y x)))

section
variable {H : Type} {enc : TypeId × Value → H} {w : World} {base : Nat} {spare : Nat → Bool} {held : Bool}

end

theorem laidOut : laidOutB Tryd.prog = true := by kernel_rfl
theorem cells27 : Tryd.prog.cellsOf 31 = 1 := by kernel_rfl
theorem bytes5 : Tryd.prog.bytesOf 5 = 1 := by kernel_rfl
theorem bytes27 : Tryd.prog.bytesOf 31 = 24 := by kernel_rfl
theorem reach_eq : reachBytes = 140737488351232 := by decide
/-- The bytes that numbers stand for. -/
def bytesOf (zs : List Int) : List (BitVec 8) := zs.map fun n => BitVec.ofNat 8 n.toNat
theorem byte_at {zs : List Int} {len i : Nat} (hi : i < len) (hl : len ≤ zs.length) (hw : ∀ n ∈ zs, (Lit.int .u8 n).wf = true) : Y ((bytesOf (zs.take len)).getD i 0) = zs.getD i 0 := by
  have hw2 : (Lit.int .u8 (zs.getD i 0)).wf = true := hw _ (by
    rw [List.getD, List.getElem?_eq_getElem (by omega)]
    exact List.getElem_mem (by omega))
  have b : 0 ≤ zs.getD i 0 ∧ zs.getD i 0 < 256 := by
    simp [Lit.wf, IntKind.min, IntKind.max, IntKind.signed, IntKind.bits] at hw2
    exact ⟨by simpa using hw2.1, by have := hw2.2; simp at this ⊢; omega⟩
  have e : (bytesOf (zs.take len)).getD i 0 = BitVec.ofNat 8 (zs.getD i 0).toNat := by
    rw [bytesOf, List.getD, List.getElem?_map, List.getElem?_take, if_pos (by omega), List.getD, List.getElem?_eq_getElem (show i < zs.length by omega)]
    rfl
  rw [e, Y_eq, BitVec.toNat_ofNat]
  generalize zs.getD i 0 = z at *
  omega
def partOf (a : Option Addr) (len cap : Nat) (zs : List Int) : Part :=
  match a with
  | none => ⟨none, 0, 0, cap, bytesOf (zs.take len)⟩
  | some x => ⟨some x, x.block, x.off, cap, bytesOf (zs.take len)⟩
theorem partOf_a (a : Option Addr) (len cap : Nat) (zs : List Int) : (partOf a len cap zs).a = a := by cases a <;> rfl
theorem partOf_c (a : Option Addr) (len cap : Nat) (zs : List Int) : (partOf a len cap zs).c = cap := by cases a <;> rfl
theorem partOf_X (a : Option Addr) (len cap : Nat) (zs : List Int) : (partOf a len cap zs).X = bytesOf (zs.take len) := by cases a <;> rfl
theorem partOf_ok {W : World} {a : Option Addr} {len cap : Nat} {zs : List Int} (hl : len ≤ cap) (hz : zs.length = cap) (hw : ∀ n ∈ zs, (Lit.int .u8 n).wf = true) (h0 : a = none → cap = 0) (hc : ∀ a', a = some a' → ∀ c, c < cap → W.cell? (a'.add c) = some (.int .u8 (zs.getD c 0))) :
    (partOf a len cap zs).val = .slice a len cap ∧ (partOf a len cap zs).ok W := by
  have lX : (bytesOf (zs.take len)).length = len := by rw [bytesOf, List.length_map, List.length_take]; omega
  cases a with
  | none =>
    have h1 := h0 rfl
    have h2 : len = 0 := by omega
    refine ⟨by show Value.slice none (bytesOf (zs.take len)).length cap = _; rw [lX], .inl (List.eq_nil_of_length_eq_zero (by rw [partOf_X]; omega)), by rw [partOf_X, partOf_c, lX]; exact hl, fun i hi => ?_⟩
    rw [partOf_X, lX] at hi
    omega
  | some x =>
    obtain ⟨b, o, spot⟩ := x
    refine ⟨by show Value.slice (some ⟨b, o, spot⟩) (bytesOf (zs.take len)).length cap = _; rw [lX], ?_, by rw [partOf_X, partOf_c, lX]; exact hl, fun i hi => ?_⟩
    · by_cases h1 : len = 0
      · exact .inl (List.eq_nil_of_length_eq_zero (by rw [partOf_X]; omega))
      · have hspot : spot = .none := by simpa [Addr.add] using World.cell?_spot (hc _ rfl 0 (by omega))
        subst hspot
        exact .inr rfl
    · rw [partOf_X, lX] at hi
      have hspot : spot = .none := by simpa [Addr.add] using World.cell?_spot (hc _ rfl 0 (by omega))
      subst hspot
      have h1 := hc _ rfl i (by omega)
      rw [Addr.add_lit] at h1
      rw [partOf_X, byte_at hi (by omega) hw]
      exact h1

section
variable {H : Type} {enc : TypeId × Value → H}

set_option maxRecDepth 100000 in
theorem weigh_row (a : Option Addr) {len cap : Nat} {zs : List Int} (hl : len ≤ cap) (hz : zs.length = cap) (h0 : a = none → cap = 0) (h : ((intRow (H := H) .u8 a len zs).weights Tryd.prog 31).all (· ≤ reachBytes) = true) : (partOf a len cap zs).X.length ≤ 140737488351232 := by
  have lX : (bytesOf (zs.take len)).length = len := by rw [bytesOf, List.length_map, List.length_take]; omega
  rw [partOf_X, lX]
  cases a with
  | none => have := h0 rfl; omega
  | some x =>
    have h' : ((DataW.slice (H := H) (lits .u8 (zs.take len)) (lits .u8 (zs.drop len))).weights Tryd.prog 31).all (· ≤ reachBytes) = true := h
    rw [DataW.weights, Tryd.underlying31] at h'
    simp only [List.all_cons, Bool.and_eq_true, decide_eq_true_eq, bytes5] at h'
    have h1 := h'.1
    have e1 : (lits (H := H) .u8 (zs.take len)).length = len := by simp [lits]; omega
    rw [e1, reach_eq] at h1
    omega
set_option maxRecDepth 100000 in
theorem weigh_all {A : Nat → Option Addr} {L : Nat → Nat} {Z : Nat → List Int} : ∀ l : List Nat, (DataW.weightsAll Tryd.prog 31 (l.map fun r => intRow (H := H) .u8 (A r) (L r) (Z r))).all (· ≤ reachBytes) = true → ∀ r ∈ l, ((intRow (H := H) .u8 (A r) (L r) (Z r)).weights Tryd.prog 31).all (· ≤ reachBytes) = true
  | [], _, r, hr => absurd hr List.not_mem_nil
  | q :: l, h, r, hr => by
    rw [List.map_cons, DataW.weightsAll, List.all_append, Bool.and_eq_true] at h
    rcases List.mem_cons.1 hr with e | e
    · rw [e]; exact h.1
    · exact weigh_all l h.2 r e

set_option maxRecDepth 100000 in
theorem open_bw {W : World} {base : Nat} {v : Value} {d : DataW H} {p : List MemPlace} (hval : Value.okWide Tryd.prog W .any base 22 v) (h : DataW.Trod enc Tryd.prog W 0 (fun _ => true) true 22 v d p) :
    ∃ (a : Option Addr) (bp op cp : Nat) (PS : List Part), v = .slice a PS.length cp ∧ (PS = [] ∨ a = some ⟨bp, op, none⟩) ∧ (∀ p ∈ PS, p.a = none → p.c = 0) ∧ Prts W bp op PS ∧ ((d.weights Tryd.prog 22).all (· ≤ reachBytes) = true → (∀ p ∈ PS, p.X.length < 140737488351233) ∧ PS.length < 5864062014700) := by
  obtain ⟨a1, len, cap, rfl⟩ := okWide_slice Tryd.underlying22 hval
  obtain ⟨fuel, hf⟩ := h
  rcases open_int_rows Tryd.underlying22 Tryd.underlying31 Tryd.underlying5 cells27 cells5 hf with ⟨hcs, hx⟩ | ⟨a, len', cap', A, L, C, Z, hcs, _, hl, hm, hx, hr⟩
  · simp [Value.cells] at hcs
    obtain ⟨rfl, rfl, rfl⟩ := hcs
    exact ⟨.none, 0, 0, 0, [], rfl, .inl rfl, (fun p hp => absurd hp List.not_mem_nil), (fun i hi => absurd hi (Nat.not_lt_zero _)), fun _ => ⟨fun p hp => absurd hp List.not_mem_nil, by simp⟩⟩
  · simp [Value.cells] at hcs
    obtain ⟨rfl, rfl, rfl⟩ := hcs
    simp only [Prod.mk.injEq] at hx
    obtain ⟨rfl, rfl⟩ := hx
    obtain ⟨PS, kP⟩ : ∃ PS, PS = (List.range len).map fun r => partOf (A r) (L r) (C r) (Z r) := ⟨_, rfl⟩
    have lP : PS.length = len := by rw [kP]; simp
    have bl : ((DataW.slice (H := H) ((List.range len).map fun r => intRow .u8 (A r) (L r) (Z r)) ((List.range (cap - len)).map fun j => intRow .u8 (A (len + j)) (L (len + j)) (Z (len + j)))).weights Tryd.prog 22).all (· ≤ reachBytes) = true → (∀ p ∈ PS, p.X.length < 140737488351233) ∧ PS.length < 5864062014700 := fun hw => by
      rw [DataW.weights, Tryd.underlying22] at hw
      simp only [List.all_cons, Bool.and_eq_true, decide_eq_true_eq, bytes27, List.all_append] at hw
      obtain ⟨h1, h2, _⟩ := hw
      rw [List.length_map, List.length_range, List.length_map, List.length_range, reach_eq] at h1
      refine ⟨fun p hp => ?_, by omega⟩
      rw [kP] at hp
      obtain ⟨r, hr', rfl⟩ := List.mem_map.1 hp
      have hq := hr r (by have := List.mem_range.1 hr'; omega)
      have := weigh_row (H := H) (A r) hq.2.1 hq.2.2.2.1 hq.2.2.2.2.2.1 (weigh_all _ h2 r hr')
      omega
    have hnil : ∀ p ∈ PS, p.a = none → p.c = 0 := fun p hp => by
      rw [kP] at hp
      obtain ⟨r, hr', rfl⟩ := List.mem_map.1 hp
      rw [partOf_a, partOf_c]
      exact (hr r (by have := List.mem_range.1 hr'; omega)).2.2.2.2.2.1
    by_cases h0 : len = 0
    · exact ⟨some a, 0, 0, cap, PS, by rw [lP], .inl (List.eq_nil_of_length_eq_zero (by omega)), hnil, fun i hi => absurd hi (by omega), bl⟩
    · obtain ⟨ab, ao, spot⟩ := a
      have hspot : spot = .none := by simpa [Addr.add] using World.cell?_spot (hr 0 (by omega)).1
      subst hspot
      refine ⟨some ⟨ab, ao, .none⟩, ab, ao, cap, PS, by rw [lP], .inr rfl, hnil, fun i hi => ?_, bl⟩
      rw [lP] at hi
      obtain ⟨q1, q2, q3, q4, q5, q6, q7⟩ := hr i (by omega)
      have e : PS.getD i .none = partOf (A i) (L i) (C i) (Z i) := by rw [kP]; simp [List.getD, hi]
      obtain ⟨o1, o2⟩ := partOf_ok (W := W) q2 q4 q5 q6 (fun a' ha => (q7 a' ha).2)
      rw [e, o1]
      rw [Addr.add_lit] at q1
      exact ⟨q1, o2⟩
end
end Go.Proofs.YtndefnomefdhoabDoor.bw
