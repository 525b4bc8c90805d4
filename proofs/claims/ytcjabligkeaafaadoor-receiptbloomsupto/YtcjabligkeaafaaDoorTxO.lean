import Derived.Test.YtcjabligkeaafaaDoorUbA
import Derived.Test.YtcjabligkeaafaaDoorOpen
import Derived.ProofKit
import Derived.OpenShut
import Derived.Carry
import Derived.ChangeSlices
import Derived.ChangeMaps5
import Derived.Deep.Slices
/- Layer 15: a transaction as an argument (only the way down: Below.trod goes up). -/
namespace Go.Proofs.YtcjabligkeaafaaDoor.tq
open Go.ChangeShapes Go.WideShapes Go.ChangeAt Go.RowKit Go.Deep

theorem laidOut : laidOutB Tryd.prog = true := by kernel_rfl
theorem ownT : ownKnob Tryd.prog.godebug = none := by kernel_rfl
theorem cells5 : Tryd.prog.cellsOf 5 = 1 := by kernel_rfl
theorem cellsB : Tryd.prog.cellsOf 31 = 1 := by kernel_rfl
theorem cellsI : Tryd.prog.cellsOf 3 = 1 := by kernel_rfl
theorem bulk_lits {H : Type} (k : IntKind) : ∀ l : List Int, Rows.uptoBulkAll (lits (H := H) k l) = l.length
  | [] => rfl
  | x :: l => by
    have e : lits (H := H) k (x :: l) = .lit (.int k x) :: lits k l := rfl
    have u : Rows.uptoBulk (H := H) (.lit (.int k x)) = 1 := rfl
    rw [e, Rows.uptoBulkAll, bulk_lits k l, u, List.length_cons]
    omega
theorem list_of {α : Type} {p : Nat → α → Prop} (z : α) : ∀ n, (∀ i, i < n → ∃ a, p i a) → ∃ L : List α, L.length = n ∧ ∀ i, i < n → p i (L.getD i z)
  | 0, _ => ⟨[], rfl, fun _ h => absurd h (Nat.not_lt_zero _)⟩
  | n + 1, h => by
    obtain ⟨L, hl, hp⟩ := list_of z n fun i hi => h i (by omega)
    obtain ⟨a, ha⟩ := h n (by omega)
    refine ⟨L ++ [a], by simp [hl], fun i hi => ?_⟩
    by_cases e : i = n
    · subst e; simpa [List.getD, ← hl] using ha
    · have h1 := hp i (by omega)
      simpa [List.getD, List.getElem?_append_left (show i < L.length by omega)] using h1
/-- The pieces of a list, from o on. -/
def pcs {α : Type} : List Nat → Nat → List α → List α
  | [], _, _ => []
  | n :: ns, o, l => List.take n (List.drop o l) ++ pcs ns (o + n) l
def sumN1 : List Nat → Nat
  | [] => 0
  | n :: ns => n + sumN1 ns
theorem pcs_all {α : Type} : ∀ (ns : List Nat) (o : Nat) (l : List α), o + sumN1 ns = l.length → pcs ns o l = List.drop o l
  | [], o, l, h => by
    rw [sumN1, Nat.add_zero] at h
    rw [pcs, List.drop_of_length_le (by omega)]
  | n :: ns, o, l, h => by
    rw [sumN1] at h
    rw [pcs, pcs_all ns (o + n) l (by omega), show List.drop (o + n) l = List.drop n (List.drop o l) by rw [List.drop_drop]]
    exact List.take_append_drop _ _
section
variable {H : Type} {enc : TypeId × Value → H} {W : World}
set_option maxRecDepth 100000 in
theorem cells_bytes {W : World} {fuel : Nat} {cs : List Value} {x : DataW H × List MemPlace} (hf : DataW.trod enc Tryd.prog W 0 (fun _ => true) true fuel 31 cs = some x) :
    ∃ (a : Option Addr) (b o c : Nat) (X : List Int), cs = [.slice a X.length c] ∧ (X.length ≤ c ∧ (a = none → c = 0)) ∧ Az a b o X ∧ Bz W b o X ∧ Bys X ∧ X.length + 1 ≤ Rows.uptoBulk x.1 := by
  rcases open_ints Tryd.underlying31 Tryd.underlying5 cells5 hf with ⟨rfl, rfl⟩ | ⟨a, len, cap, zs, rfl, _, hl, hm, hz, rfl, hcell, hwz⟩
  · exact ⟨.none, 0, 0, 0, [], rfl, ⟨Nat.le_refl _, fun _ => rfl⟩, .inl rfl, fun i hi => absurd hi (by simp), fun x hx => (by simp at hx), Nat.le_refl _⟩
  · simp only [if_true] at hz
    have lL : (zs.take len).length = len := by rw [List.length_take]; omega
    have hB : Bys (zs.take len) := fun x hx => by
      have := hwz x (List.mem_of_mem_take hx)
      simp [Lit.wf, IntKind.min, IntKind.max, IntKind.signed, IntKind.bits] at this
      exact ⟨by omega, by omega⟩
    have bl : (zs.take len).length + 1 ≤ Rows.uptoBulk (DataW.slice (H := H) (lits .u8 (zs.take len)) (lits .u8 (zs.drop len))) := by
      rw [Rows.uptoBulk, bulk_lits]
      omega
    by_cases h0 : len = 0
    · exact ⟨some a, 0, 0, cap, zs.take len, by rw [lL], ⟨by omega, fun e => by cases e⟩, .inl (List.eq_nil_of_length_eq_zero (by omega)), fun i hi => absurd hi (by omega), hB, bl⟩
    · obtain ⟨ab, ao, spot⟩ := a
      have hspot : spot = .none := by simpa [Addr.add] using World.cell?_spot (hcell 0 (by omega))
      subst hspot
      refine ⟨some ⟨ab, ao, .none⟩, ab, ao, cap, zs.take len, by rw [lL], ⟨by omega, fun e => by cases e⟩, .inr rfl, fun i hi => ?_, hB, bl⟩
      have hc := hcell i (by omega)
      rw [Addr.add_lit] at hc
      rw [hc]
      simp [List.getD, show i < len by omega]
/-- An array of n bytes. -/
theorem cells_arr {T : TypeId} {n : Nat} (hT : Tryd.prog.underlying T = some (.array n 5)) (hN : Tryd.prog.cellsOf T = n) {fuel : Nat} {cs : List Value} {x : DataW H × List MemPlace} (hf : DataW.trod enc Tryd.prog W 0 (fun _ => true) true fuel T cs = some x) :
    ∃ X : List Int, (X.length = n ∧ Bys X) ∧ cs = X.map (Value.int .u8) ∧ X.length + 1 ≤ Rows.uptoBulk x.1 := by
  obtain ⟨xs, m, rfl, hx, hl, hn, hi⟩ := DataW.trod_array hT hf
  simp only [cells5, Nat.mul_one] at hi hl
  rw [hN] at hl
  obtain ⟨X, hX, hp⟩ := list_of (p := fun i (b : Int) => cs[i]? = some (.int .u8 b) ∧ (Lit.int .u8 b).wf = true ∧ xs[i]? = some (.lit (.int .u8 b), [])) 0 n (fun i h => by
    have h1 := hi i h
    rw [List.getElem?_eq_getElem (by omega)] at h1
    obtain ⟨b, e1, e2, e3⟩ := DataW.trod_int Tryd.underlying5 h1
    refine ⟨b, ?_, e3, ?_⟩
    · have := congrArg (·[0]?) e1
      simpa [List.getElem?_take, List.getElem?_drop] using this
    · rw [List.getElem?_eq_getElem (by omega), e2])
  have e1 : cs = X.map (Value.int .u8) := by
    apply List.ext_getElem?
    intro i
    by_cases h : i < n
    · rw [(hp i h).1]; simp [List.getD, show i < X.length by omega]
    · rw [List.getElem?_eq_none (by omega), List.getElem?_eq_none (by rw [List.length_map]; omega)]
  have e2 : xs = X.map fun x => (.lit (.int .u8 x), []) := by
    apply List.ext_getElem?
    intro i
    by_cases h : i < n
    · rw [(hp i h).2.2]; simp [List.getD, show i < X.length by omega]
    · rw [List.getElem?_eq_none (by omega), List.getElem?_eq_none (by simp; omega)]
  refine ⟨X, ⟨hX, fun z hz => ?_⟩, e1, ?_⟩
  · obtain ⟨i, hi', rfl⟩ := List.getElem_of_mem hz
    have := (hp i (by omega)).2.1
    rw [List.getD, List.getElem?_eq_getElem hi'] at this
    simp [Lit.wf, IntKind.min, IntKind.max, IntKind.signed, IntKind.bits] at this
    exact ⟨by omega, by omega⟩
  · rw [e2] at hx
    have ex : x.1 = .agg (lits (H := H) .u8 X) := by
      rw [hx]
      simp [lits, Function.comp_def]
    rw [ex, Rows.uptoBulk, bulk_lits]
    omega
def sumW {α : Type} (wt : α → Nat) : List α → Nat
  | [] => 0
  | x :: l => wt x + sumW wt l
theorem bulk_rows {α : Type} {wt : α → Nat} (z : α) : ∀ (L : List α) (E : List (DataW H)), L.length = E.length → (∀ i, i < E.length → wt (L.getD i z) ≤ Rows.uptoBulk (E.getD i .nil)) → sumW wt L ≤ Rows.uptoBulkAll E
  | [], [], _, _ => Nat.le_refl _
  | [], _ :: _, h, _ => by simp at h
  | _ :: _, [], h, _ => by simp at h
  | p :: L, e :: E, h, hi => by
    rw [sumW, Rows.uptoBulkAll]
    have h0 : wt p ≤ Rows.uptoBulk e := by simpa using hi 0 (by simp)
    have ih := bulk_rows z L E (by simpa using h) fun i hi' => by simpa using hi (i + 1) (by simpa using hi')
    omega
/-- A slice of rows of k cells, each of which opens. -/
theorem cells_rows {α : Type} {W : World} {S E : TypeId} {k : Nat} (z : α) (C : α → List Value) (wt : α → Nat) (Good : α → Prop) (hS : Tryd.prog.underlying S = some (.slice E)) (hk : Tryd.prog.cellsOf E = k) (k0 : 0 < k) (hC : ∀ x, Good x → (C x).length = k)
    {fuel : Nat} (ih : ∀ n, n < fuel → ∀ cs x, DataW.trod enc Tryd.prog W 0 (fun _ => true) true n E cs = some x → ∃ a, Good a ∧ cs = C a ∧ wt a ≤ Rows.uptoBulk x.1)
    {cs : List Value} {x : DataW H × List MemPlace} (hf : DataW.trod enc Tryd.prog W 0 (fun _ => true) true fuel S cs = some x) :
    ∃ (a : Option Addr) (b o c : Nat) (L : List α), cs = [.slice a L.length c] ∧ (L.length ≤ c ∧ (a = none → c = 0)) ∧ (L = [] ∨ a = some ⟨b, o, none⟩) ∧ (∀ i, i < L.length → Good (L.getD i z) ∧ W.rangeAt b (o + i * k) (C (L.getD i z))) ∧ sumW wt L + 1 ≤ Rows.uptoBulk x.1 := by
  rcases DataW.trod_slice hS hf with ⟨rfl, rfl⟩ | ⟨a, len, cap, elems, rest, n, hfu, rfl, rfl, _, hl, hm, hlen, hel, _, _⟩
  · exact ⟨none, 0, 0, 0, [], rfl, ⟨Nat.le_refl _, fun _ => rfl⟩, .inl rfl, fun i hi => absurd hi (Nat.not_lt_zero _), Nat.le_refl _⟩
  · rw [hk] at hel
    obtain ⟨ab, ao, spot⟩ := a
    have each : ∀ i, i < len → ∃ p : α, Good p ∧ wt p ≤ Rows.uptoBulk ((elems.map (·.1)).getD i .nil) ∧ ∀ j u, (C p)[j]? = some u → W.cell? (((⟨ab, ao, spot⟩ : Addr).add (i * k)).add j) = some u := fun i hi => by
      have key := hel i hi
      rw [List.getElem?_eq_getElem (by omega)] at key
      obtain ⟨cs', k1, k2⟩ := Option.bind_eq_some_iff.1 key
      obtain ⟨p, e2, rfl, e4⟩ := ih n (by omega) _ _ k2
      refine ⟨p, e2, ?_, fun j u hu => ?_⟩
      · have e : (elems.map (·.1)).getD i .nil = (elems[i]'(by omega)).1 := by simp [List.getD, show i < elems.length by omega]
        rw [e]; exact e4
      · have hj : j < k := by rw [← hC p e2]; exact (List.getElem?_eq_some_iff.1 hu).1
        unfold World.cells? at k1
        split at k1
        · have := mapM_some_get k1 j j (by simp [hj])
          rw [this, hu]
        · cases k1
    by_cases h0 : len = 0
    · subst h0
      refine ⟨some ⟨ab, ao, spot⟩, 0, 0, cap, [], rfl, ⟨by simp, fun e => by cases e⟩, .inl rfl, fun i hi => absurd hi (Nat.not_lt_zero _), ?_⟩
      rw [Rows.uptoBulk, sumW]; omega
    · have hspot : spot = .none := by
        obtain ⟨p, g, _, hc⟩ := each 0 (by omega)
        have hl0 : 0 < (C p).length := by rw [hC p g]; exact k0
        have k1 := hc 0 _ (List.getElem?_eq_getElem hl0)
        simpa [Addr.add] using World.cell?_spot k1
      subst hspot
      obtain ⟨L, hl2, hp⟩ := list_of (p := fun i (p : α) => Good p ∧ wt p ≤ Rows.uptoBulk ((elems.map (·.1)).getD i .nil) ∧ W.rangeAt ab (ao + i * k) (C p)) z len (fun i hi => by
        obtain ⟨p, p1, p3, hc⟩ := each i hi
        refine ⟨p, p1, p3, fun j u hu => ?_⟩
        have := hc j u hu
        rw [Addr.add_lit, Addr.add_lit] at this
        exact this)
      refine ⟨some ⟨ab, ao, .none⟩, ab, ao, cap, L, by rw [hl2], ⟨by omega, fun e => by cases e⟩, .inr rfl, fun i hi => ⟨(hp i (by omega)).1, (hp i (by omega)).2.2⟩, ?_⟩
      have s := bulk_rows z L (elems.map (·.1)) (by rw [List.length_map]; omega) fun i hi => (hp i (by rw [List.length_map] at hi; omega)).2.1
      show sumW wt L + 1 ≤ Rows.uptoBulk (DataW.slice (elems.map (·.1)) (rest.map (·.1)))
      rw [Rows.uptoBulk]; omega
def hC (X : List Int) : List Value := X.map (Value.int .u8)
end
section
variable {H : Type} {enc : TypeId × Value → H} {W : World}
theorem cells_haN : Tryd.prog.cellsOf 26 = 32 := by kernel_rfl
theorem cells_adN : Tryd.prog.cellsOf 24 = 20 := by kernel_rfl
/-- A digest. -/
def HaG (X : List Int) : Prop := X.length = 32 ∧ Bys X
theorem cells_haT {fuel : Nat} {cs : List Value} {x : DataW H × List MemPlace} (hf : DataW.trod enc Tryd.prog W 0 (fun _ => true) true fuel 26 cs = some x) : ∃ X, HaG X ∧ cs = hC X ∧ X.length + 1 ≤ Rows.uptoBulk x.1 := by
  exact cells_arr Tryd.underlying26 cells_haN hf
/-- Digests in a row. -/
def KsG (W : World) (a : Option Addr) (b o c : Nat) (ks : List (List Int)) : Prop := (ks.length ≤ c ∧ (a = none → c = 0)) ∧ (ks = [] ∨ a = some ⟨b, o, none⟩) ∧ ∀ i, i < ks.length → HaG (ks.getD i []) ∧ W.rangeAt b (o + i * 32) (hC (ks.getD i []))
theorem cells_has {fuel : Nat} {cs : List Value} {x : DataW H × List MemPlace} (hf : DataW.trod enc Tryd.prog W 0 (fun _ => true) true fuel 30 cs = some x) :
    ∃ (a : Option Addr) (b o c : Nat) (ks : List (List Int)), cs = [.slice a ks.length c] ∧ KsG W a b o c ks ∧ sumW (fun X => X.length + 1) ks + 1 ≤ Rows.uptoBulk x.1 := by
  obtain ⟨a, b, o, c, L, h1, h2, h3, h4, h5⟩ := cells_rows (k := 32) [] hC (fun X => X.length + 1) HaG Tryd.underlying30 cells_haN (by decide) (fun X h => by rw [hC, List.length_map]; exact h.1) (fun n _ cs x h => cells_haT h) hf
  exact ⟨a, b, o, c, L, h1, ⟨h2, h3, h4⟩, h5⟩
end
end Go.Proofs.YtcjabligkeaafaaDoor.tq
