import Derived.Test.YtlmlhiookoediaaRjH
import Derived.ProofKit
import Derived.OpenShut
import Derived.Carry
import Derived.ChangeSlices
import Derived.ChangeMaps5
import Derived.Deep.Matrix
/- Layer 7: lists of texts as arguments. -/
namespace Go.Proofs.Ytlmlhiookoediaa.zz
open Go.ChangeShapes Go.WideShapes Go.ChangeAt Go.RowKit Go.Deep

theorem laidOut : laidOutB Try.prog = true := by kernel_rfl
theorem ownZ : ownKnob Try.prog.godebug = none := by kernel_rfl
theorem cells5 : Try.prog.cellsOf 5 = 1 := by kernel_rfl
theorem cells27 : Try.prog.cellsOf 23 = 1 := by kernel_rfl
theorem bulk_lits {H : Type} (k : IntKind) : ∀ l : List Int, Rows.uptoBulkAll (lits (H := H) k l) = l.length
  | [] => rfl
  | x :: l => by
    have e : lits (H := H) k (x :: l) = .lit (.int k x) :: lits k l := rfl
    have u : Rows.uptoBulk (H := H) (.lit (.int k x)) = 1 := rfl
    rw [e, Rows.uptoBulkAll, bulk_lits k l, u, List.length_cons]
    omega
/-- A text out of its row. -/
def txt (L : Nat → Nat) (Z : Nat → List Int) (r : Nat) : List Int := (Z r).take (L r)
theorem txt_ok {W : World} {a : Option Addr} {len cap : Nat} {zs : List Int} (hl : len ≤ cap) (hz : zs.length = cap) (h0 : a = none → cap = 0) (hc : ∀ a', a = some a' → ∀ c, c < cap → W.cell? (a'.add c) = some (.int .u8 (zs.getD c 0))) :
    Tz W (.slice a len cap) (zs.take len) := by
  have lX : (zs.take len).length = len := by rw [List.length_take]; omega
  cases a with
  | none =>
    have h1 := h0 rfl
    have h2 : len = 0 := by omega
    subst h2
    exact ⟨none, 0, 0, cap, by simp, by simp, .inl (by simp), fun _ => h1, fun i hi => by simp at hi⟩
  | some x =>
    obtain ⟨b, o, spot⟩ := x
    by_cases h1 : len = 0
    · subst h1
      exact ⟨some ⟨b, o, spot⟩, 0, 0, cap, by simp, by simp, .inl (by simp), fun e => absurd e (by simp), fun i hi => by simp at hi⟩
    · have hspot : spot = .none := by simpa [Addr.add] using World.cell?_spot (hc _ rfl 0 (by omega))
      subst hspot
      refine ⟨some ⟨b, o, none⟩, b, o, cap, by rw [lX], by rw [lX]; exact hl, .inr rfl, fun e => absurd e (by simp), fun i hi => ?_⟩
      rw [lX] at hi
      have h2 := hc _ rfl i (by omega)
      rw [Addr.add_lit] at h2
      rw [h2]
      simp [List.getD, hi]
theorem getD_txt {L : Nat → Nat} {Z : Nat → List Int} {n i : Nat} (h : i < n) : ((List.range n).map (txt L Z)).getD i [] = txt L Z i := by
  rw [List.getD, List.getElem?_map, List.getElem?_range h]; rfl
theorem lenS_txt {L : Nat → Nat} {Z : Nat → List Int} {n : Nat} (hz : ∀ r, r < n → L r ≤ (Z r).length) : ∀ i, i ≤ n → lenS ((List.range n).map (txt L Z)) i = ((List.range i).map L).sum
  | 0, _ => rfl
  | i + 1, h => by
    rw [lenS, lenS_txt hz i (by omega), getD_txt (by omega), List.range_succ, List.map_append, List.sum_append]
    have : (txt L Z i).length = L i := by rw [txt, List.length_take]; have := hz i (by omega); omega
    rw [this]; simp
section
variable {H : Type} {enc : TypeId × Value → H}
theorem bulk_row (a : Option Addr) {len cap : Nat} {zs : List Int} (hl : len ≤ cap) (hz : zs.length = cap) (h0 : a = none → cap = 0) : len + 1 ≤ Rows.uptoBulk (intRow (H := H) .u8 a len zs) := by
  cases a with
  | none =>
    have := h0 rfl
    have u : Rows.uptoBulk (intRow (H := H) .u8 none len zs) = 1 := rfl
    rw [u]; omega
  | some x =>
    have u : Rows.uptoBulk (intRow (H := H) .u8 (some x) len zs) = Rows.uptoBulk (.slice (lits (H := H) .u8 (zs.take len)) (lits .u8 (zs.drop len))) := rfl
    rw [u, Rows.uptoBulk, bulk_lits, List.length_take]
    omega
theorem bulk_rows {A : Nat → Option Addr} {L C : Nat → Nat} {Z : Nat → List Int} : ∀ l : List Nat, (∀ r ∈ l, L r ≤ C r ∧ (Z r).length = C r ∧ (A r = none → C r = 0)) →
    (l.map L).sum + l.length ≤ Rows.uptoBulkAll (l.map fun r => intRow (H := H) .u8 (A r) (L r) (Z r))
  | [], _ => Nat.le_refl _
  | r :: l, h => by
    obtain ⟨h1, h2, h3⟩ := h r (List.mem_cons_self ..)
    have i := bulk_rows l fun q hq => h q (List.mem_cons_of_mem _ hq)
    have b := bulk_row (H := H) (A r) h1 h2 h3
    rw [List.map_cons, List.map_cons, Rows.uptoBulkAll, List.sum_cons, List.length_cons]
    omega
set_option maxRecDepth 100000 in
theorem open_zz {W : World} {base : Nat} {v : Value} {d : DataW H} {p : List MemPlace} (hval : Value.okWide Try.prog W .any base 22 v) (h : DataW.Trod enc Try.prog W 0 (fun _ => true) true 22 v d p) :
    ∃ (a : Option Addr) (b o c : Nat) (XS : List (List Int)) (V : Nat → Value), v = .slice a XS.length c ∧ AzP a b o XS ∧ Pz W b o XS V ∧ lenS XS XS.length + XS.length ≤ Rows.uptoBulk d := by
  obtain ⟨a1, len, cap, rfl⟩ := okWide_slice Try.underlying22 hval
  obtain ⟨fuel, hf⟩ := h
  rcases open_int_rows Try.underlying22 Try.underlying23 Try.underlying5 cells27 cells5 hf with ⟨hcs, hx⟩ | ⟨a, len', cap', A, L, C, Z, hcs, _, hl, hm, hx, hr⟩
  · simp [Value.cells] at hcs
    obtain ⟨rfl, rfl, rfl⟩ := hcs
    exact ⟨.none, 0, 0, 0, [], fun _ => .bool true, rfl, .inl rfl, (fun i hi => absurd hi (Nat.not_lt_zero _)), Nat.zero_le _⟩
  · simp [Value.cells] at hcs
    obtain ⟨rfl, rfl, rfl⟩ := hcs
    simp only [Prod.mk.injEq] at hx
    obtain ⟨rfl, rfl⟩ := hx
    have lP : ((List.range len).map (txt L Z)).length = len := by simp
    have hz : ∀ r, r < len → L r ≤ (Z r).length := fun r hr' => by
      have hq := hr r (by omega)
      rw [hq.2.2.2.1]; exact hq.2.1
    have bl : lenS ((List.range len).map (txt L Z)) ((List.range len).map (txt L Z)).length + ((List.range len).map (txt L Z)).length ≤ Rows.uptoBulk (DataW.slice (H := H) ((List.range len).map fun r => intRow .u8 (A r) (L r) (Z r)) ((List.range (cap - len)).map fun j => intRow .u8 (A (len + j)) (L (len + j)) (Z (len + j)))) := by
      rw [Rows.uptoBulk, lP, lenS_txt hz len (Nat.le_refl _)]
      have h := bulk_rows (H := H) (A := A) (L := L) (C := C) (Z := Z) (List.range len) fun r hr' => by
        have hq := hr r (by have := List.mem_range.1 hr'; omega)
        exact ⟨hq.2.1, hq.2.2.2.1, hq.2.2.2.2.2.1⟩
      rw [List.length_range] at h
      omega
    by_cases h0 : len = 0
    · exact ⟨some a, 0, 0, cap, (List.range len).map (txt L Z), fun _ => .bool true, by rw [lP], .inl (List.eq_nil_of_length_eq_zero (by omega)), fun i hi => absurd hi (by omega), bl⟩
    · obtain ⟨ab, ao, spot⟩ := a
      have hspot : spot = .none := by simpa [Addr.add] using World.cell?_spot (hr 0 (by omega)).1
      subst hspot
      refine ⟨some ⟨ab, ao, .none⟩, ab, ao, cap, (List.range len).map (txt L Z), fun r => .slice (A r) (L r) (C r), by rw [lP], .inr rfl, fun i hi => ?_, bl⟩
      rw [lP] at hi
      obtain ⟨q1, q2, q3, q4, q5, q6, q7⟩ := hr i (by omega)
      rw [Addr.add_lit] at q1
      rw [getD_txt hi]
      exact ⟨q1, txt_ok q2 q4 q6 (fun a' ha => (q7 a' ha).2)⟩
end
end Go.Proofs.Ytlmlhiookoediaa.zz
