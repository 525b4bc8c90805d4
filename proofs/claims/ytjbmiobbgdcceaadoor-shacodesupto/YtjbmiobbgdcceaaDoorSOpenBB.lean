import Derived.Test.YtjbmiobbgdcceaaDoorSLaid
import Derived.Test.YtjbmiobbgdcceaaDoorSBase
import Derived.Carry
import Derived.ChangeSlices
import Derived.Deep.Matrix
namespace Go.Proofs.YtjbmiobbgdcceaaDoor.bb
open Go.ChangeShapes Go.WideShapes Go.ChangeAt Go.RowKit Go.Deep

theorem laidOut : laidOutB Tryd.prog = true := by kernel_rfl
theorem cells5 : Tryd.prog.cellsOf 5 = 1 := by kernel_rfl
theorem cells27 : Tryd.prog.cellsOf 22 = 1 := by kernel_rfl
theorem bulk_lits {H : Type} (k : IntKind) : ∀ l : List Int, Rows.uptoBulkAll (lits (H := H) k l) = l.length
  | [] => rfl
  | x :: l => by
    have e : lits (H := H) k (x :: l) = .lit (.int k x) :: lits k l := rfl
    have u : Rows.uptoBulk (H := H) (.lit (.int k x)) = 1 := rfl
    rw [e, Rows.uptoBulkAll, bulk_lits k l, u, List.length_cons]
    omega
/-- The bytes that numbers stand for. -/
def bytesOf (zs : List Int) : List (BitVec 8) := zs.map fun n => BitVec.ofNat 8 n.toNat
theorem byte_at {zs : List Int} {len i : Nat} (hi : i < len) (hl : len ≤ zs.length) (hw : ∀ n ∈ zs, (Lit.int .u8 n).wf = true) : Y ((bytesOf (zs.take len)).getD i 0) = zs.getD i 0 := by
  have hw2 : (Lit.int .u8 (zs.getD i 0)).wf = true := hw _ (by
    rw [List.getD, List.getElem?_eq_getElem (by omega)]
    exact List.getElem_mem (by omega))
  have b : 0 ≤ zs.getD i 0 ∧ zs.getD i 0 < 256 := by
    simp [Lit.wf, IntKind.min, IntKind.max, IntKind.signed, IntKind.bits] at hw2
    exact ⟨by simpa using hw2.1, by have := hw2.2; simp at this ⊢; omega⟩
  have e : (bytesOf (zs.take len)).getD i 0 = BitVec.ofNat 8 (zs.getD i 0).toNat := by
    rw [bytesOf, List.getD, List.getElem?_map, List.getElem?_take, if_pos (by omega), List.getD, List.getElem?_eq_getElem (show i < zs.length by omega)]
    rfl
  rw [e, Y_eq, BitVec.toNat_ofNat]
  generalize zs.getD i 0 = z at *
  omega
def partOf (a : Option Addr) (len cap : Nat) (zs : List Int) : Part :=
  match a with
  | none => ⟨none, 0, 0, cap, bytesOf (zs.take len)⟩
  | some x => ⟨some x, x.block, x.off, cap, bytesOf (zs.take len)⟩
theorem partOf_a (a : Option Addr) (len cap : Nat) (zs : List Int) : (partOf a len cap zs).a = a := by cases a <;> rfl
theorem partOf_c (a : Option Addr) (len cap : Nat) (zs : List Int) : (partOf a len cap zs).c = cap := by cases a <;> rfl
theorem partOf_X (a : Option Addr) (len cap : Nat) (zs : List Int) : (partOf a len cap zs).X = bytesOf (zs.take len) := by cases a <;> rfl
theorem partOf_ok {W : World} {a : Option Addr} {len cap : Nat} {zs : List Int} (hl : len ≤ cap) (hz : zs.length = cap) (hw : ∀ n ∈ zs, (Lit.int .u8 n).wf = true) (h0 : a = none → cap = 0) (hc : ∀ a', a = some a' → ∀ c, c < cap → W.cell? (a'.add c) = some (.int .u8 (zs.getD c 0))) :
    (partOf a len cap zs).val = .slice a len cap ∧ (partOf a len cap zs).ok W := by
  have lX : (bytesOf (zs.take len)).length = len := by rw [bytesOf, List.length_map, List.length_take]; omega
  cases a with
  | none =>
    have h1 := h0 rfl
    have h2 : len = 0 := by omega
    refine ⟨by show Value.slice none (bytesOf (zs.take len)).length cap = _; rw [lX], .inl (List.eq_nil_of_length_eq_zero (by rw [partOf_X]; omega)), by rw [partOf_X, partOf_c, lX]; exact hl, fun i hi => ?_⟩
    rw [partOf_X, lX] at hi
    omega
  | some x =>
    obtain ⟨b, o, spot⟩ := x
    refine ⟨by show Value.slice (some ⟨b, o, spot⟩) (bytesOf (zs.take len)).length cap = _; rw [lX], ?_, by rw [partOf_X, partOf_c, lX]; exact hl, fun i hi => ?_⟩
    · by_cases h1 : len = 0
      · exact .inl (List.eq_nil_of_length_eq_zero (by rw [partOf_X]; omega))
      · have hspot : spot = .none := by simpa [Addr.add] using World.cell?_spot (hc _ rfl 0 (by omega))
        subst hspot
        exact .inr rfl
    · rw [partOf_X, lX] at hi
      have hspot : spot = .none := by simpa [Addr.add] using World.cell?_spot (hc _ rfl 0 (by omega))
      subst hspot
      have h1 := hc _ rfl i (by omega)
      rw [Addr.add_lit] at h1
      rw [partOf_X, byte_at hi (by omega) hw]
      exact h1

section
variable {H : Type} {enc : TypeId × Value → H}

theorem bulk_row (a : Option Addr) {len cap : Nat} {zs : List Int} (hl : len ≤ cap) (hz : zs.length = cap) (h0 : a = none → cap = 0) : (partOf a len cap zs).X.length + 1 ≤ Rows.uptoBulk (intRow (H := H) .u8 a len zs) := by
  have lX : (bytesOf (zs.take len)).length = len := by rw [bytesOf, List.length_map, List.length_take]; omega
  rw [partOf_X, lX]
  cases a with
  | none =>
    have := h0 rfl
    have u : Rows.uptoBulk (intRow (H := H) .u8 none len zs) = 1 := rfl
    rw [u]; omega
  | some x =>
    have u : Rows.uptoBulk (intRow (H := H) .u8 (some x) len zs) = Rows.uptoBulk (.slice (lits (H := H) .u8 (zs.take len)) (lits .u8 (zs.drop len))) := rfl
    rw [u, Rows.uptoBulk, bulk_lits, List.length_take]
    omega
theorem bulk_rows {A : Nat → Option Addr} {L C : Nat → Nat} {Z : Nat → List Int} : ∀ l : List Nat, (∀ r ∈ l, L r ≤ C r ∧ (Z r).length = C r ∧ (A r = none → C r = 0)) →
    (catX (l.map fun r => partOf (A r) (L r) (C r) (Z r))).length + l.length ≤ Rows.uptoBulkAll (l.map fun r => intRow (H := H) .u8 (A r) (L r) (Z r))
  | [], _ => Nat.le_refl _
  | r :: l, h => by
    obtain ⟨h1, h2, h3⟩ := h r (List.mem_cons_self ..)
    have i := bulk_rows l fun q hq => h q (List.mem_cons_of_mem _ hq)
    have b := bulk_row (H := H) (A r) h1 h2 h3
    rw [List.map_cons, List.map_cons, Rows.uptoBulkAll, catX, List.flatMap_cons, List.length_append, List.length_cons]
    rw [catX] at i
    omega

set_option maxRecDepth 100000 in
theorem open_bb {W : World} {base : Nat} {v : Value} {d : DataW H} {p : List MemPlace} (hval : Value.okWide Tryd.prog W .any base 23 v) (h : DataW.Trod enc Tryd.prog W 0 (fun _ => true) true 23 v d p) :
    ∃ (a : Option Addr) (bp op cp : Nat) (PS : List Part), v = .slice a PS.length cp ∧ (PS = [] ∨ a = some ⟨bp, op, none⟩) ∧ (∀ p ∈ PS, p.a = none → p.c = 0) ∧ Prts W bp op PS ∧ (catX PS).length + PS.length ≤ Rows.uptoBulk d := by
  obtain ⟨a1, len, cap, rfl⟩ := okWide_slice Tryd.underlying23 hval
  obtain ⟨fuel, hf⟩ := h
  rcases open_int_rows Tryd.underlying23 Tryd.underlying22 Tryd.underlying5 cells27 cells5 hf with ⟨hcs, hx⟩ | ⟨a, len', cap', A, L, C, Z, hcs, _, hl, hm, hx, hr⟩
  · simp [Value.cells] at hcs
    obtain ⟨rfl, rfl, rfl⟩ := hcs
    exact ⟨.none, 0, 0, 0, [], rfl, .inl rfl, (fun p hp => absurd hp List.not_mem_nil), (fun i hi => absurd hi (Nat.not_lt_zero _)), Nat.zero_le _⟩
  · simp [Value.cells] at hcs
    obtain ⟨rfl, rfl, rfl⟩ := hcs
    simp only [Prod.mk.injEq] at hx
    obtain ⟨rfl, rfl⟩ := hx
    obtain ⟨PS, kP⟩ : ∃ PS, PS = (List.range len).map fun r => partOf (A r) (L r) (C r) (Z r) := ⟨_, rfl⟩
    have lP : PS.length = len := by rw [kP]; simp
    have bl : (catX PS).length + PS.length ≤ Rows.uptoBulk (DataW.slice (H := H) ((List.range len).map fun r => intRow .u8 (A r) (L r) (Z r)) ((List.range (cap - len)).map fun j => intRow .u8 (A (len + j)) (L (len + j)) (Z (len + j)))) := by
      rw [Rows.uptoBulk, lP, kP]
      have h := bulk_rows (H := H) (A := A) (L := L) (C := C) (Z := Z) (List.range len) fun r hr' => by
        have hq := hr r (by have := List.mem_range.1 hr'; omega)
        exact ⟨hq.2.1, hq.2.2.2.1, hq.2.2.2.2.2.1⟩
      rw [List.length_range] at h
      omega
    have hnil : ∀ p ∈ PS, p.a = none → p.c = 0 := fun p hp => by
      rw [kP] at hp
      obtain ⟨r, hr', rfl⟩ := List.mem_map.1 hp
      rw [partOf_a, partOf_c]
      exact (hr r (by have := List.mem_range.1 hr'; omega)).2.2.2.2.2.1
    by_cases h0 : len = 0
    · exact ⟨some a, 0, 0, cap, PS, by rw [lP], .inl (List.eq_nil_of_length_eq_zero (by omega)), hnil, fun i hi => absurd hi (by omega), bl⟩
    · obtain ⟨ab, ao, spot⟩ := a
      have hspot : spot = .none := by simpa [Addr.add] using World.cell?_spot (hr 0 (by omega)).1
      subst hspot
      refine ⟨some ⟨ab, ao, .none⟩, ab, ao, cap, PS, by rw [lP], .inr rfl, hnil, fun i hi => ?_, bl⟩
      rw [lP] at hi
      obtain ⟨q1, q2, q3, q4, q5, q6, q7⟩ := hr i (by omega)
      have e : PS.getD i .none = partOf (A i) (L i) (C i) (Z i) := by rw [kP]; simp [List.getD, hi]
      obtain ⟨o1, o2⟩ := partOf_ok (W := W) q2 q4 q5 q6 (fun a' ha => (q7 a' ha).2)
      rw [e, o1]
      rw [Addr.add_lit] at q1
      exact ⟨q1, o2⟩
end
end Go.Proofs.YtjbmiobbgdcceaaDoor.bb
