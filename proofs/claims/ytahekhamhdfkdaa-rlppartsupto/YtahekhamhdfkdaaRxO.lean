import Derived.Test.YtahekhamhdfkdaaRxM
import Derived.Test.YtahekhamhdfkdaaRows
import Derived.ProofKit
import Derived.OpenShut
import Derived.Carry
import Derived.ChangeSlices
import Derived.ChangeMaps5
import Derived.Deep.Slices
/- Layer 7: trees as arguments. -/
namespace Go.Proofs.Ytahekhamhdfkdaa.tt
open Go.ChangeShapes Go.WideShapes Go.ChangeAt Go.RowKit Go.Deep

theorem laidOut : laidOutB Try.prog = true := by kernel_rfl
theorem ownT : ownKnob Try.prog.godebug = none := by kernel_rfl
theorem cells5 : Try.prog.cellsOf 5 = 1 := by kernel_rfl
theorem cellsB : Try.prog.cellsOf 22 = 1 := by kernel_rfl
theorem cellsL : Try.prog.cellsOf 24 = 1 := by kernel_rfl
theorem cellsO : Try.prog.cellsOf 4 = 1 := by kernel_rfl
theorem cellsI : Try.prog.cellsOf 26 = 3 := by kernel_rfl
theorem bulk_lits {H : Type} (k : IntKind) : ∀ l : List Int, Rows.uptoBulkAll (lits (H := H) k l) = l.length
  | [] => rfl
  | x :: l => by
    have e : lits (H := H) k (x :: l) = .lit (.int k x) :: lits k l := rfl
    have u : Rows.uptoBulk (H := H) (.lit (.int k x)) = 1 := rfl
    rw [e, Rows.uptoBulkAll, bulk_lits k l, u, List.length_cons]
    omega
theorem list_of {α : Type} {p : Nat → α → Prop} (z : α) : ∀ n, (∀ i, i < n → ∃ a, p i a) → ∃ L : List α, L.length = n ∧ ∀ i, i < n → p i (L.getD i z)
  | 0, _ => ⟨[], rfl, fun _ h => absurd h (Nat.not_lt_zero _)⟩
  | n + 1, h => by
    obtain ⟨L, hl, hp⟩ := list_of z n fun i hi => h i (by omega)
    obtain ⟨a, ha⟩ := h n (by omega)
    refine ⟨L ++ [a], by simp [hl], fun i hi => ?_⟩
    by_cases e : i = n
    · subst e; simpa [List.getD, ← hl] using ha
    · have h1 := hp i (by omega)
      simpa [List.getD, List.getElem?_append_left (show i < L.length by omega)] using h1
mutual
/-- All texts are bytes. -/
def BysT : Tr → Prop
  | .mk _ X ts => Bys X ∧ BysS ts
def BysS : List Tr → Prop
  | [] => True
  | t :: ts => BysT t ∧ BysS ts
end
theorem BysS.of : ∀ {ts : List Tr}, (∀ i, i < ts.length → BysT (ts.getD i zT)) → BysS ts
  | [], _ => by rw [BysS]; trivial
  | t :: ts, h => by
    rw [BysS]
    exact ⟨by simpa using h 0 (by simp), BysS.of fun i hi => by simpa using h (i + 1) (by simpa using hi)⟩
section
variable {H : Type} {enc : TypeId × Value → H}
theorem bulk_sum : ∀ (L : List (Tr × Value × Value)) (E : List (DataW H)), L.length = E.length → (∀ i, i < E.length → wtT (L.getD i (zT, zV)).1 ≤ Rows.uptoBulk (E.getD i .nil)) → wtS (L.map (·.1)) ≤ Rows.uptoBulkAll E
  | [], [], _, _ => Nat.le_refl _
  | [], _ :: _, h, _ => by simp at h
  | _ :: _, [], h, _ => by simp at h
  | p :: L, e :: E, h, hi => by
    rw [List.map_cons, wtS, Rows.uptoBulkAll]
    have h0 := hi 0 (by simp)
    have ih := bulk_sum L E (by simpa using h) fun i hi' => by simpa using hi (i + 1) (by simpa using hi')
    have h0' : wtT p.1 ≤ Rows.uptoBulk e := by simpa using h0
    omega
set_option maxRecDepth 100000 in
theorem cells_bytes {W : World} {fuel : Nat} {cs : List Value} {x : DataW H × List MemPlace} (hf : DataW.trod enc Try.prog W 0 (fun _ => true) true fuel 22 cs = some x) :
    ∃ (a : Option Addr) (b o c : Nat) (X : List Int), cs = [.slice a X.length c] ∧ (X.length ≤ c ∧ (a = none → c = 0)) ∧ Az a b o X ∧ Bz W b o X ∧ Bys X ∧ X.length + 1 ≤ Rows.uptoBulk x.1 := by
  rcases open_ints Try.underlying22 Try.underlying5 cells5 hf with ⟨rfl, rfl⟩ | ⟨a, len, cap, zs, rfl, _, hl, hm, hz, rfl, hcell, hwz⟩
  · exact ⟨.none, 0, 0, 0, [], rfl, ⟨Nat.le_refl _, fun _ => rfl⟩, .inl rfl, fun i hi => absurd hi (by simp), fun x hx => (by simp at hx), Nat.le_refl _⟩
  · simp only [if_true] at hz
    have lL : (zs.take len).length = len := by rw [List.length_take]; omega
    have hB : Bys (zs.take len) := fun x hx => by
      have := hwz x (List.mem_of_mem_take hx)
      simp [Lit.wf, IntKind.min, IntKind.max, IntKind.signed, IntKind.bits] at this
      exact ⟨by omega, by omega⟩
    have bl : (zs.take len).length + 1 ≤ Rows.uptoBulk (DataW.slice (H := H) (lits .u8 (zs.take len)) (lits .u8 (zs.drop len))) := by
      rw [Rows.uptoBulk, bulk_lits]
      omega
    by_cases h0 : len = 0
    · exact ⟨some a, 0, 0, cap, zs.take len, by rw [lL], ⟨by omega, fun e => by cases e⟩, .inl (List.eq_nil_of_length_eq_zero (by omega)), fun i hi => absurd hi (by omega), hB, bl⟩
    · obtain ⟨ab, ao, spot⟩ := a
      have hspot : spot = .none := by simpa [Addr.add] using World.cell?_spot (hcell 0 (by omega))
      subst hspot
      refine ⟨some ⟨ab, ao, .none⟩, ab, ao, cap, zs.take len, by rw [lL], ⟨by omega, fun e => by cases e⟩, .inr rfl, fun i hi => ?_, hB, bl⟩
      have hc := hcell i (by omega)
      rw [Addr.add_lit] at hc
      rw [hc]
      simp [List.getD, show i < len by omega]
/-- An item, opened. -/
def Opens (W : World) (fuel : Nat) : Prop := ∀ {cs : List Value} {x : DataW H × List MemPlace}, DataW.trod enc Try.prog W 0 (fun _ => true) true fuel 26 cs = some x → ∃ (t : Tr) (d q : Value), cs = [.bool t.l, d, q] ∧ It W t d q ∧ BysT t ∧ wtT t ≤ Rows.uptoBulk x.1
theorem cells_list {W : World} {fuel : Nat} (ih : ∀ n, n < fuel → Opens (enc := enc) W n) {cs : List Value} {x : DataW H × List MemPlace} (hf : DataW.trod enc Try.prog W 0 (fun _ => true) true fuel 24 cs = some x) :
    ∃ (a : Option Addr) (b o c : Nat) (ts : List Tr), cs = [.slice a ts.length c] ∧ (ts.length ≤ c ∧ (a = none → c = 0)) ∧ (ts = [] ∨ a = some ⟨b, o, none⟩) ∧ Its W b o ts ∧ BysS ts ∧ wtS ts + 1 ≤ Rows.uptoBulk x.1 := by
  rcases DataW.trod_slice Try.underlying24 hf with ⟨rfl, rfl⟩ | ⟨a, len, cap, elems, rest, n, hfu, rfl, rfl, _, hl, hm, hlen, hel, _, _⟩
  · exact ⟨none, 0, 0, 0, [], rfl, ⟨Nat.le_refl _, fun _ => rfl⟩, .inl rfl, by rw [Its]; trivial, by rw [BysS]; trivial, Nat.le_refl _⟩
  · rw [cellsI] at hel
    obtain ⟨ab, ao, spot⟩ := a
    have each : ∀ i, i < len → ∃ p : Tr × Value × Value, It W p.1 p.2.1 p.2.2 ∧ BysT p.1 ∧ wtT p.1 ≤ Rows.uptoBulk ((elems.map (·.1)).getD i .nil) ∧ ∀ j u, [Value.bool p.1.l, p.2.1, p.2.2][j]? = some u → W.cell? (((⟨ab, ao, spot⟩ : Addr).add (i * 3)).add j) = some u := fun i hi => by
      have key := hel i hi
      rw [List.getElem?_eq_getElem (by omega)] at key
      obtain ⟨cs', k1, k2⟩ := Option.bind_eq_some_iff.1 key
      obtain ⟨t, d, q, rfl, e2, e3, e4⟩ := ih n (by omega) k2
      refine ⟨(t, d, q), e2, e3, ?_, fun j u hu => ?_⟩
      · have e : (elems.map (·.1)).getD i .nil = (elems[i]'(by omega)).1 := by simp [List.getD, show i < elems.length by omega]
        rw [e]; exact e4
      · have hj : j < 3 := (List.getElem?_eq_some_iff.1 hu).1
        unfold World.cells? at k1
        split at k1
        · have := mapM_some_get k1 j j (by simp [hj])
          rw [this, hu]
        · cases k1
    by_cases h0 : len = 0
    · subst h0
      refine ⟨some ⟨ab, ao, spot⟩, 0, 0, cap, [], rfl, ⟨by simp, fun e => by cases e⟩, .inl rfl, by rw [Its]; trivial, by rw [BysS]; trivial, ?_⟩
      rw [Rows.uptoBulk, wtS]; omega
    · have hspot : spot = .none := by
        obtain ⟨p, _, _, _, hc⟩ := each 0 (by omega)
        have k1 := hc 0 _ rfl
        simpa [Addr.add] using World.cell?_spot k1
      subst hspot
      obtain ⟨L, hl2, hp⟩ := list_of (p := fun i (p : Tr × Value × Value) => It W p.1 p.2.1 p.2.2 ∧ BysT p.1 ∧ wtT p.1 ≤ Rows.uptoBulk ((elems.map (·.1)).getD i .nil) ∧ W.rangeAt ab (ao + i * 3) [Value.bool p.1.l, p.2.1, p.2.2]) (zT, zV) len (fun i hi => by
        obtain ⟨p, p1, p2, p3, hc⟩ := each i hi
        refine ⟨p, p1, p2, p3, fun j u hu => ?_⟩
        have := hc j u hu
        rw [Addr.add_lit, Addr.add_lit] at this
        exact this)
      have eL : ∀ i, (L.map (·.1)).getD i zT = (L.getD i (zT, zV)).1 := fun i => by
        rw [List.getD, List.getD, List.getElem?_map]
        cases L[i]? <;> rfl
      have lL : (L.map (·.1)).length = len := by rw [List.length_map, hl2]
      refine ⟨some ⟨ab, ao, .none⟩, ab, ao, cap, L.map (·.1), by rw [lL], ⟨by omega, fun e => by cases e⟩, .inr rfl, Its.of fun i hi => ?_, BysS.of fun i hi => ?_, ?_⟩
      · rw [eL]; have q := hp i (by omega); exact ⟨_, _, q.2.2.2, q.1⟩
      · rw [eL]; exact (hp i (by omega)).2.1
      · have s := bulk_sum L (elems.map (·.1)) (by rw [List.length_map]; omega) fun i hi => (hp i (by rw [List.length_map] at hi; omega)).2.2.1
        show wtS (L.map (·.1)) + 1 ≤ Rows.uptoBulk (DataW.slice (elems.map (·.1)) (rest.map (·.1)))
        rw [Rows.uptoBulk]; omega
set_option maxRecDepth 100000 in
theorem opens_all (W : World) : ∀ fuel, Opens (enc := enc) W fuel := fun fuel => by
  induction fuel using Nat.strongRecOn with
  | ind fuel ih =>
    intro cs x hf
    obtain ⟨xs, m, hfu, hx, hl, hn, hi⟩ := DataW.trod_struct Try.underlying26 hf
    rw [cellsI] at hl
    match xs, hn with
    | [y0, y1, y2], _ =>
      have a : DataW.trod enc Try.prog W 0 (fun _ => true) true m 4 (List.take (Try.prog.cellsOf 4) (List.drop 0 cs)) = some y0 := hi 0 _ rfl
      have b : DataW.trod enc Try.prog W 0 (fun _ => true) true m 22 (List.take (Try.prog.cellsOf 22) (List.drop 1 cs)) = some y1 := hi 1 _ rfl
      have c : DataW.trod enc Try.prog W 0 (fun _ => true) true m 24 (List.take (Try.prog.cellsOf 24) (List.drop 2 cs)) = some y2 := hi 2 _ rfl
      rw [cellsO] at a
      rw [cellsB] at b
      rw [cellsL] at c
      obtain ⟨lb, e1, rfl⟩ := DataW.trod_bool Try.underlying4 a
      obtain ⟨a1, b1, o1, c1, X, e2, x1, x2, x3, x4, x5⟩ := cells_bytes b
      obtain ⟨a2, b2, o2, c2, ts, e3, z1, z2, z3, z4, z5⟩ := cells_list (fun n hn => ih n (by omega)) c
      refine ⟨.mk lb X ts, .slice a1 X.length c1, .slice a2 ts.length c2, ?_, ?_, ?_, ?_⟩
      · match cs, hl with
        | [u0, u1, u2], _ =>
          simp at e1 e2 e3
          rw [e1, e2, e3]; rfl
      · rw [It]; exact ⟨⟨a1, b1, o1, c1, rfl, x1, x2, x3⟩, a2, b2, o2, c2, rfl, z1, z2, z3⟩
      · rw [BysT]; exact ⟨x4, z4⟩
      · rw [hx, wtT]
        simp only [List.map_cons, List.map_nil, Rows.uptoBulk, Rows.uptoBulkAll]
        omega
set_option maxRecDepth 100000 in
theorem open_items {W : World} {base : Nat} {v : Value} {d : DataW H} {p : List MemPlace} (hval : Value.okWide Try.prog W .any base 24 v) (h : DataW.Trod enc Try.prog W 0 (fun _ => true) true 24 v d p) :
    ∃ (a : Option Addr) (b o c : Nat) (ts : List Tr), v = .slice a ts.length c ∧ (ts.length ≤ c ∧ (a = none → c = 0)) ∧ (ts = [] ∨ a = some ⟨b, o, none⟩) ∧ Its W b o ts ∧ BysS ts ∧ wtS ts + 1 ≤ Rows.uptoBulk d := by
  obtain ⟨a1, len, cap, rfl⟩ := okWide_slice Try.underlying24 hval
  obtain ⟨fuel, hf⟩ := h
  obtain ⟨a, b, o, c, ts, h1, h2⟩ := cells_list (fun n _ => opens_all W n) hf
  simp [Value.cells] at h1
  obtain ⟨rfl, rfl, rfl⟩ := h1
  exact ⟨_, b, o, _, ts, rfl, h2⟩
set_option maxRecDepth 100000 in
theorem open_bytes {W : World} {base : Nat} {v : Value} {d : DataW H} {p : List MemPlace} (hval : Value.okWide Try.prog W .any base 22 v) (h : DataW.Trod enc Try.prog W 0 (fun _ => true) true 22 v d p) :
    ∃ (a : Option Addr) (b o c : Nat) (X : List Int), v = .slice a X.length c ∧ (X.length ≤ c ∧ (a = none → c = 0)) ∧ Az a b o X ∧ Bz W b o X ∧ Bys X ∧ X.length + 1 ≤ Rows.uptoBulk d := by
  obtain ⟨a1, len, cap, rfl⟩ := okWide_slice Try.underlying22 hval
  obtain ⟨fuel, hf⟩ := h
  obtain ⟨a, b, o, c, X, h1, h2⟩ := cells_bytes hf
  simp [Value.cells] at h1
  obtain ⟨rfl, rfl, rfl⟩ := h1
  exact ⟨_, b, o, _, X, rfl, h2⟩
end
end Go.Proofs.Ytahekhamhdfkdaa.tt
