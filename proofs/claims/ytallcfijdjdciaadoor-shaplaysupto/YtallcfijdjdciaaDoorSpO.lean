import Derived.Test.YtallcfijdjdciaaDoorSLaid
import Derived.Test.YtallcfijdjdciaaDoorSpE
import Derived.ProofKit
import Derived.OpenShut
import Derived.SizedLaws
import Derived.Carry
import Derived.ChangeMaps5
import Derived.ChangeSlices
import Derived.Deep.Slices
/- Layer 3: a script as an argument. -/
namespace Go.Proofs.YtallcfijdjdciaaDoor.plays
open Go.ChangeShapes Go.WideShapes Go.ChangeAt Go.RowKit Go.Deep
theorem laidOut : laidOutB Tryd.prog = true := by kernel_rfl
theorem cells5 : Tryd.prog.cellsOf 5 = 1 := by kernel_rfl
theorem cellsD : Tryd.prog.cellsOf 34 = 1 := by kernel_rfl
theorem cellsI : Tryd.prog.cellsOf 3 = 1 := by kernel_rfl
theorem cellsOp : Tryd.prog.cellsOf 36 = 3 := by kernel_rfl
theorem bulk_lits {H : Type} (k : IntKind) : ∀ l : List Int, Rows.uptoBulkAll (lits (H := H) k l) = l.length
  | [] => rfl
  | x :: l => by
    have e : lits (H := H) k (x :: l) = .lit (.int k x) :: lits k l := rfl
    have u : Rows.uptoBulk (H := H) (.lit (.int k x)) = 1 := rfl
    rw [e, Rows.uptoBulkAll, bulk_lits k l, u, List.length_cons]
    omega
theorem bulk_sum {H : Type} {D : Nat → DataW H} : ∀ l : List Nat, Rows.uptoBulkAll (l.map D) = (l.map fun i => Rows.uptoBulk (D i)).sum
  | [] => rfl
  | i :: l => by rw [List.map_cons, Rows.uptoBulkAll, bulk_sum l, List.map_cons, List.sum_cons]
theorem sum_le {f g : Nat → Nat} : ∀ l : List Nat, (∀ i ∈ l, f i + 1 ≤ g i) → (l.map f).sum + l.length ≤ (l.map g).sum
  | [], _ => Nat.le_refl _
  | i :: l, h => by
    have a := h i (List.mem_cons_self ..)
    have b := sum_le l (fun j hj => h j (List.mem_cons_of_mem _ hj))
    simp only [List.map_cons, List.sum_cons, List.length_cons]
    omega
theorem totZ_range (XS : List OpR) : totZ XS = ((List.range XS.length).map fun i => (XS.getD i noOp).Z.length).sum := by
  unfold totZ
  congr 1
  apply List.ext_getElem?
  intro i
  by_cases h : i < XS.length
  · simp [h, List.getD]
  · rw [List.getElem?_eq_none (by simp; omega), List.getElem?_eq_none (by simp; omega)]
theorem list_of {α : Type} {p : Nat → α → Prop} (z : α) : ∀ n, (∀ i, i < n → ∃ a, p i a) → ∃ L : List α, L.length = n ∧ ∀ i, i < n → p i (L.getD i z)
  | 0, _ => ⟨[], rfl, fun i hi => absurd hi (Nat.not_lt_zero i)⟩
  | n + 1, h => by
    obtain ⟨L, hl, hp⟩ := list_of z n (fun i hi => h i (by omega))
    obtain ⟨a, ha⟩ := h n (by omega)
    refine ⟨L ++ [a], by simp [hl], fun i hi => ?_⟩
    by_cases e : i < n
    · have := hp i e
      rwa [List.getD, List.getElem?_append_left (by omega), ← List.getD]
    · obtain rfl : i = n := by omega
      rw [List.getD, List.getElem?_append_right (by omega), hl, Nat.sub_self]
      exact ha
section
variable {H : Type} {enc : TypeId × Value → H} {W : World}
set_option maxRecDepth 100000 in
theorem cells_data {fuel : Nat} {cs : List Value} {x : DataW H × List MemPlace} (hf : DataW.trod enc Tryd.prog W 0 (fun _ => true) true fuel 34 cs = some x) :
    ∃ (a : Option Addr) (bt ot ct : Nat) (X : List (BitVec 8)), cs = [.slice a X.length ct] ∧ X.length ≤ ct ∧ At a bt ot X ∧ (a = none → ct = 0) ∧ Byo W bt ot X ∧ X.length ≤ Rows.uptoBulk x.1 := by
  rcases open_ints Tryd.underlying34 Tryd.underlying5 cells5 hf with ⟨rfl, hx⟩ | ⟨a, len, cap, zs, rfl, _, hl, hm, hz, hx, hcell, hwz⟩
  · exact ⟨.none, 0, 0, 0, [], rfl, Nat.le_refl _, .inl rfl, fun _ => rfl, fun i hi => absurd hi (by simp), Nat.zero_le _⟩
  · subst hx
    simp only [if_true] at hz
    have lX : ((zs.take len).map fun n => BitVec.ofNat 8 n.toNat).length = len := by rw [List.length_map, List.length_take]; omega
    obtain ⟨X, kX⟩ : ∃ X, X = (zs.take len).map fun n => BitVec.ofNat 8 n.toNat := ⟨_, rfl⟩
    rw [← kX] at lX
    have bl : X.length ≤ Rows.uptoBulk (DataW.slice (H := H) (lits .u8 (zs.take len)) (lits .u8 (zs.drop len))) := by
      rw [Rows.uptoBulk, bulk_lits, lX, List.length_take]
      omega
    by_cases h0 : len = 0
    · exact ⟨some a, 0, 0, cap, X, by rw [lX], by omega, .inl (List.eq_nil_of_length_eq_zero (by omega)), (fun e => by cases e), fun i hi => absurd hi (by omega), bl⟩
    · obtain ⟨ab, ao, spot⟩ := a
      have hspot : spot = .none := by simpa [Addr.add] using World.cell?_spot (hcell 0 (by omega))
      subst hspot
      refine ⟨some ⟨ab, ao, .none⟩, ab, ao, cap, X, by rw [lX], by omega, .inr rfl, (fun e => by cases e), fun i hi => ?_, bl⟩
      have hc := hcell i (by omega)
      rw [Addr.add_lit] at hc
      rw [hc]
      have hw : (Lit.int .u8 (zs.getD i 0)).wf = true := hwz _ (by
        rw [List.getD, List.getElem?_eq_getElem (by omega)]
        exact List.getElem_mem (by omega))
      have b : 0 ≤ zs.getD i 0 ∧ zs.getD i 0 < 256 := by
        simp [Lit.wf, IntKind.min, IntKind.max, IntKind.signed, IntKind.bits] at hw
        exact ⟨by simpa using hw.1, by have := hw.2; simp at this ⊢; omega⟩
      have e : X.getD i 0 = BitVec.ofNat 8 (zs.getD i 0).toNat := by
        rw [kX, List.getD, List.getElem?_map, List.getElem?_take, if_pos (by omega), List.getD, List.getElem?_eq_getElem (show i < zs.length by omega)]
        rfl
      rw [e, Y_eq, BitVec.toNat_ofNat]
      congr 2
      generalize zs.getD i 0 = z at *
      omega
theorem cells_op {fuel : Nat} {cs : List Value} {x : DataW H × List MemPlace} (hf : DataW.trod enc Tryd.prog W 0 (fun _ => true) true fuel 36 cs = some x) :
    ∃ r : OpR, cs = r.v ∧ r.ok W ∧ r.Z.length + 1 ≤ Rows.uptoBulk x.1 := by
  obtain ⟨xs, m, rfl, hx, hl, hn, hi⟩ := DataW.trod_struct Tryd.underlying36 hf
  rw [cellsOp] at hl
  match xs, hn with
  | [y0, y1, y2], _ =>
    have a0 : DataW.trod enc Tryd.prog W 0 (fun _ => true) true m 3 (List.take (Tryd.prog.cellsOf 3) (List.drop 0 cs)) = some y0 := hi 0 _ rfl
    have a1 : DataW.trod enc Tryd.prog W 0 (fun _ => true) true m 3 (List.take (Tryd.prog.cellsOf 3) (List.drop 1 cs)) = some y1 := hi 1 _ rfl
    have a3 : DataW.trod enc Tryd.prog W 0 (fun _ => true) true m 34 (List.take (Tryd.prog.cellsOf 34) (List.drop 2 cs)) = some y2 := hi 2 _ rfl
    rw [cellsI] at a0 a1
    rw [cellsD] at a3
    obtain ⟨k0, e0, _, _⟩ := DataW.trod_int Tryd.underlying3 a0
    obtain ⟨k1, e1, _, w1⟩ := DataW.trod_int Tryd.underlying3 a1
    obtain ⟨a, g, p, c, Z, e3, h1, h2, _, h4, h5⟩ := cells_data a3
    have b1 := Go.bounds_i64 w1
    refine ⟨⟨k0, k1, a, g, p, c, Z⟩, ?_, ⟨b1.1, Int.lt_of_le_of_lt b1.2 (by decide), h1, h2, h4⟩, ?_⟩
    · match cs, hl with
      | [c0, c1, c2], _ =>
        simp at e0 e1 e3
        rw [e0, e1, e3]; rfl
    · rw [hx]
      show Z.length + 1 ≤ Rows.uptoBulk (DataW.agg [y0.1, y1.1, y2.1])
      rw [Rows.uptoBulk, Rows.uptoBulkAll, Rows.uptoBulkAll, Rows.uptoBulkAll, Rows.uptoBulkAll]
      omega
set_option maxRecDepth 100000 in
theorem open_ops {base : Nat} {v : Value} {d : DataW H} {p : List MemPlace} (hval : Value.okWide Tryd.prog W .any base 22 v) (h : DataW.Trod enc Tryd.prog W 0 (fun _ => true) true 22 v d p) :
    ∃ (a : Option Addr) (b o c : Nat) (XS : List OpR), v = .slice a XS.length c ∧ (XS = [] ∨ a = some ⟨b, o, .none⟩) ∧ Ops W b o XS ∧ totZ XS + XS.length ≤ Rows.uptoBulk d := by
  obtain ⟨a1, len, cap, rfl⟩ := okWide_slice Tryd.underlying22 hval
  obtain ⟨fuel, hf⟩ := h
  rcases open_slice Tryd.underlying22 hf with ⟨hcs, hx⟩ | ⟨a, len', cap', m, n, D, Pl, hcs, _, hl, hm, hM, hx, hr⟩
  · simp [Value.cells] at hcs
    obtain ⟨rfl, rfl, rfl⟩ := hcs
    exact ⟨.none, 0, 0, 0, [], rfl, .inl rfl, (fun i hi => absurd hi (Nat.not_lt_zero _)), Nat.zero_le _⟩
  · simp [Value.cells] at hcs
    obtain ⟨rfl, rfl, rfl⟩ := hcs
    simp only [if_true] at hM
    subst hM
    simp only [Prod.mk.injEq] at hx
    obtain ⟨rfl, rfl⟩ := hx
    rw [cellsOp] at hr
    obtain ⟨ab, ao, spot⟩ := a
    have each : ∀ i, i < len → ∃ r : OpR, r.ok W ∧ r.Z.length + 1 ≤ Rows.uptoBulk (D i) ∧ ∀ j u, r.v[j]? = some u → W.cell? (((⟨ab, ao, spot⟩ : Addr).add (i * 3)).add j) = some u := fun i hi => by
      obtain ⟨cs', k1, k2⟩ := hr i (by omega)
      obtain ⟨r, rfl, hok, hb⟩ := cells_op k2
      refine ⟨r, hok, hb, fun j u hu => ?_⟩
      have hj : j < 3 := (List.getElem?_eq_some_iff.1 hu).1
      unfold World.cells? at k1
      split at k1
      · have := mapM_some_get k1 j j (by simp [hj])
        rw [this, hu]
      · cases k1
    by_cases h0 : len = 0
    · subst h0
      exact ⟨some ⟨ab, ao, spot⟩, 0, 0, m, [], rfl, .inl rfl, (fun i hi => absurd hi (Nat.not_lt_zero _)), Nat.zero_le _⟩
    · have hspot : spot = .none := by
        obtain ⟨r, _, _, hc⟩ := each 0 (by omega)
        have k1 := hc 0 (.int .i64 r.kd) rfl
        simpa [Addr.add] using World.cell?_spot k1
      subst hspot
      obtain ⟨XS, hl2, hp⟩ := list_of (p := fun i (r : OpR) => (W.rangeAt ab (ao + i * 3) r.v ∧ r.ok W) ∧ r.Z.length + 1 ≤ Rows.uptoBulk (D i)) noOp len (fun i hi => by
        obtain ⟨r, q1, q2, hc⟩ := each i hi
        refine ⟨r, ⟨fun j u hu => ?_, q1⟩, q2⟩
        have := hc j u hu
        rw [Addr.add_lit, Addr.add_lit] at this
        exact this)
      refine ⟨some ⟨ab, ao, .none⟩, ab, ao, m, XS, by rw [hl2], .inr rfl, fun i hi => (hp i (by omega)).1, ?_⟩
      have s := sum_le (f := fun i => (XS.getD i noOp).Z.length) (g := fun i => Rows.uptoBulk (D i)) (List.range len) (fun i hi => (hp i (List.mem_range.1 hi)).2)
      rw [List.length_range] at s
      rw [totZ_range, hl2, Rows.uptoBulk, bulk_sum]
      omega
end
end Go.Proofs.YtallcfijdjdciaaDoor.plays
