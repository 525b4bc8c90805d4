import Derived.Test.YtahekhamhdfkdaaRsO
/- Layer 7: Parts of any bytes. -/
namespace Go.Proofs.Ytahekhamhdfkdaa
open Go.RowKit Go.Sort
theorem TxE.base {B B' : Nat} {W : World} {pv : Value} {XS : List (List Int)} {VS : List Value} (h : TxE B W pv XS VS) (hB : B' ≤ B) : TxE B' W pv XS VS := by
  refine ⟨h.1, ?_, fun j hj => ?_⟩
  · refine ⟨h.2.1.1, ?_⟩
    rcases h.2.1.2 with q | ⟨g, cap, cur, e1, e2, e3⟩
    · exact .inl q
    · exact .inr ⟨g, cap, cur, e1, Nat.le_trans hB e2, e3⟩
  · obtain ⟨u, h1, h2, h3⟩ := h.2.2 j hj
    exact ⟨u, h1, h2.base hB, h3⟩
/-- What Parts answers. -/
def partsP (A : List Int) : Int × List (List Int) :=
  if (hdP A).2.2.2 ≠ 0 then ((hdP A).2.2.2, []) else if (hdP A).1 = false then (75, []) else if totP A < A.length then (73, []) else cutP [] (A.drop (hdP A).2.1)
theorem parts_long {a : Option Addr} {m c : Nat} (hm : 16777216 < m) (w : World) :
    Calls Try.prog 22 #[.slice a m c] w fun e w' => e = .returned (.tuple #[.slice none 0 0, .int .i64 2]) ∧ Below w.heap.size w w' :=
  parts_err (l := false) (s := 0) (h := 0) (by decide) w (fun w1 _ => fh_long hm w1)
theorem parts_any {A : List Int} {a : Option Addr} {b o c : Nat} (hA : Byts A) (hl : A.length ≤ 16777216) (hc : A.length ≤ c) (ha : Az a b o A) (w : World) (h : Bz w b o A) :
    Calls Try.prog 22 #[.slice a A.length c] w fun e w' => ∃ v VS, e = .returned (.tuple #[v, .int .i64 (partsP A).1]) ∧ TxE w.heap.size w' v (partsP A).2 VS ∧ Below w.heap.size w w' := by
  have fh := fun w1 (B : Below w.heap.size w w1) => fh_all hA hl hc ha w1 (h.keep B)
  by_cases k0 : (hdP A).2.2.2 ≠ 0
  · have e : partsP A = ((hdP A).2.2.2, []) := by unfold partsP; rw [if_pos k0]
    rw [e]
    exact (parts_err k0 w fh).mono fun e w' x => ⟨_, [], x.1, TxE.nil _ _, x.2⟩
  have k1 : (hdP A).2.2.2 = 0 := Decidable.not_not.1 k0
  rw [k1] at fh
  obtain ⟨f1, f2⟩ := totP_fits k1
  have tt : (hdP A).2.1 + (hdP A).2.2.1 = totP A := rfl
  by_cases k2 : (hdP A).1 = false
  · have e : partsP A = (75, []) := by unfold partsP; rw [if_neg k0, if_pos k2]
    rw [e]
    rw [k2] at fh
    exact (parts_kind w fh).mono fun e w' x => ⟨_, [], x.1, TxE.nil _ _, x.2⟩
  have k3 : (hdP A).1 = true := by simpa using k2
  rw [k3] at fh
  by_cases k4 : totP A < A.length
  · have e : partsP A = (73, []) := by unfold partsP; rw [if_neg k0, if_neg k2, if_pos k4]
    rw [e]
    exact (parts_rest (by omega) hl w fh).mono fun e w' x => ⟨_, [], x.1, TxE.nil _ _, x.2⟩
  have e : partsP A = cutP [] (A.drop (hdP A).2.1) := by unfold partsP; rw [if_neg k0, if_neg k2, if_neg k4]
  rw [e]
  obtain rfl := ha.cons (by omega)
  have ld : (A.drop (hdP A).2.1).length = A.length - (hdP A).2.1 := List.length_drop ..
  have r := parts_on (R := fun W v k => k = (cutP [] (A.drop (hdP A).2.1)).1 ∧ ∃ VS, TxE w.heap.size W v (cutP [] (A.drop (hdP A).2.1)).2 VS) (s := (hdP A).2.1) (h := (hdP A).2.2.1) (by omega) hl hc w fh (fun w1 B => by
    have q := cut_any (A := A.drop (hdP A).2.1) (c := c - (hdP A).2.1) (byts_dropR hA _) (by omega) (by omega) w1 (bz_rest (p := (hdP A).2.1) (h.keep B) (by omega) hc)
    rw [ld] at q
    exact q.mono fun e w' ⟨v, VS, a1, a2, a3⟩ => ⟨v, _, a1, ⟨rfl, VS, a2.base B.size⟩, a3⟩)
  exact r.mono fun e w' ⟨v, k, a1, ⟨a2, VS, a3⟩, a4⟩ => ⟨v, VS, by rw [a1, a2], a3, a4⟩
end Go.Proofs.Ytahekhamhdfkdaa
