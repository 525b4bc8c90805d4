import Derived.Test.YtllfmlgnemkklaaDoorTsK
import Derived.Test.YtllfmlgnemkklaaDoorTsJ
import Derived.Test.YtllfmlgnemkklaaDoorTsO
/- tx.Same and the document's Same of any two transactions; the twin; untouched. -/
namespace Go.Proofs.YtllfmlgnemkklaaDoor.tq
open Go.RowKit Go.Sort
/-- The bounds within which a transaction's lists lie. -/
def BdT (t : Txv) : Prop := t.Dl.length < 1000000000 ∧ t.Hsl.length < 1000000000 ∧ t.Ul.length < 100000000 ∧ t.El.length < 1000000000 ∧ ∀ i, i < t.El.length → (t.El.getD i zEn).ks.length < 1000000000
def SmT (t u : Txv) : Prop := t.ty = u.ty ∧ t.ch = u.ch ∧ t.no = u.no ∧ t.gas = u.gas ∧ t.pr = u.pr ∧ t.ti = u.ti ∧ t.ca = u.ca ∧ t.bc = u.bc ∧ t.cr = u.cr ∧ t.to = u.to ∧ t.va = u.va ∧ t.Dl = u.Dl ∧ eqL sameE zEn t.El u.El = true ∧ t.Hsl = u.Hsl ∧ t.Ul = u.Ul ∧ t.sv = u.sv ∧ t.sr = u.sr ∧ t.ss = u.ss
theorem rsameTx_any {t u : Txv} (hb : BdT t) (w : World) (hT : TxG w t) (hU : TxG w u) :
    Calls Tryd.prog 19 #[.agg (txC t).toArray, .agg (txC u).toArray] w fun e w' => (∃ r, e = .returned (.bool r) ∧ (r = true ↔ SmT t u)) ∧ Below w.heap.size w w' := by
  refine (rsame_walk (C1 := txC t) (C2 := txC u) w (fun W b h => TxB.facts ⟨h, hT.to.1⟩) (fun W b h => TxB.facts ⟨h, hU.to.1⟩) ⟨hT.E, hU.E⟩ ⟨hT.U, hU.U⟩ hb.2.2.2.1 (by have := hb.2.2.1; omega) hb.2.2.2.2
    ⟨rfl, rfl⟩ (fun w => eq_num 9998 hT.pr hU.pr w) ⟨rfl, rfl⟩ (fun w => eq_num 9998 hT.ti hU.ti w) ⟨rfl, rfl⟩ (fun w => eq_num 9998 hT.ca hU.ca w) ⟨rfl, rfl⟩ (fun w => eq_num 9998 hT.bc hU.bc w) ⟨rfl, rfl⟩ (fun w => eq_num 9998 hT.va hU.va w) ⟨rfl, rfl⟩ (fun w => eq_num 9998 hT.sv hU.sv w) ⟨rfl, rfl⟩ (fun w => eq_num 9998 hT.sr hU.sr w) ⟨rfl, rfl⟩ (fun w => eq_num 9998 hT.ss hU.ss w) ⟨by rw [hC_len]; exact hT.to.1, by rw [hC_len]; exact hU.to.1⟩ (fun w => eq_ad hT.to.1 hU.to.1 w)
    (fun W B => rsameB_any (by have := hb.1; omega) hT.D.2.1 hU.D.2.1 W (hT.D.keep B).2.2.1 (hU.D.keep B).2.2.1) (fun W B => rsameH_any hb.2.1 W (hT.Hs.keep B) (hU.Hs.keep B)) rfl).mono ?_
  rintro e w' ⟨rfl, B⟩
  refine ⟨⟨_, rfl, ?_⟩, B⟩
  simp only [Bool.and_eq_true, decide_eq_true_iff, SmT, eqL_iff eqB_iff, eqL_iff (fun x y => sameA_iff (u := x) (v := y))]
  constructor
  · rintro ⟨h1, h2, h3, h4, h5, h6, h7, h8, h9, h10, h11, h12, h13, h14, h15, h16, h17, h18⟩
    exact ⟨h1, h2, h3, h7, h4, h5, h6, h11, h8, h9, h10, h15, h17, h16, h18, h12, h13, h14⟩
  · rintro ⟨h1, h2, h3, h7, h4, h5, h6, h11, h8, h9, h10, h15, h17, h16, h18, h12, h13, h14⟩
    exact ⟨h1, h2, h3, h4, h5, h6, h7, h8, h9, h10, h11, h12, h13, h14, h15, h16, h17, h18⟩
end Go.Proofs.YtllfmlgnemkklaaDoor.tq
