import Derived.Test.YtllfmlgnemkklaaDoorTxV
import Derived.Test.YtllfmlgnemkklaaDoorCards
import Derived.Test.YtllfmlgnemkklaaDoorTie
import Derived.Lib.LaidTab
import Derived.LaidMore
import Derived.OpenShut
/- Layer 15: the table of the fields, as the card lays it. -/
namespace Go.Proofs.YtllfmlgnemkklaaDoor
open Go.ChangeShapes Go.WideShapes Go.ChangeAt Go.RowKit
theorem g_rows : Tryd.prog.globalNamed "waybill/tx.rows" = some 2 := by kernel_rfl
theorem t_rows : (Tryd.prog.globals[2]?).map (·.type) = some 79 := by kernel_rfl
theorem cells_rw1 : Tryd.prog.cellsOf 78 = 1 := by kernel_rfl
theorem cells_fd1 : Tryd.prog.cellsOf 62 = 1 := by kernel_rfl
def rowD (l : List Int) : DataW Unit := .slice (l.map fun z => .lit (.int .i64 z)) []
theorem laid_rows : (Rows.laid_waybill_tx_rows : DataW Unit) = .agg (rowsT.map rowD) := by kernel_rfl
theorem rows_pos {k : Nat} (hk : k < 5) : 0 < (rowsT.getD k []).length := by
  match k, hk with
  | 0, _ => decide
  | 1, _ => decide
  | 2, _ => decide
  | 3, _ => decide
  | 4, _ => decide
  | n + 5, h => exact absurd h (by omega)
theorem rws_of {W : World} {ps : List MemPlace} {r : List (String × DataW Unit)} (h : DataW.LaidVars Tryd.prog W (("waybill/tx.rows", Rows.laid_waybill_tx_rows) :: r) ps) : Rws W := by
  obtain ⟨g, t, cs, fuel, p, q, h1, h2, h3, h4, _, _⟩ := h
  obtain rfl : 2 = g := Option.some.inj (g_rows.symm.trans h1)
  obtain rfl : 79 = t := Option.some.inj (t_rows.symm.trans h2)
  rw [laid_rows] at h4
  obtain ⟨xs, m, rfl, hx, hl, hn, hi⟩ := DataW.trod_array Tryd.underlying79 h4
  have hxs : xs.map (·.1) = rowsT.map rowD := by
    have := congrArg Prod.fst hx
    simp only [DataW.agg.injEq] at this
    exact this.symm
  intro k hk
  have hcell := World.var?_cell g_rows h3 k
  have hx1 := hi k hk
  have hrl : rowsT.length = 5 := rfl
  have hxk : ∃ z, xs[k]? = some (rowD (rowsT.getD k []), z) := by
    have e1 : (xs.map (·.1))[k]? = (rowsT.map rowD)[k]? := by rw [hxs]
    rw [List.getElem?_map, List.getElem?_map, List.getElem?_eq_getElem (show k < rowsT.length by omega)] at e1
    cases hv : xs[k]? with
    | none => rw [hv] at e1; cases e1
    | some v =>
      rw [hv] at e1
      simp only [Option.map_some, Option.some.injEq] at e1
      refine ⟨v.2, ?_⟩
      rw [List.getD, List.getElem?_eq_getElem (show k < rowsT.length by omega), Option.getD_some, ← e1]
  obtain ⟨z, hz⟩ := hxk
  rw [hz, cells_rw1, Nat.mul_one] at hx1
  have hp := rows_pos hk
  generalize rowsT.getD k [] = L at *
  obtain ⟨a, cap, hc, hcap, hel⟩ := open_row Tryd.underlying78 cells_fd1 hx1
  rw [List.length_map] at hc hcap
  have each : ∀ i, i < L.length → W.cell? (a.add i) = some (.int .i64 (L.getD i 0)) := fun i hi => by
    obtain ⟨v, n, q', hv, ht⟩ := hel i (.lit (.int .i64 (L.getD i 0))) (by rw [List.getElem?_map, List.getElem?_eq_getElem hi, List.getD, List.getElem?_eq_getElem hi]; rfl)
    obtain ⟨y, e1, e2, _⟩ := DataW.trod_int Tryd.underlying62 ht
    simp only [Prod.mk.injEq, DataW.lit.injEq, Lit.int.injEq, true_and] at e2
    obtain ⟨e2, _⟩ := e2
    rw [hv, e2]
    simpa using e1
  obtain ⟨ab, ao, spot⟩ := a
  have hs : spot = none := by simpa [Addr.add] using World.cell?_spot (each 0 hp)
  subst hs
  refine ⟨ab, ao, cap, ?_, fun i hi => ?_⟩
  · have e : (List.take 1 (List.drop k cs.toList))[0]? = some (.slice (some ⟨ab, ao, none⟩) L.length cap) := by rw [hc]; rfl
    rw [List.getElem?_take, if_pos (by decide), List.getElem?_drop, Nat.add_zero, Array.getElem?_toList] at e
    rw [hcell, e]
  · have := each i hi
    rwa [Addr.add_lit] at this
end Go.Proofs.YtllfmlgnemkklaaDoor
