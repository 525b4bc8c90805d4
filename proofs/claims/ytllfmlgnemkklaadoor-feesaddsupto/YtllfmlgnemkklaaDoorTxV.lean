import Derived.Test.YtllfmlgnemkklaaDoorTxQ
import Derived.Deep.LoopGhost
/- Layer 15: the fields of each type. -/
namespace Go.Proofs.YtllfmlgnemkklaaDoor
open Go.RowKit Go.Sort
open tq
def rowsT : List (List Int) := [[1, 2, 5, 6, 7, 8, 13, 14, 15], [0, 1, 2, 5, 6, 7, 8, 9, 13, 14, 15], [0, 1, 3, 4, 5, 6, 7, 8, 9, 13, 14, 15], [0, 1, 3, 4, 5, 6, 7, 8, 9, 10, 11, 13, 14, 15], [0, 1, 3, 4, 5, 6, 7, 8, 9, 12, 13, 14, 15]]
/-- The table of the fields, as it is laid. -/
def Rws (W : World) : Prop := ∀ k, k < 5 → ∃ g o c : Nat, W.cell? ⟨2, k, none⟩ = some (.slice (some ⟨g, o, none⟩) (rowsT.getD k []).length c) ∧ ∀ i, i < (rowsT.getD k []).length → W.cell? ⟨g, o + i, none⟩ = some (.int .i64 ((rowsT.getD k []).getD i 0))
theorem Rws.keep {W W' : World} (h : Rws W) (B : Below W.heap.size W W') : Rws W' := fun k hk => by
  obtain ⟨g, o, c, h1, h2⟩ := h k hk
  exact ⟨g, o, c, cell_keep B h1, fun i hi => cell_keep B (h2 i hi)⟩
set_option maxRecDepth 100000 in
set_option maxHeartbeats 4000000 in
theorem stands_any {k : Nat} {f : Int} (hk : k < 5) (w : World) (h : Rws w) :
    Calls Tryd.prog 37 #[.int .i64 (k : Int), .int .i64 f] w fun e w' => e = .returned (.bool (decide (f ∈ rowsT.getD k []))) ∧ Below w.heap.size w w' := by
  obtain ⟨g, o, c, h1, h2⟩ := h k hk
  have hl : (rowsT.getD k []).length ≤ 100 := by
    match k, hk with
    | 0, _ => decide
    | 1, _ => decide
    | 2, _ => decide
    | 3, _ => decide
    | 4, _ => decide
  have b0 : (0 : Int) ≤ k := by omega
  have b1 : (k : Int) < 5 := by omega
  generalize rowsT.getD k [] = L at *
  have HL : Hid (L.length ≤ 100 ∧ ∀ i, i < L.length → w.cell? ⟨g, o + i, none⟩ = some (.int .i64 (L.getD i 0))) := ⟨hl, h2⟩
  clear h2 hl h
  go_enter Tryd.func37, Tryd.ntmps37
  go_wp2_with fail
  go_loopg [6, 11] L.length (fun q x i wr => ∃ j : Nat, q = L.length - j ∧ j ≤ L.length ∧ i = .int .i64 (j : Int) ∧ wr = w ∧ ∀ a, a < j → L.getD a 0 ≠ f)
  case atStart => exact ⟨0, rfl, Nat.zero_le _, rfl, rfl, fun a ha => absurd ha (Nat.not_lt_zero _)⟩
  case round =>
    obtain ⟨j, hq, hj, rfl, rfl, hno⟩ := hrel
    have HN : Hid (gk = L.length - j ∧ ∀ a, a < j → L.getD a 0 ≠ f) := ⟨hq, hno⟩
    clear hno hq
    by_cases e : j = L.length
    · have dn : decide (f ∈ L) = false := decide_eq_false fun hm => by
        obtain ⟨a, ha, hb⟩ := List.getElem_of_mem hm
        refine HN.out.2 a (by omega) ?_
        simp [List.getD, ha, hb]
      subst e
      go_wp2
      simp [bodyPost, results, Tryd.results37, go_sem, dn]
      repeat (first | with_reducible exact Below.refl _ _ | with_reducible refine Below.drew ?_)
    · have hlt : j < L.length := by omega
      have gj := HL.out.2 j hlt
      have l1 := HL.out.1
      by_cases e2 : L.getD j 0 = f
      · have dn : decide (f ∈ L) = true := decide_eq_true (by rw [← e2]; simp [List.getD, hlt])
        rw [e2] at gj
        go_wp2
        simp [bodyPost, results, Tryd.results37, go_sem, dn]
        repeat (first | with_reducible exact Below.refl _ _ | with_reducible refine Below.drew ?_)
      · generalize hx : L.getD j 0 = x at gj e2
        have HX : Hid (L.getD j 0 = x) := hx
        clear hx
        go_wp2
        go_roundg (L.length - (j + 1))
        case measure => have := HN.out.1; omega
        case rel => exact ⟨j + 1, rfl, hlt, by go_num, rfl, fun a ha => by
          by_cases c : a = j
          · subst c; rw [HX.out]; exact e2
          · exact HN.out.2 a (by omega)⟩
end Go.Proofs.YtllfmlgnemkklaaDoor
