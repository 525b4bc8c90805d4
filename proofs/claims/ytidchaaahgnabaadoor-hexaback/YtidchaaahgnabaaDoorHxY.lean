import Derived.Test.YtidchaaahgnabaaDoorHxX
namespace Go.Proofs.YtidchaaahgnabaaDoor
open Go.RowKit Go.Sort

/-- The half byte at the place i of these bytes, high halves first. -/
def halfN (L : List Int) (i : Nat) : Int := if i % 2 = 0 then L.getD (i / 2) 0 / 16 else L.getD (i / 2) 0 % 16
set_option maxRecDepth 100000 in
set_option maxHeartbeats 4000000 in
theorem half_any {L : List Int} {i : Nat} (hl : L.length = 32) (hb : ∀ i, 0 ≤ L.getD i 0 ∧ L.getD i 0 < 256) (hi : i < 64) (w : World) :
    Calls Tryd.prog 34 #[.agg (L.map (Value.int .u8)).toArray, .int .i64 (i : Int)] w fun e w' => e = .returned (.int .u8 (halfN L i)) ∧ Below w.heap.size w w' := by
  obtain ⟨M, HM⟩ : ∃ M, Hid (M = (L.map (Value.int .u8)).toArray) := ⟨_, rfl⟩
  rw [← HM.out]
  obtain ⟨k, ek⟩ : ∃ k : Nat, k = i / 2 := ⟨_, rfl⟩
  have d1 : (i : Int) / 2 = (k : Int) := by omega
  have k1 : k < 32 := by omega
  have i1 : (i : Int) < 64 := by omega
  obtain ⟨x0, x1⟩ := hb k
  have hc : (w.alloc (.cells M 36)).cell? ⟨w.heap.size, k, none⟩ = some (.int .u8 (L.getD k 0)) := by
    have e : M[k]? = some (.int .u8 (L.getD k 0)) := by
      rw [HM.out, List.getElem?_toArray, List.getElem?_map, List.getElem?_eq_getElem (by omega), List.getD, List.getElem?_eq_getElem (by omega)]; rfl
    simp [go_sem, e]
  have HH : Hid (halfN L i = if i % 2 = 0 then L.getD k 0 / 16 else L.getD k 0 % 16) := by rw [ek]; exact rfl
  have an := and15 x0 x1
  clear ek hb hl hi
  obtain ⟨x, Hx⟩ : ∃ x, Hid (x = L.getD k 0) := ⟨_, rfl⟩
  rw [← Hx.out] at hc x0 x1 HH an
  by_cases h2 : i % 2 = 0
  · have e2 : ((i : Int) % 2 == 0) = true := by rw [beq_iff_eq]; omega
    have HR : Hid (halfN L i = x / 16) := by rw [HH.out, if_pos h2]; exact rfl
    clear h2 HH
    go_enter Tryd.func34, Tryd.ntmps34
    go_wp2
    simp [bodyPost, results, Tryd.results34, go_sem, HR.out]
    exact (Below.refl _ _).alloc (Nat.le_refl _) _
  · have e2 : ((i : Int) % 2 == 0) = false := by rw [beq_eq_false_iff_ne]; omega
    have HR : Hid (halfN L i = x % 16) := by rw [HH.out, if_neg h2]; exact rfl
    clear h2 HH
    go_enter Tryd.func34, Tryd.ntmps34
    go_wp2
    simp [bodyPost, results, Tryd.results34, go_sem, HR.out]
    exact (Below.refl _ _).alloc (Nat.le_refl _) _
end Go.Proofs.YtidchaaahgnabaaDoor
