import Derived.Test.YtkbkbbilhmmifaaDoorSRDig
/- The document's Sum. -/
namespace Go.Proofs.YtkbkbbilhmmifaaDoor
open Go.RowKit Go.Sort

set_option maxHeartbeats 4000000 in
theorem rsum3_any {a : Option Addr} {bp op cp : Nat} {PS : List Part} (hs : (catX PS).length < 1073740000) (hn : PS.length ≤ 1073740000) (ha : PS = [] ∨ a = some ⟨bp, op, none⟩) (w : World) (hP : Prts w bp op PS) :
    Calls Tryd.prog 16 #[.slice a PS.length cp] w fun e w' => e = .returned (.agg (byts (shaL (catX PS))).toArray) ∧ Below w.heap.size w w' := by
  have HH : Hid (Prts w bp op PS ∧ (catX PS).length < 1073740000 ∧ PS.length ≤ 1073740000 ∧ (PS = [] ∨ a = some ⟨bp, op, none⟩)) := ⟨hP, hs, hn, ha⟩
  clear hP hs hn ha
  go_enter Tryd.func16, Tryd.ntmps16
  go_wp2_with fail
  refine calls_world (fun W => Below w.heap.size w W ∧ Hsh W w.heap.size (List.replicate 32 0)) ⟨(Below.refl _ _).alloc (Nat.le_refl _) _, Hsh.zeros _ rfl⟩ ?_
  rintro W ⟨B, hR⟩
  have PP : Prts W bp op PS := fun i hi => by
    obtain ⟨h1, h2, h3, h4⟩ := HH.out.1 i hi
    exact ⟨by rw [B.cell (p := ⟨bp, op + i, none⟩) (World.block_lt_of_cell? w _ h1)]; exact h1, h2, h3, fun j hj => by rw [B.cell (World.block_lt_of_cell? w _ (h4 j hj))]; exact h4 j hj⟩
  refine (rjoined_any (by have := HH.out.2.1; omega) (by have := HH.out.2.2.1; omega) HH.out.2.2.2 _ PP).mono ?_
  rintro e w5 ⟨v, rfl, ho, hb⟩
  obtain ⟨a2, g, c, rfl, hle, hat, hby⟩ : ∃ a2 g c, v = .slice a2 (catX PS).length c ∧ (catX PS).length ≤ c ∧ At a2 g 0 (catX PS) ∧ Byo w5 g 0 (catX PS) := by
    have hr := ho.row
    rcases ho.2 with ⟨e, hx⟩ | ⟨g, cap, cur, e, _, _, hle, _⟩
    · exact ⟨none, 0, 0, by rw [e, hx], by omega, .inl (List.length_eq_zero_iff.1 hx), fun i hi => by omega⟩
    · subst e
      refine ⟨_, g, cap, rfl, hle, .inr rfl, fun i hi => ?_⟩
      rw [Nat.zero_add, hr.cellAt i (by omega), byts, List.getElem?_map, List.getElem?_eq_getElem hi, List.getD, List.getElem?_eq_getElem hi]; rfl
  have H5 : Hid (Below w.heap.size w w5 ∧ Hsh w5 w.heap.size (List.replicate 32 0) ∧ At a2 g 0 (catX PS) ∧ (catX PS).length ≤ c ∧ Byo w5 g 0 (catX PS)) := ⟨B.trans (hb.mono B.size), hR.keep hb, hat, hle, hby⟩
  clear hb B hR PP ho hat hle hby
  go_wp2_with fail
  refine (rdig_any HH.out.2.1 H5.out.2.2.2.1 H5.out.2.2.1 _ H5.out.2.2.2.2).mono ?_
  rintro e w6 ⟨rfl, hb⟩
  have H6 : Hid (Below w.heap.size w w6 ∧ Hsh w6 w.heap.size (List.replicate 32 0)) := ⟨H5.out.1.trans (hb.mono H5.out.1.size), H5.out.2.1.keep hb⟩
  clear hb H5
  have oc := one_byts (shaL (catX PS))
  have lN : (byts (shaL (catX PS))).length = 32 := by rw [byts_len, shaL_len]
  generalize hN : byts (shaL (catX PS)) = N at *
  have EN : Hid (byts (shaL (catX PS)) = N) := hN
  clear hN
  have sz : (N.toArray).size = 32 := by simp [lN]
  have tr : w6.there w.heap.size 0 (N.toArray).size := by rw [sz]; exact H6.out.2.there
  have HN : Hid (N.length = 32) := lN
  clear lN
  go_wp2_with (refine wpList_store_mid rfl 39 _ _ rfl w.heap.size 0 _ rfl rfl tr (by rw [sz]; kernel_rfl) oc ?_)
  have ld := run_loadVar_mid (P := Tryd.prog) (w6.setCells w.heap.size 0 N) w.heap.size 0 39 N _ (World.rangeAt_setCells_same _ _ _ _ (by simpa using tr)) Tryd.underlying39 rfl (by rw [HN.out]; kernel_rfl)
  refine bodyPost_ret (v := .agg N.toArray) ?_ rfl ⟨by rw [EN.out], below_setCells (Nat.le_refl _) N 0 w6 H6.out.1⟩
  simp [results, Tryd.results16, Act.put, asAddr, ld]
end Go.Proofs.YtkbkbbilhmmifaaDoor
