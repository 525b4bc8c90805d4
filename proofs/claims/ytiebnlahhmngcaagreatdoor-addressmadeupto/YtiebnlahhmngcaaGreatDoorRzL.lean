import Derived.Test.YtiebnlahhmngcaaGreatDoorRyC
import Derived.Deep.AppendLies
/- Layer 9: copied, lent, still. -/
namespace Go.Proofs.YtiebnlahhmngcaaGreatDoor
open Go.RowKit Go.Sort
set_option maxRecDepth 100000 in
set_option maxHeartbeats 4000000 in
theorem ecopied_any {a : Option Addr} {bd od cd : Nat} {X : List Int} (hl : X.length < 140737488355000) (ha : Az a bd od X) (w : World) (hX : Bz w bd od X) :
    Calls Tryz.prog 13 #[.slice a X.length cd] w fun e w' => ∃ v, e = .returned v ∧ OwnB w.heap.size w' v X ∧ Below w.heap.size w w' := by
  have hl' : (X.length : Int) < 140737488355000 := by omega
  obtain ⟨i0, hi, hz0, hz1, hz2⟩ := info_parts info_byte
  have HA : Hid (Az a bd od X ∧ Bz w bd od X ∧ X.length < 140737488355000) := ⟨ha, hX, hl⟩
  clear ha hX hl
  go_enter Tryz.func13, Tryz.ntmps13
  go_wp2_with fail
  go_loopg [3, 4] X.length (fun k lv iv wr => ∃ i : Nat, k = X.length - i ∧ i ≤ X.length ∧ iv = .int .i64 i ∧ OwnB w.heap.size wr lv (X.take i) ∧ Below w.heap.size w wr)
  case atStart => exact ⟨0, rfl, Nat.zero_le _, rfl, OwnB.nil _ _, Below.refl _ _⟩
  case round =>
    obtain ⟨i, hk, hi9, rfl, hown, B⟩ := hrel
    have HK : Hid (gk = X.length - i) := hk
    have HF : Hid (OwnB w.heap.size wr u3 (X.take i) ∧ Below w.heap.size w wr) := ⟨hown, B⟩
    clear hk hown B
    by_cases h8 : i = X.length
    · subst h8
      have HR : Hid (X.take X.length = X) := List.take_length
      go_wp2
      simp [bodyPost, results, Tryz.results13, go_sem]
      exact ⟨by have h := HF.out.1; rw [HR.out] at h; exact h, HF.out.2⟩
    · have hlt : i < X.length := by omega
      have hlt' : (i : Int) < (X.length : Int) := by omega
      have ea : a = some ⟨bd, od, none⟩ := HA.out.1.cons (by omega)
      subst ea
      have gx : wr.cell? ⟨bd, od + i, none⟩ = some (.int .u8 (X.getD i 0)) := by
        have h := HA.out.2.1 i (by omega)
        rw [HF.out.2.cell (p := ⟨bd, od + i, none⟩) (World.block_lt_of_cell? w _ h)]; exact h
      have NX : Hid (X.take (i + 1) = X.take i ++ [X.getD i 0]) := take_snocI hlt
      have LR : Hid ((X.take i).length = i ∧ i < 140737488355000) := ⟨by rw [List.length_take]; omega, by have := HA.out; omega⟩
      generalize X.getD i 0 = x at *
      go_wp2_with ((at_builtin; go_loud (refine wpList_append_own_at _ rfl _ _ 29 rfl w.heap.size 5 i0 (.int .u8 0) 1 1 Tryz.underlying29 hi hz0 hz1 hz2 rfl (by decide) u3 _ _ rfl (HF.out.1.alloc _).row ⟨wr.heap.size, 0, none⟩ 1 1 [.int .u8 x] rfl rfl (cell_one_new _ _ _) (fun u hu => by simp at hu; subst hu; rfl) (by unfold maxLen; have := LR.out; omega) (by have := LR.out; omega) (by have := HF.out.2.size; simp; omega) ?_); intro v' w3 hown' hgrow3 hnil3 hblk))
      have HO : Hid (OwnB w.heap.size w3 v' (X.take (i + 1)) ∧ Below w.heap.size w w3) := by
        refine ⟨?_, ?_⟩
        · rw [NX.out, OwnB, List.length_append, List.map_append]
          exact hown'
        · exact (HF.out.2.alloc HF.out.2.size _).grown hgrow3 (by have := HF.out.2.size; simp; omega) (fun k hk => (HF.out.1.row.lt k hk).1)
      clear hown' hgrow3 hnil3 hblk
      go_roundg (X.length - (i + 1))
      case measure => have := HK.out; omega
      case rel => exact ⟨i + 1, rfl, by omega, by go_num, HO.out⟩
end Go.Proofs.YtiebnlahhmngcaaGreatDoor
