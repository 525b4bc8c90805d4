import Derived.Test.YtohdlfilldaghaaNbU
import Derived.Test.YtohdlfilldaghaaNbT
/- Layer 11: the statement's backward. -/
namespace Go.Proofs.Ytohdlfilldaghaa
open Go.RowKit Go.Sort

theorem rev_snocI {X : List Int} {i : Nat} (h : i < X.length) : X.reverse.take (i + 1) = X.reverse.take i ++ [X.getD (X.length - 1 - i) 0] := by
  rw [take_snocI (by simpa using h)]
  congr 2
  rw [List.getD, List.getElem?_reverse h]
  rfl

set_option maxHeartbeats 4000000 in
theorem backward_any {a : Option Addr} {bd od cd : Nat} {X : List Int} (hl : X.length < 140737488355000) (ha : Az a bd od X) (w : World) (hX : Bz w bd od X) :
    Calls Try.prog 10 #[.slice a X.length cd] w fun e w' => ∃ v, e = .returned v ∧ OwnB w.heap.size w' v X.reverse ∧ Below w.heap.size w w' := by
  have hl' : (X.length : Int) < 140737488355000 := by omega
  obtain ⟨i0, hi, hz0, hz1, hz2⟩ := info_parts info_byte
  have HA : Hid (Az a bd od X ∧ Bz w bd od X ∧ X.length < 140737488355000) := ⟨ha, hX, hl⟩
  clear ha hX hl
  go_enter Try.func10, Try.ntmps10
  go_wp2_with fail
  go_loopg [3, 4] X.length (fun k lv iv wr => ∃ i : Nat, k = X.length - i ∧ i ≤ X.length ∧ iv = .int .i64 ((X.length : Int) - 1 - i) ∧ OwnB w.heap.size wr lv (X.reverse.take i) ∧ Below w.heap.size w wr)
  case atStart => exact ⟨0, rfl, Nat.zero_le _, by simp, OwnB.nil _ _, Below.refl _ _⟩
  case round =>
    obtain ⟨i, hk, hi9, rfl, hown, B⟩ := hrel
    have HK : Hid (gk = X.length - i) := hk
    have HF : Hid (OwnB w.heap.size wr u3 (X.reverse.take i) ∧ Below w.heap.size w wr) := ⟨hown, B⟩
    clear hk hown B
    by_cases h8 : i = X.length
    · subst h8
      rw [show (X.length : Int) - 1 - (X.length : Int) = -1 by omega]
      have HR : Hid (X.reverse.take X.length = X.reverse) := List.take_of_length_le (by simp)
      go_wp2
      go_ret
      exact ⟨_, rfl, by rw [← HR.out]; exact HF.out.1, HF.out.2⟩
    · have hlt : i < X.length := by omega
      have ea : a = some ⟨bd, od, none⟩ := by
        rcases HA.out.1 with h | h
        · rw [h] at hlt; simp at hlt
        · exact h
      subst ea
      obtain ⟨j, ej⟩ : ∃ j : Nat, j = X.length - 1 - i := ⟨_, rfl⟩
      have ej' : (X.length : Int) - 1 - (i : Int) = (j : Int) := by omega
      have j1 : j < X.length := by omega
      have gx : wr.cell? ⟨bd, od + j, none⟩ = some (.int .u8 (X.getD j 0)) := by
        have h := HA.out.2.1 j (by omega)
        rw [HF.out.2.cell (p := ⟨bd, od + j, none⟩) (World.block_lt_of_cell? w _ h)]; exact h
      have NX : Hid (X.reverse.take (i + 1) = X.reverse.take i ++ [X.getD j 0]) := by rw [ej]; exact rev_snocI hlt
      have LR : Hid ((X.reverse.take i).length = i ∧ i < 140737488355000) := ⟨by rw [List.length_take, List.length_reverse]; omega, by have := HA.out; omega⟩
      generalize X.getD j 0 = x at *
      rw [ej']
      have EJ : Hid ((X.length : Int) - 1 - (i : Int) = (j : Int)) := ej'
      clear ej' ej
      go_wp2_with ((at_builtin; go_loud (refine wpList_append_own_at _ rfl _ _ 22 rfl w.heap.size 5 i0 (.int .u8 0) 1 1 Try.underlying22 hi hz0 hz1 hz2 rfl (by decide) u3 _ _ rfl (HF.out.1.row.alloc _) ⟨wr.heap.size, 0, none⟩ 1 1 [.int .u8 x] rfl rfl (cell_one_new _ _ _) (fun u hu => by simp at hu; subst hu; rfl) (by unfold maxLen; have := LR.out; omega) (by have := LR.out; omega) (by have := HF.out.2.size; simp; omega) ?_); intro v' w3 hown' hgrow3 hnil3 hblk))
      have HO : Hid (OwnB w.heap.size w3 v' (X.reverse.take (i + 1)) ∧ Below w.heap.size w w3) := by
        refine ⟨?_, ?_⟩
        · rw [NX.out, OwnB, List.length_append, List.map_append]
          exact hown'
        · exact (HF.out.2.alloc HF.out.2.size _).grown hgrow3 (by have := HF.out.2.size; simp; omega) (fun k hk => (HF.out.1.lt k hk).1)
      clear hown' hgrow3 hnil3 hblk
      go_roundg (X.length - (i + 1))
      case measure => have := HK.out; omega
      case rel =>
        have h : (j : Int) - 1 = (X.length : Int) - 1 - ((i + 1 : Nat) : Int) := by have := EJ.out; omega
        exact ⟨i + 1, rfl, by omega, by rw [h], HO.out⟩

end Go.Proofs.Ytohdlfilldaghaa
