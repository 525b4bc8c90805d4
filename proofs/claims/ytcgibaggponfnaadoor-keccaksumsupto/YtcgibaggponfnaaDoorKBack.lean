import Derived.Test.YtcgibaggponfnaaDoorKKnown
import Derived.Maps.AppendAt
namespace Go.Proofs.YtcgibaggponfnaaDoor
open Go.RowKit Go.Sort

/-- A slice of the call's own memory, of these bytes. -/
def Own (B : Nat) (W : World) (v : Value) (X : List (BitVec 8)) : Prop := W.ownsRow B 5 1 v X.length (byts X)
theorem Own.row {B : Nat} {W : World} {v : Value} {X : List (BitVec 8)} (h : Own B W v X) : W.ownsRow B 5 1 v X.length (byts X) := h
theorem byts_snoc (X : List (BitVec 8)) (x : BitVec 8) : byts X ++ [.int .u8 (Y x)] = byts (X ++ [x]) := by simp [byts]
theorem rev_snoc {X : List (BitVec 8)} {i : Nat} (h : i < X.length) : X.reverse.take (i + 1) = X.reverse.take i ++ [X.getD (X.length - 1 - i) 0] := by
  rw [take_snoc (by simpa using h)]
  congr 2
  rw [List.getD, List.getElem?_reverse h]
  rfl

set_option maxHeartbeats 4000000 in
theorem backward_any {a : Option Addr} {bd od cd : Nat} {X : List (BitVec 8)} (hl : X.length < 1073741824) (ha : At a bd od X) (w : World) (hX : Byo w bd od X) :
    Calls Tryd.prog 42 #[.slice a X.length cd] w fun e w' => ∃ v, e = .returned v ∧ Own w.heap.size w' v X.reverse ∧ Below w.heap.size w w' := by
  have hl' : (X.length : Int) < 1073741824 := by omega
  obtain ⟨i0, hi, hz0, hz1, hz2⟩ := info_parts info_byte
  have HA : Hid (At a bd od X ∧ Byo w bd od X ∧ X.length < 1073741824) := ⟨ha, hX, hl⟩
  clear ha hX hl
  go_enter Tryd.func42, Tryd.ntmps42
  go_wp2_with fail
  go_loopg [3, 4] X.length (fun k lv iv wr => ∃ i : Nat, k = X.length - i ∧ i ≤ X.length ∧ iv = .int .i64 ((X.length : Int) - 1 - i) ∧ Own w.heap.size wr lv (X.reverse.take i) ∧ Below w.heap.size w wr)
  case atStart => exact ⟨0, rfl, Nat.zero_le _, by simp, ⟨by simp [byts], .inl ⟨rfl, by simp⟩⟩, Below.refl _ _⟩
  case round =>
    obtain ⟨i, hk, hi9, rfl, hown, B⟩ := hrel
    have HK : Hid (gk = X.length - i) := hk
    have HF : Hid (Own w.heap.size wr u3 (X.reverse.take i) ∧ Below w.heap.size w wr) := ⟨hown, B⟩
    clear hk hown B
    by_cases h8 : i = X.length
    · subst h8
      rw [show (X.length : Int) - 1 - (X.length : Int) = -1 by omega]
      have HR : Hid (X.reverse.take X.length = X.reverse) := List.take_of_length_le (by simp)
      go_wp2
      go_ret
      exact ⟨_, rfl, by rw [← HR.out]; exact HF.out.1, HF.out.2⟩
    · have hlt : i < X.length := by omega
      have ea : a = some ⟨bd, od, none⟩ := by
        rcases HA.out.1 with h | h
        · rw [h] at hlt; simp at hlt
        · exact h
      subst ea
      obtain ⟨j, ej⟩ : ∃ j : Nat, j = X.length - 1 - i := ⟨_, rfl⟩
      have ej' : (X.length : Int) - 1 - (i : Int) = (j : Int) := by omega
      have j1 : j < X.length := by omega
      have gx : wr.cell? ⟨bd, od + j, none⟩ = some (.int .u8 (Y (X.getD j 0))) := by
        have h := HA.out.2.1 j (by omega)
        rw [HF.out.2.cell (p := ⟨bd, od + j, none⟩) (World.block_lt_of_cell? w _ h)]; exact h
      have NX : Hid (X.reverse.take (i + 1) = X.reverse.take i ++ [X.getD j 0]) := by rw [ej]; exact rev_snoc hlt
      have LR : Hid ((X.reverse.take i).length = i ∧ i < 1073741824) := ⟨by rw [List.length_take, List.length_reverse]; omega, by have := HA.out; omega⟩
      generalize X.getD j 0 = x at *
      rw [ej']
      have EJ : Hid ((X.length : Int) - 1 - (i : Int) = (j : Int)) := ej'
      clear ej' ej
      go_wp2_with ((at_builtin; go_loud (refine wpList_append_own_at _ rfl _ _ 27 rfl w.heap.size 5 i0 (.int .u8 0) 1 1 Tryd.underlying27 hi hz0 hz1 hz2 rfl (by decide) u3 _ _ rfl (HF.out.1.row.alloc _) ⟨wr.heap.size, 0, none⟩ 1 1 [.int .u8 (Y x)] rfl rfl (cell_one_new _ _ _) (fun u hu => by simp at hu; subst hu; rfl) (by unfold maxLen; have := LR.out; omega) (by have := LR.out; omega) (by have := HF.out.2.size; simp; omega) ?_); intro v' w3 hown' hgrow3 hnil3 hblk))
      have HO : Hid (Own w.heap.size w3 v' (X.reverse.take (i + 1)) ∧ Below w.heap.size w w3) := by
        refine ⟨?_, ?_⟩
        · rw [NX.out, Own, List.length_append, ← byts_snoc]
          exact hown'
        · exact (HF.out.2.alloc HF.out.2.size _).grown hgrow3 (by have := HF.out.2.size; simp; omega) (fun k hk => (HF.out.1.row.lt k hk).1)
      clear hown' hgrow3 hnil3 hblk
      go_roundg (X.length - (i + 1))
      case measure => have := HK.out; omega
      case rel =>
        have h : (j : Int) - 1 = (X.length : Int) - 1 - ((i + 1 : Nat) : Int) := by have := EJ.out; omega
        exact ⟨i + 1, rfl, by omega, by rw [h], HO.out⟩

end Go.Proofs.YtcgibaggponfnaaDoor
