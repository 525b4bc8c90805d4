import Derived.Test.YtndefnomefdhoabDoorBmU
/- BloomAdds. -/
namespace Go.Proofs.YtndefnomefdhoabDoor
open Go.RowKit Go.Sort

set_option maxRecDepth 100000 in
set_option maxHeartbeats 4000000 in
theorem same_yes {a a' : Option Addr} {b o c b' o' c' : Nat} {X : List (BitVec 8)} (hn : X.length < 140737488355328) (ha : At a b o X) (ha' : At a' b' o' X) (w : World) (hL : Byo w b o X) (hL' : Byo w b' o' X) :
    Calls Tryd.prog 11 #[.slice a X.length c, .slice a' X.length c'] w fun e w' => e = .returned (.bool true) ∧ Below w.heap.size w w' := by
  have HH : Hid (At a b o X ∧ At a' b' o' X) := ⟨ha, ha'⟩
  have KL : Hid (∀ W, Below w.heap.size w W → Byo W b o X ∧ Byo W b' o' X) := fun W B => ⟨hL.keep B, hL'.keep B⟩
  have n1 : (X.length : Int) < 140737488355328 := by omega
  clear hn ha ha' hL hL'
  go_enter Tryd.func11, Tryd.ntmps11
  go_wp2_with fail
  go_loopg [5] X.length (fun k iv wr => ∃ i : Nat, k = X.length - i ∧ i ≤ X.length ∧ iv = .int .i64 i ∧ Below w.heap.size w wr)
  case atStart => exact ⟨0, rfl, Nat.zero_le _, rfl, Below.refl _ _⟩
  case round =>
    obtain ⟨i, hk, hi, rfl, B⟩ := hrel
    have HK : Hid (gk = X.length - i) := hk
    clear hk
    by_cases h8 : i = X.length
    · subst h8
      go_wp2
      simp [bodyPost, results, Tryd.results11, go_sem]
      exact B
    · have hlt : i < X.length := by omega
      have hlt' : (i : Int) < (X.length : Int) := by omega
      obtain ⟨g1, g2⟩ := KL.out wr B
      have c1 := g1 i hlt
      have c2 := g2 i hlt
      obtain rfl : a = some ⟨b, o, none⟩ := by
        rcases HH.out.1 with e | e
        · rw [e] at hlt; simp at hlt
        · exact e
      obtain rfl : a' = some ⟨b', o', none⟩ := by
        rcases HH.out.2 with e | e
        · rw [e] at hlt; simp at hlt
        · exact e
      clear g1 g2
      generalize Y (X.getD i 0) = x at *
      have c1' : ∀ n, (wr.drewN n).cell? ⟨b, o + i, none⟩ = some (.int .u8 x) := fun _ => c1
      have c2' : ∀ n, (wr.drewN n).cell? ⟨b', o' + i, none⟩ = some (.int .u8 x) := fun _ => c2
      go_wp2_with fail
      refine wp_region_quiet_lit (by kernel_rfl) (by kernel_rfl) ?_
      repeat (first | go_big_quiet_skip | (go_big_quiet_want; go_big_quiet_op; go_big_quiet_on))
      refine wpQuiet_nil ?_
      rintro w' ⟨n, rfl⟩
      have BN : Hid (Below w.heap.size w (wr.drewN n)) := ⟨B.os, B.tape, B.output, B.size, B.block⟩
      clear c1 c2 c1' c2' B
      generalize wr.drewN n = w2 at *
      go_wp2
      go_roundg (X.length - (i + 1))
      case measure => have := HK.out; omega
      case rel => exact ⟨i + 1, rfl, by omega, by go_num, BN.out⟩

/-- The marks, so far. -/
def mkd (X : List (BitVec 8)) (i : Nat) : List (BitVec 8) := X ++ (List.replicate i 165 ++ List.replicate (9 - i) 0)
theorem mkd_len (X : List (BitVec 8)) {i : Nat} (h : i ≤ 9) : (mkd X i).length = X.length + 9 := by simp [mkd]; omega
theorem mkd_set (X : List (BitVec 8)) {i : Nat} (h : i < 9) : (mkd X i).set (X.length + i) 165 = mkd X (i + 1) := by
  obtain ⟨k, hk⟩ : ∃ k, 9 - i = k + 1 := ⟨8 - i, by omega⟩
  rw [mkd, mkd, hk, show 9 - (i + 1) = k by omega, List.set_append_right _ _ (by omega), Nat.add_sub_cancel_left, List.set_append_right _ _ (by simp), List.length_replicate, Nat.sub_self, List.replicate_succ (n := k), List.set_cons_zero, List.replicate_succ', List.append_assoc]
  rfl
theorem mkd_9 (X : List (BitVec 8)) : mkd X 9 = X ++ List.replicate 9 165 := by simp [mkd]
theorem Row8.front {W : World} {g : Nat} {X Z : List (BitVec 8)} (h : Row8 W g (X ++ Z)) : Byo W g 0 X := fun i hi => by
  have := h.1 i (by rw [List.length_append]; omega)
  rw [this, List.getD, List.getElem?_append_left hi, ← List.getD]

set_option maxRecDepth 100000 in
set_option maxHeartbeats 8000000 in
theorem roomy_any {a : Option Addr} {bd od cd : Nat} {X : List (BitVec 8)} (hl : X.length < 140737488355328) (ha : At a bd od X) (w : World) (hX : Byo w bd od X) :
    Calls Tryd.prog 12 #[.slice a X.length cd] w fun e w' => e = .returned (.slice (some ⟨w.heap.size, 0, none⟩) X.length (X.length + 9)) ∧ Row8 w' w.heap.size (X ++ List.replicate 9 165) ∧ w.heap.size < w'.heap.size ∧ Below w.heap.size w w' := by
  have HA : Hid (At a bd od X ∧ Byo w bd od X ∧ X.length < 140737488355328) := ⟨ha, hX, hl⟩
  have n1 : (X.length : Int) < 140737488355328 := by omega
  obtain ⟨i0, hi, hz0, hz1, hz2⟩ := info_parts info_byte
  clear ha hX hl
  go_enter Tryd.func12, Tryd.ntmps12
  go_wp2_with (first
    | (at_make; refine wpList_make_cap _ rfl _ _ 31 rfl 5 i0 (.int .u8 0) Tryd.underlying31 hi hz0 hz1 rfl hz2 .i64 .i64 _ _ (X.length + 9) (X.length + 9) rfl rfl (by omega) (by omega) (Nat.le_refl _) (by have := HA.out.2.2; omega) ?_; rw [made_bytes]; refine wpList_world (fun W => W.heap[w.heap.size]? = some (.cells (List.replicate (X.length + 9) (Value.int .u8 0)).toArray 5 (0, 0)) ∧ Below w.heap.size w W) ⟨heap_new _ _, (Below.refl _ _).alloc (Nat.le_refl _) _⟩ ?_; intro w1 h1; obtain ⟨hrow, B1⟩ := h1)
    | (refine wpList_copy_splice rfl _ _ 31 31 rfl 5 Tryd.underlying31 (by kernel_rfl) _ _ (X.length + 9) (X.length + 9) X.length cd rfl rfl w.heap.size 0 (List.replicate (X.length + 9) (Value.int .u8 0)) 5 hrow (byts X) (by rw [byts_len]; exact (Nat.min_eq_left (Nat.le_add_right _ _)).symm) (lent_src HA.out.1 HA.out.2.1 B1) (by simp [byts_len]) (fun v hv => by obtain ⟨x, _, rfl⟩ := List.mem_map.1 hv; rfl) w.heap.size w B1 (Nat.le_refl _) ?_; intro w2 hrow2 B2; rw [splice_byts] at hrow2; clear hrow B1; have R2 : Hid (Row8 w2 w.heap.size (mkd X 0) ∧ Below w.heap.size w w2) := ⟨row8_of (by simpa [mkd] using hrow2.out), B2⟩; clear hrow2 B2))
  go_loopg [4] 9 (fun k iv wr => ∃ i : Nat, k = 9 - i ∧ i ≤ 9 ∧ iv = .int .i64 ((X.length : Int) + i) ∧ Row8 wr w.heap.size (mkd X i) ∧ Below w.heap.size w wr)
  case atStart => exact ⟨0, rfl, by decide, by simp, R2.out⟩
  case round =>
    clear R2
    obtain ⟨i, hk, hi9, rfl, hR, B⟩ := hrel
    have HK : Hid (gk = 9 - i) := hk
    have SR : Hid (Row8 wr w.heap.size (mkd X i) ∧ Below w.heap.size w wr) := ⟨hR, B⟩
    clear hk hR B
    by_cases h8 : i = 9
    · subst h8
      have c9 : (X.length : Int) ≤ ((X.length + 9 : Nat) : Int) := by omega
      go_wp2
      simp [bodyPost, results, Tryd.results12, go_sem]
      have h := SR.out.1
      rw [mkd_9] at h
      exact ⟨h, World.block_lt_of_cell? wr ⟨w.heap.size, 0 + 0, none⟩ (h.1 0 (by simp)), SR.out.2⟩
    · have hlt : i < 9 := by omega
      have hlt' : (i : Int) < 9 := by omega
      have e1 : ((X.length : Int) + (i : Int)).toNat = X.length + i := by omega
      have g1 := SR.out.1.1 (X.length + i) (by rw [mkd_len X hi9]; omega)
      have f1 := SR.out.1.2 (X.length + i) (by rw [mkd_len X hi9]; omega)
      rw [Nat.zero_add] at g1
      generalize Y ((mkd X i).getD (X.length + i) 0) = y at *
      have NX : Hid (Row8 (wr.setCell ⟨w.heap.size, X.length + i, none⟩ (.int .u8 165)) w.heap.size (mkd X (i + 1)) ∧ Below w.heap.size w (wr.setCell ⟨w.heap.size, X.length + i, none⟩ (.int .u8 165))) := by
        refine ⟨?_, SR.out.2.setCell (Nat.le_refl _) _⟩
        have h := SR.out.1.set (X.length + i) (by rw [mkd_len X hi9]; omega) 165
        rw [mkd_set X hlt, show Y 165 = 165 by rw [Y_eq]; rfl] at h
        exact h
      clear SR h8
      go_wp2
      go_roundg (9 - (i + 1))
      case measure => have := HK.out; omega
      case rel => exact ⟨i + 1, rfl, by omega, by go_num, NX.out⟩
end Go.Proofs.YtndefnomefdhoabDoor
