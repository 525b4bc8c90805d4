import Derived.Test.YtndefnomefdhoabDoorBmV
/- BloomAdds: the law. -/
namespace Go.Proofs.YtndefnomefdhoabDoor
open Go.RowKit Go.Sort

set_option maxRecDepth 100000 in
set_option maxHeartbeats 8000000 in
theorem stays_any {a : Option Addr} {b o c g : Nat} {X : List (BitVec 8)} (hl : X.length < 140737488355328) (ha : At a b o X) (w : World) (hX : Byo w b o X) (hG : Row8 w g (X ++ List.replicate 9 165)) :
    Calls Tryd.prog 15 #[.slice (some ⟨g, 0, none⟩) X.length (X.length + 9), .slice a X.length c] w fun e w' => e = .returned (.bool true) ∧ Below w.heap.size w w' := by
  have n1 : (X.length : Int) < 140737488355328 := by omega
  have HG : Hid (Row8 w g (X ++ List.replicate 9 165)) := hG
  have sm := same_yes (a := some ⟨g, 0, none⟩) (b := g) (o := 0) (c := X.length + 9) (c' := c) hl (.inr rfl) ha w hG.front hX
  clear ha hX hG hl
  go_enter Tryd.func15, Tryd.ntmps15
  go_wp2_with fail
  refine sm.mono ?_
  clear sm
  rintro e w1 ⟨rfl, hb⟩
  have S1 : Hid (Below w.heap.size w w1) := hb
  clear hb
  have c9 : (X.length : Int) + 9 ≤ ((X.length + 9 : Nat) : Int) := by omega
  have e9 : ((X.length : Int) + 9).toNat = X.length + 9 := by omega
  go_wp2_with fail
  go_loopg [6] 9 (fun k iv wr => ∃ i : Nat, k = 9 - i ∧ i ≤ 9 ∧ iv = .int .i64 ((X.length : Int) + i) ∧ Below w.heap.size w wr)
  case atStart => exact ⟨0, rfl, by decide, by simp, S1.out⟩
  case round =>
    clear S1
    obtain ⟨i, hk, hi9, rfl, B⟩ := hrel
    have HK : Hid (gk = 9 - i) := hk
    clear hk
    by_cases h8 : i = 9
    · subst h8
      go_wp2
      simp [bodyPost, results, Tryd.results15, go_sem]
      exact B
    · have hlt : i < 9 := by omega
      have hlt' : (i : Int) < 9 := by omega
      have e1 : ((X.length : Int) + (i : Int)).toNat = X.length + i := by omega
      have g1 := cell_keep (W := w) (w1 := wr) B (HG.out.1 (X.length + i) (by simp; omega))
      rw [show (X ++ List.replicate 9 (165 : BitVec 8)).getD (X.length + i) 0 = 165 by
        rw [List.getD, List.getElem?_append_right (by omega), Nat.add_sub_cancel_left, List.getElem?_replicate, if_pos hlt]; rfl, show Y 165 = 165 by rw [Y_eq]; rfl, Nat.zero_add] at g1
      clear h8
      have BB : Hid (Below w.heap.size w wr) := B
      clear B
      go_wp2
      go_roundg (9 - (i + 1))
      case measure => have := HK.out; omega
      case rel => exact ⟨i + 1, rfl, by omega, by go_num, BB.out⟩

end Go.Proofs.YtndefnomefdhoabDoor
