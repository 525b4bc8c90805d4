import Derived.Test.YtjbmiobbgdcceaaDoorSRBad
import Derived.Test.YtjbmiobbgdcceaaDoorSRLent
import Derived.Test.YtjbmiobbgdcceaaDoorSHsr
/- ShaBlocks. -/
namespace Go.Proofs.YtjbmiobbgdcceaaDoor
open Go.RowKit Go.Sort

def flipB (X : List (BitVec 8)) : List (BitVec 8) := X.map fun x => x ^^^ 255
theorem flipB_len (X : List (BitVec 8)) : (flipB X).length = X.length := by simp [flipB]
/-- The first i of X turned. -/
def flipTo (X Z : List (BitVec 8)) (i : Nat) : List (BitVec 8) := flipB (X.take i) ++ (X.drop i ++ Z)
theorem flipTo_len {X Z : List (BitVec 8)} {i : Nat} (h : i ≤ X.length) : (flipTo X Z i).length = X.length + Z.length := by
  simp [flipTo, flipB_len]; omega
theorem flipTo_step {X Z : List (BitVec 8)} {i : Nat} (h : i < X.length) : (flipTo X Z i).getD i 0 = X.getD i 0 ∧ (flipTo X Z i).set i (X.getD i 0 ^^^ 255) = flipTo X Z (i + 1) := by
  have l1 : (flipB (X.take i)).length = i := by rw [flipB_len, List.length_take]; omega
  have e1 : X.drop i = X.getD i 0 :: X.drop (i + 1) := by
    rw [List.drop_eq_getElem_cons h, List.getD, List.getElem?_eq_getElem h]; rfl
  have e2 : X.take (i + 1) = X.take i ++ [X.getD i 0] := by
    rw [List.take_add_one, List.getElem?_eq_getElem h, List.getD, List.getElem?_eq_getElem h]; rfl
  constructor
  · rw [flipTo, List.getD, List.getElem?_append_right (by omega), l1, Nat.sub_self, e1]; rfl
  · rw [flipTo, flipTo, List.set_append_right _ _ (by omega), l1, Nat.sub_self, e1, e2]
    simp [flipB]

set_option maxHeartbeats 4000000 in
theorem turn_any {g c : Nat} {X Z : List (BitVec 8)} (hl : X.length < 1073741824) (w : World) (hG : Gb w g (X ++ Z)) :
    Calls Tryd.prog 10 #[.slice (some ⟨g, 0, none⟩) X.length c] w fun e w' => e = .returned (.tuple #[]) ∧ Gb w' g (flipB X ++ Z) ∧ Off g w w' := by
  have hl' : (X.length : Int) < 1073741824 := by omega
  have HL : Hid (X.length < 1073741824 ∧ Gb w g (X ++ Z)) := ⟨hl, hG⟩
  have y255 : Y 255 = 255 := by rw [Y_eq]; rfl
  clear hl hG
  go_enter Tryd.func10, Tryd.ntmps10
  go_wp2_with fail
  go_loopg [2] X.length (fun k iv wr => ∃ i : Nat, k = X.length - i ∧ i ≤ X.length ∧ iv = .int .i64 i ∧ Gb wr g (flipTo X Z i) ∧ Off g w wr)
  case atStart => exact ⟨0, rfl, Nat.zero_le _, rfl, by show Gb w g (flipB (X.take 0) ++ (X.drop 0 ++ Z)); simpa [flipB] using HL.out.2, Off.refl _ _⟩
  case round =>
    obtain ⟨i, hk, hi, rfl, hG, hO⟩ := hrel
    have HK : Hid (gk = X.length - i) := hk
    have HF : Hid (Gb wr g (flipTo X Z i) ∧ Off g w wr) := ⟨hG, hO⟩
    clear hk hG hO
    by_cases h8 : i = X.length
    · subst h8
      have HE : Hid (flipTo X Z X.length = flipB X ++ Z) := by rw [flipTo, List.take_length, List.drop_length, List.nil_append]; exact rfl
      go_wp2
      simp [bodyPost, results, Tryd.results10, go_sem]
      exact ⟨by have h := HF.out.1; rw [HE.out] at h; exact h, HF.out.2⟩
    · have hlt : i < X.length := by omega
      have hlt' : (i : Int) < (X.length : Int) := by omega
      obtain ⟨f1, f2⟩ := flipTo_step (Z := Z) hlt
      have gx := HF.out.1.1 i (by rw [flipTo_len hi]; omega)
      rw [Nat.zero_add, f1] at gx
      have fx := HF.out.1.2 i (by rw [flipTo_len hi]; omega)
      have F2 : Hid ((flipTo X Z i).set i (X.getD i 0 ^^^ 255) = flipTo X Z (i + 1)) := f2
      have LI : Hid (i < (flipTo X Z i).length) := (by rw [flipTo_len hi]; omega : i < (flipTo X Z i).length)
      have yx := Y_xor (X.getD i 0) 255
      rw [y255] at yx
      clear f1 f2
      generalize X.getD i 0 = x at *
      go_wp2
      go_roundg (X.length - (i + 1))
      case measure => have := HK.out; omega
      case rel => exact ⟨i + 1, rfl, by omega, by go_num, by rw [← F2.out]; exact HF.out.1.set LI.out _, HF.out.2.setCell _⟩

/-- What the law keeps: the state's copy, the tables, what was lent. -/
def Bk (w W : World) (S : List (BitVec 32)) (g : Nat) (T : List (BitVec 8)) : Prop := Below w.heap.size w W ∧ W.rangeAt w.heap.size 0 (wrds S) ∧ Wds W 0 0 hN ∧ Wds W 1 0 kN ∧ Gb W g T ∧ g < W.heap.size
theorem range_kept {W w1 : World} {b : Nat} {L : List Value} (h : W.rangeAt b 0 L) (hb : Below W.heap.size W w1) : w1.rangeAt b 0 L := fun j v hv => cell_keep hb (h j v hv)
theorem Bk.keep {w W W' : World} {S : List (BitVec 32)} {g : Nat} {T : List (BitVec 8)} (h : Bk w W S g T) (hb : Below W.heap.size W W') : Bk w W' S g T :=
  ⟨h.1.trans (hb.mono h.1.size), range_kept h.2.1 hb, h.2.2.1.keep hb, h.2.2.2.1.keep hb, h.2.2.2.2.1.keep h.2.2.2.2.2 hb, Nat.lt_of_lt_of_le h.2.2.2.2.2 hb.size⟩
theorem Bk.off {w W W' : World} {S : List (BitVec 32)} {g : Nat} {T T' : List (BitVec 8)} (h : Bk w W S g T) (ho : Off g W W') (hG : Gb W' g T') (hf : Wds w 0 0 hN) (hk : Wds w 1 0 kN) (lt : w.heap.size < g) : Bk w W' S g T' := by
  have l1 : 0 < w.heap.size := hf.lt (by decide)
  have l2 : 1 < w.heap.size := hk.lt (by decide)
  exact ⟨h.1.trans (ho.below h.1.size (by omega)), fun j v hv => ho.cell (p := ⟨w.heap.size, 0 + j, none⟩) (by show w.heap.size ≠ g; omega) (h.2.1 j v hv), fun i hi => ho.cell (by show 0 ≠ g; omega) (h.2.2.1 i hi), fun i hi => ho.cell (by show 1 ≠ g; omega) (h.2.2.2.1 i hi), hG, Nat.lt_of_lt_of_le h.2.2.2.2.2 ho.size⟩
end Go.Proofs.YtjbmiobbgdcceaaDoor
