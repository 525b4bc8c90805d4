import Derived.Test.YtidchaaahgnabaaDoorLeaf
import Derived.Deep.LoopGhost
import Derived.Laws.IdiomStrings
namespace Go.Proofs.YtidchaaahgnabaaDoor
open Go.RowKit

/-- What a digit stands for; -1: it is none. -/
def dv (c : Int) : Int := if 48 ≤ c ∧ c ≤ 57 then c - 48 else if 97 ≤ c ∧ c ≤ 102 then c - 87 else if 65 ≤ c ∧ c ≤ 70 then c - 55 else -1
def smB (c : Int) : Bool := decide (97 ≤ c) && decide (c ≤ 102)
theorem small_any (c : Int) (w : World) : Calls Tryd.prog 33 #[.int .u8 c] w fun e w' => e = .returned (.bool (smB c)) ∧ w' = w := by
  unfold smB
  by_cases h : 97 ≤ c
  · have hd : decide (97 ≤ c) = true := decide_eq_true h
    go_enter Tryd.func33, Tryd.ntmps33
    go_wp2
    go_ret
    exact ⟨by simp [hd], rfl⟩
  · have hd : decide (97 ≤ c) = false := decide_eq_false h
    go_enter Tryd.func33, Tryd.ntmps33
    go_wp2
    go_ret
    exact ⟨by simp, rfl⟩
end Go.Proofs.YtidchaaahgnabaaDoor

namespace Go.Proofs.YtidchaaahgnabaaDoor
open Go.RowKit

/-- A text's byte. -/
def bt (s : ByteArray) (i : Nat) : Int := ((s.data.toList.getD i 0).toNat : Int)
/-- The text begins with 0x. -/
def frB (s : ByteArray) : Bool := (s.extract 0 2).toList == [48, 120]
/-- What follows. -/
def tl (s : ByteArray) : ByteArray := s.extract 2 s.size
/-- Digits alone. -/
def dgs (t : ByteArray) : Prop := ∀ i, i < t.size → 0 ≤ dv (bt t i)
theorem bt_get (s : ByteArray) (i : Nat) (h : i < s.size) : ((s[i]'h).toNat : Int) = bt s i := by
  have h' : i < s.data.size := h
  unfold bt
  congr 2
  rw [List.getD, Array.getElem?_toList, Array.getElem?_eq_getElem h']
  rfl
theorem tl_size (s : ByteArray) : (tl s).size = s.size - 2 := by simp [tl, ByteArray.size_extract]
theorem tl_bt (s : ByteArray) (i : Nat) : bt (tl s) i = bt s (i + 2) := by
  unfold tl bt
  congr 2
  simp only [ByteArray.data_extract, List.getD, Array.getElem?_toList]
  rw [Array.getElem?_extract]
  simp only [ByteArray.size]
  split
  · rw [Nat.add_comm]
  · rw [Array.getElem?_eq_none (by omega)]
/-- Is it 0x and digits alone? -/
def okP (s : ByteArray) : Prop := 2 ≤ s.size ∧ frB s = true ∧ dgs (tl s)
end Go.Proofs.YtidchaaahgnabaaDoor
