import Derived.Test.YtcjabligkeaafaaDoorKWrite
import Derived.Test.YtcjabligkeaafaaDoorKSqueeze
namespace Go.Proofs.YtcjabligkeaafaaDoor.K
open Go.RowKit Go.Sort

/-- The byte that begins the filling. -/
def fstB (k : Int) : BitVec 8 := if k = 1 then 6 else 1
/-- The digest of what a sponge has taken in. -/
def finL (k : Int) (L : List (BitVec 64)) (t : Nat) : List (BitVec 64) := perm (mixL (mixL L (t % 136) (fstB k)) 135 128)
set_option maxHeartbeats 1000000 in
theorem first_any {b : Nat} {k : Int} (w : World) (hk : w.cell? ⟨b, 0, none⟩ = some (.int .i64 k)) :
    Calls Tryd.prog 25 #[.pointer (some ⟨b, 0, none⟩)] w fun e w' => e = .returned (.int .u8 (Y (fstB k))) ∧ w' = w := by
  have y6 : Y 6 = 6 := by rw [Y_eq]; rfl
  have y1 : Y 1 = 1 := by rw [Y_eq]; rfl
  go_enter Tryd.func25, Tryd.ntmps25
  by_cases h : k = 1
  · subst h
    go_wp2
    go_ret
    exact ⟨by rw [fstB, if_pos rfl, y6]; rfl, rfl⟩
  · have h2 : (k == 1) = false := beq_eq_false_iff_ne.2 h
    go_wp2
    go_ret
    exact ⟨by rw [fstB, if_neg h, y1]; rfl, rfl⟩

theorem mix_n {b o p : Nat} {z : BitVec 64} {n : Int} {x : BitVec 8} (e : Y x = n) (hp : p < 200) (w : World) (hz : w.cell? ⟨b, o + p / 8, none⟩ = some (.int .u64 (V z))) (hf : w.frozen? ⟨b, o + p / 8, none⟩ = false) :
    Calls Tryd.prog 23 #[.pointer (some ⟨b, o, none⟩), .int .i64 p, .int .u8 n] w fun e w' => e = .returned (.tuple #[]) ∧ w' = w.drew.setCell ⟨b, o + p / 8, none⟩ (.int .u64 (V (z ^^^ up x (p % 8 * 8)))) := by
  subst e; exact mix_any x hp w hz hf
theorem Arr.mix {W : World} {b : Nat} {L : List (BitVec 64)} (h : Arr W b L) {p : Nat} (hp : p < 200) (x : BitVec 8) : Arr (W.setCell ⟨b, 0 + p / 8, none⟩ (.int .u64 (V (L.getD (p / 8) 0 ^^^ up x (p % 8 * 8))))) b (mixL L p x) := by
  rw [Nat.zero_add]; exact h.set (p / 8) (by omega) _

end Go.Proofs.YtcjabligkeaafaaDoor.K
