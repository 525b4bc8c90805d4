import Derived.Test.YtjbmiobbgdcceaaDoorSPad
/- The law ShaFills. -/
namespace Go.Proofs.YtjbmiobbgdcceaaDoor
open Go.RowKit Go.Sort

set_option maxHeartbeats 2000000 in
/-- Two lists of the same bytes. -/
theorem same_yes {X : List (BitVec 8)} {a c : Option Addr} {ba oa ca bb ob cb : Nat} (hl : X.length < 1073741824) (ha : At a ba oa X) (hc : At c bb ob X) (w : World) (hA : Byo w ba oa X) (hB : Byo w bb ob X) :
    Calls Tryd.prog 20 #[.slice a X.length ca, .slice c X.length cb] w fun e w' => e = .returned (.bool true) ∧ Below w.heap.size w w' := by
  have hl' : (X.length : Int) < 1073741824 := by omega
  have HA : Hid (At a ba oa X ∧ At c bb ob X) := ⟨ha, hc⟩
  clear ha hc
  go_enter Tryd.func20, Tryd.ntmps20
  go_wp2_with fail
  go_loopg [5] X.length (fun k iv wr => ∃ i : Nat, k = X.length - i ∧ i ≤ X.length ∧ iv = .int .i64 i ∧ Below w.heap.size w wr ∧ Byo wr ba oa X ∧ Byo wr bb ob X)
  case atStart => exact ⟨0, rfl, Nat.zero_le _, rfl, Below.refl _ _, hA, hB⟩
  case round =>
    clear hA hB
    obtain ⟨i, hk, hi, rfl, B, ha, hb⟩ := hrel
    have HK : Hid (gk = X.length - i) := hk
    have HH : Hid (Byo wr ba oa X ∧ Byo wr bb ob X) := ⟨ha, hb⟩
    clear hk ha hb
    by_cases h8 : i = X.length
    · subst h8
      go_wp2
      go_ret
      exact ⟨rfl, B⟩
    · have hi' : (i : Int) < X.length := by omega
      have hne : X ≠ [] := by intro h; rw [h] at h8 hi; simp at h8 hi; exact h8 hi
      have ea : a = some ⟨ba, oa, none⟩ := HA.out.1.resolve_left hne
      have ec : c = some ⟨bb, ob, none⟩ := HA.out.2.resolve_left hne
      subst ea ec
      have gx := HH.out.1 i (by omega)
      have gy := HH.out.2 i (by omega)
      generalize X.getD i 0 = x at *
      go_wp2
      go_region
      go_wp2
      go_roundg (X.length - (i + 1))
      case measure => have := HK.out; omega
      case rel => exact ⟨i + 1, rfl, by omega, by go_num, B.drew, HH.out.1, HH.out.2⟩

/-- The number of bits, as far as it is read behind i bytes of the filling. -/
def read (n len i : Nat) : Nat := 8 * n % 18446744073709551616 / 2 ^ (8 * (len - i))
end Go.Proofs.YtjbmiobbgdcceaaDoor
