import Derived.Test.YtcjabligkeaafaaDoorKRPerm
/- Bytes: how they come into the lanes and out of them. -/
namespace Go.Proofs.YtcjabligkeaafaaDoor.K
open Go.RowKit Go.Sort

theorem Y_there : ∃ f : BitVec 8 → Int, ∀ x, f x = (x.toNat : Int) := ⟨_, fun _ => rfl⟩
/-- A byte as the program's number. -/
noncomputable def Y : BitVec 8 → Int := Classical.choose Y_there
theorem Y_eq (x : BitVec 8) : Y x = (x.toNat : Int) := Classical.choose_spec Y_there x
theorem Y_lo (x : BitVec 8) : 0 ≤ Y x := by rw [Y_eq]; omega
theorem Y_hi (x : BitVec 8) : Y x < 256 := by rw [Y_eq]; have := x.isLt; omega
theorem Y_inj {x y : BitVec 8} (h : Y x = Y y) : x = y := by rw [Y_eq, Y_eq] at h; exact BitVec.eq_of_toNat_eq (by omega)
theorem Y_or (x y : BitVec 8) : bits .or .u8 (Y x) (Y y) = Y (x ||| y) := by
  rw [Y_eq, Y_eq, Y_eq, u8_or_nat _ _ (by have := x.isLt; omega) (by have := y.isLt; omega), BitVec.toNat_or]
/-- A byte in a lane, n bits up. -/
def up (x : BitVec 8) (n : Nat) : BitVec 64 := (x.setWidth 64) <<< n
theorem V_up (x : BitVec 8) (n : Nat) : IntKind.u64.wrap (Y x * 2 ^ n) = V (up x n) := by
  have hx := x.isLt
  rw [IntKind.wrap_u64, Y_eq, V_eq, up, BitVec.toNat_shiftLeft, BitVec.toNat_setWidth, Nat.shiftLeft_eq, Nat.mod_eq_of_lt (show x.toNat < 2 ^ 64 by omega)]
  simp
/-- A lane's byte, n bits up. -/
def down (a : BitVec 64) (n : Nat) : BitVec 8 := (a >>> n).setWidth 8
theorem Y_down (a : BitVec 64) (n : Nat) : IntKind.u8.wrap (V a / 2 ^ n) = Y (down a n) := by
  rw [IntKind.wrap_u8', V_eq, Y_eq, down, BitVec.toNat_setWidth, BitVec.toNat_ushiftRight, Nat.shiftRight_eq_div_pow]
  simp

/-- Block b holds these lanes from offset o on. -/
def Lno (W : World) (b o : Nat) (L : List (BitVec 64)) : Prop := ∀ i, i < L.length → W.cell? ⟨b, o + i, none⟩ = some (.int .u64 (V (L.getD i 0)))
/-- A byte mixed into the lanes. -/
def mixL (L : List (BitVec 64)) (p : Nat) (x : BitVec 8) : List (BitVec 64) := L.set (p / 8) (L.getD (p / 8) 0 ^^^ up x (p % 8 * 8))
theorem mixL_len (L : List (BitVec 64)) (p : Nat) (x : BitVec 8) : (mixL L p x).length = L.length := by simp [mixL]

set_option maxHeartbeats 4000000 in
theorem mix_any {b o p : Nat} {z : BitVec 64} (x : BitVec 8) (hp : p < 200) (w : World) (hz : w.cell? ⟨b, o + p / 8, none⟩ = some (.int .u64 (V z))) (hf : w.frozen? ⟨b, o + p / 8, none⟩ = false) :
    Calls Tryd.prog 23 #[.pointer (some ⟨b, o, none⟩), .int .i64 p, .int .u8 (Y x)] w fun e w' => e = .returned (.tuple #[]) ∧ w' = w.drew.setCell ⟨b, o + p / 8, none⟩ (.int .u64 (V (z ^^^ up x (p % 8 * 8)))) := by
  have hp' : (p : Int) < 200 := by omega
  have e1 : ((p : Int) / 8).toNat = p / 8 := by omega
  have e2 : ((p : Int) % 8 * 8).toNat = p % 8 * 8 := by omega
  have y0 := Y_lo x; have y1 := Y_hi x
  have v1 := V_up x (p % 8 * 8)
  have v2 := V_xor z (up x (p % 8 * 8))
  go_enter Tryd.func23, Tryd.ntmps23
  go_wp2_with fail
  refine region_tail 15 (by kernel_rfl) (by kernel_rfl) ?_
  simp only [List.take_succ_cons, List.take_zero, List.drop_succ_cons, List.drop_zero]
  repeat (first | go_big_quiet_skip | (go_big_quiet_want; go_big_quiet_op; go_big_quiet_on))
  refine wpQuiet_nil ?_
  go_wp2
  all_goals go_end0
  all_goals exact ⟨rfl, rfl⟩

end Go.Proofs.YtcjabligkeaafaaDoor.K
