import Derived.Test.YtmhcgjkemlcgoaaDoorKRPerm
import Derived.Test.YtmhcgjkemlcgoaaDoorKBase
import Derived.Test.YtmhcgjkemlcgoaaDoorKSpec
/- Bytes: how they come into the lanes and out of them. -/
namespace Go.Proofs.YtmhcgjkemlcgoaaDoor.K
open Go.RowKit Go.Sort

theorem Y_there : ∃ f : BitVec 8 → Int, ∀ x, f x = (x.toNat : Int) := ⟨_, fun _ => rfl⟩
/-- A byte as the program's number. -/
noncomputable def Y : BitVec 8 → Int := Classical.choose Y_there
theorem Y_eq (x : BitVec 8) : Y x = (x.toNat : Int) := Classical.choose_spec Y_there x
theorem Y_lo (x : BitVec 8) : 0 ≤ Y x := by rw [Y_eq]; omega
theorem Y_hi (x : BitVec 8) : Y x < 256 := by rw [Y_eq]; have := x.isLt; omega
theorem Y_or (x y : BitVec 8) : bits .or .u8 (Y x) (Y y) = Y (x ||| y) := by
  rw [Y_eq, Y_eq, Y_eq, u8_or_nat _ _ (by have := x.isLt; omega) (by have := y.isLt; omega), BitVec.toNat_or]
/-- A byte in a lane, n bits up. -/
def up (x : BitVec 8) (n : Nat) : BitVec 64 := (x.setWidth 64) <<< n
theorem V_up (x : BitVec 8) (n : Nat) : IntKind.u64.wrap (Y x * 2 ^ n) = V (up x n) := by
  have hx := x.isLt
  rw [IntKind.wrap_u64, Y_eq, V_eq, up, BitVec.toNat_shiftLeft, BitVec.toNat_setWidth, Nat.shiftLeft_eq, Nat.mod_eq_of_lt (show x.toNat < 2 ^ 64 by omega)]
  simp
theorem up_zero (n : Nat) : up 0 n = 0 := by simp [up]
/-- A lane's byte, n bits up. -/
def down (a : BitVec 64) (n : Nat) : BitVec 8 := (a >>> n).setWidth 8
theorem Y_down (a : BitVec 64) (n : Nat) : IntKind.u8.wrap (V a / 2 ^ n) = Y (down a n) := by
  rw [IntKind.wrap_u8', V_eq, Y_eq, down, BitVec.toNat_setWidth, BitVec.toNat_ushiftRight, Nat.shiftRight_eq_div_pow]
  simp

/-- Block b holds these lanes from offset o on. -/
def Lno (W : World) (b o : Nat) (L : List (BitVec 64)) : Prop := ∀ i, i < L.length → W.cell? ⟨b, o + i, none⟩ = some (.int .u64 (V (L.getD i 0)))
/-- A byte mixed into the lanes. -/
def mixL (L : List (BitVec 64)) (p : Nat) (x : BitVec 8) : List (BitVec 64) := L.set (p / 8) (L.getD (p / 8) 0 ^^^ up x (p % 8 * 8))
theorem mixL_len (L : List (BitVec 64)) (p : Nat) (x : BitVec 8) : (mixL L p x).length = L.length := by simp [mixL]

set_option maxHeartbeats 4000000 in
theorem mix_any {b o p : Nat} {z : BitVec 64} (x : BitVec 8) (hp : p < 200) (w : World) (hz : w.cell? ⟨b, o + p / 8, none⟩ = some (.int .u64 (V z))) (hf : w.frozen? ⟨b, o + p / 8, none⟩ = false) :
    Calls Tryd.prog 31 #[.pointer (some ⟨b, o, none⟩), .int .i64 p, .int .u8 (Y x)] w fun e w' => e = .returned (.tuple #[]) ∧ w' = w.drew.setCell ⟨b, o + p / 8, none⟩ (.int .u64 (V (z ^^^ up x (p % 8 * 8)))) := by
  have hp' : (p : Int) < 200 := by omega
  have e1 : ((p : Int) / 8).toNat = p / 8 := by omega
  have e2 : ((p : Int) % 8 * 8).toNat = p % 8 * 8 := by omega
  have y0 := Y_lo x; have y1 := Y_hi x
  have v1 := V_up x (p % 8 * 8)
  have v2 := V_xor z (up x (p % 8 * 8))
  go_enter Tryd.func31, Tryd.ntmps31
  go_wp2_with fail
  refine region_tail 15 (by kernel_rfl) (by kernel_rfl) ?_
  simp only [List.take_succ_cons, List.take_zero, List.drop_succ_cons, List.drop_zero]
  repeat (first | go_big_quiet_skip | (go_big_quiet_want; go_big_quiet_op; go_big_quiet_on))
  refine wpQuiet_nil ?_
  go_wp2
  all_goals go_end0
  all_goals exact ⟨rfl, rfl⟩

end Go.Proofs.YtmhcgjkemlcgoaaDoor.K

namespace Go.Proofs.YtmhcgjkemlcgoaaDoor.K
open Go.RowKit Go.Sort

theorem wpList_world {P : Program} {ops : Array Oper} {Q : Exit → Act → World → Prop} {rest : List Oper} {a : Act} {w : World} (S : World → Prop) (h : S w) (k : ∀ W, S W → wpList P ops Q rest a W) : wpList P ops Q rest a w := k w h
theorem fresh_arr {W : World} {b : Nat} (e : b = W.heap.size) : Arr (W.alloc (.cells #[.int .u64 0, .int .u64 0, .int .u64 0, .int .u64 0, .int .u64 0, .int .u64 0, .int .u64 0, .int .u64 0, .int .u64 0, .int .u64 0, .int .u64 0, .int .u64 0, .int .u64 0, .int .u64 0, .int .u64 0, .int .u64 0, .int .u64 0, .int .u64 0, .int .u64 0, .int .u64 0, .int .u64 0, .int .u64 0, .int .u64 0, .int .u64 0, .int .u64 0] 47)) b (List.replicate 25 0) := Arr.zeros _ e

end Go.Proofs.YtmhcgjkemlcgoaaDoor.K

/- A text taken in, byte by byte. -/
namespace Go.Proofs.YtmhcgjkemlcgoaaDoor.K
open Go.RowKit Go.Sort

/-- Bytes mixed in from a place on. -/
def mixs (L : List (BitVec 64)) (p : Nat) : List (BitVec 8) → List (BitVec 64)
  | [] => L
  | x :: X => mixs (mixL L p x) (p + 1) X
theorem mixs_len {L : List (BitVec 64)} : ∀ {p : Nat} {X : List (BitVec 8)}, (mixs L p X).length = L.length
  | _, [] => rfl
  | _, x :: X => by rw [mixs, mixs_len, mixL_len]
theorem mixs_snoc (L : List (BitVec 64)) (p : Nat) (x : BitVec 8) : ∀ X : List (BitVec 8), mixs L p (X ++ [x]) = mixL (mixs L p X) (p + X.length) x
  | [] => rfl
  | y :: X => by
    rw [List.cons_append, mixs, mixs, mixs_snoc _ _ _ X]
    simp [Nat.add_assoc, Nat.add_comm 1]
theorem take_snoc {X : List (BitVec 8)} {i : Nat} (h : i < X.length) : X.take (i + 1) = X.take i ++ [X.getD i 0] := by
  rw [List.take_add_one, List.getD, List.getElem?_eq_getElem h]
  rfl
theorem mixs_next {L : List (BitVec 64)} {p : Nat} {X : List (BitVec 8)} {i : Nat} (h : i < X.length) : mixs L p (X.take (i + 1)) = mixL (mixs L p (X.take i)) (p + i) (X.getD i 0) := by
  rw [take_snoc h, mixs_snoc, List.length_take, Nat.min_eq_left (by omega)]

/-- A full block is permuted. -/
def turn (L : List (BitVec 64)) (t : Nat) : List (BitVec 64) := if t % 136 = 0 then perm L else L
theorem turn_len {L : List (BitVec 64)} (h : L.length = 25) (t : Nat) : (turn L t).length = 25 := by
  unfold turn; split
  · exact perm_len h
  · exact h
/-- The lanes when the bytes have been taken in, t of them before. -/
def absb (L : List (BitVec 64)) (t : Nat) : List (BitVec 8) → List (BitVec 64)
  | [] => L
  | x :: X => absb (turn (mixL L (t % 136) x) (t + 1)) (t + 1) X
theorem absb_len {L : List (BitVec 64)} (h : L.length = 25) : ∀ {t : Nat} {X : List (BitVec 8)}, (absb L t X).length = 25
  | _, [] => h
  | t, x :: X => by rw [absb]; exact absb_len (turn_len (by rw [mixL_len]; exact h) _)
theorem absb_app (L : List (BitVec 64)) : ∀ (t : Nat) (X Z : List (BitVec 8)), absb L t (X ++ Z) = absb (absb L t X) (t + X.length) Z
  | t, [], Z => rfl
  | t, x :: X, Z => by
    rw [List.cons_append, absb, absb, absb_app _ (t + 1) X Z]
    simp [Nat.add_assoc, Nat.add_comm 1]
/-- A piece that stays in the block. -/
theorem absb_piece (L : List (BitVec 64)) : ∀ (t : Nat) (X : List (BitVec 8)), 0 < X.length → t % 136 + X.length ≤ 136 → absb L t X = turn (mixs L (t % 136) X) (t + X.length)
  | _, [], h, _ => absurd h (by simp)
  | t, [x], _, _ => by simp [absb, mixs]
  | t, x :: y :: X, _, h => by
    simp only [List.length_cons] at h
    have e1 : turn (mixL L (t % 136) x) (t + 1) = mixL L (t % 136) x := by
      unfold turn
      rw [if_neg (by omega)]
    rw [absb, e1, absb_piece _ (t + 1) (y :: X) (by simp) (by simp only [List.length_cons]; omega), show (t + 1) % 136 = t % 136 + 1 by omega]
    simp only [mixs, List.length_cons]
    congr 1
    omega

/-- Block b holds a sponge and may be written. -/
def Sp (W : World) (b : Nat) (k : Int) (L : List (BitVec 64)) (t : Nat) : Prop :=
  L.length = 25 ∧ W.cell? ⟨b, 0, none⟩ = some (.int .i64 k) ∧ Lno W b 1 L ∧ W.cell? ⟨b, 26, none⟩ = some (.int .i64 (t : Int)) ∧ Loose W b 27
theorem Sp.lt {W : World} {b : Nat} {k : Int} {L : List (BitVec 64)} {t : Nat} (h : Sp W b k L t) : b < W.heap.size := World.block_lt_of_cell? W ⟨b, 0, none⟩ h.2.1
theorem Sp.keep {W w1 : World} {b : Nat} {k : Int} {L : List (BitVec 64)} {t : Nat} (h : Sp W b k L t) (hb : Below W.heap.size W w1) : Sp w1 b k L t :=
  ⟨h.1, cell_keep hb h.2.1, fun i hi => cell_keep hb (h.2.2.1 i hi), cell_keep hb h.2.2.2.1, h.2.2.2.2.keep hb h.lt⟩
theorem Sp.alloc {W : World} {b : Nat} {k : Int} {L : List (BitVec 64)} {t : Nat} (h : Sp W b k L t) (o : Obj) : Sp (W.alloc o) b k L t := h.keep ((Below.refl _ _).alloc (Nat.le_refl _) o)
theorem Sp.drew {W : World} {b : Nat} {k : Int} {L : List (BitVec 64)} {t : Nat} (h : Sp W b k L t) : Sp W.drew b k L t := h
theorem Sp.taken {W : World} {b : Nat} {k : Int} {L : List (BitVec 64)} {t : Nat} (h : Sp W b k L t) (t' : Nat) : Sp (W.setCell ⟨b, 26, none⟩ (.int .i64 (t' : Int))) b k L t' := by
  have ne : ∀ i, i < 26 → (⟨b, 26, none⟩ : Addr) ≠ ⟨b, i, none⟩ := fun i hi => by first | (simp; done) | (simp; omega)
  refine ⟨h.1, ?_, fun j hj => ?_, ?_, h.2.2.2.2.set _ _⟩
  · rw [World.cell?_setCell_other _ _ _ _ (ne 0 (by decide))]; exact h.2.1
  · rw [World.cell?_setCell_other _ _ _ _ (ne (1 + j) (by have := h.1; omega))]; exact h.2.2.1 j hj
  · exact World.cell?_setCell_same _ _ _ h.2.2.2.1
theorem Sp.mix {W : World} {b : Nat} {k : Int} {L : List (BitVec 64)} {t : Nat} (h : Sp W b k L t) {p : Nat} (hp : p < 136) (x : BitVec 8) :
    Sp (W.setCell ⟨b, 1 + p / 8, none⟩ (.int .u64 (V (L.getD (p / 8) 0 ^^^ up x (p % 8 * 8))))) b k (mixL L p x) t := by
  have hl := h.1
  have ne : ∀ i, i ≠ 1 + p / 8 → (⟨b, 1 + p / 8, none⟩ : Addr) ≠ ⟨b, i, none⟩ := fun i hi => by first | (simp; done) | (simp; omega)
  refine ⟨by rw [mixL_len]; exact h.1, ?_, fun j hj => ?_, ?_, h.2.2.2.2.set _ _⟩
  · rw [World.cell?_setCell_other _ _ _ _ (ne 0 (by omega))]; exact h.2.1
  · rw [mixL_len] at hj
    by_cases e : j = p / 8
    · subst e
      rw [World.cell?_setCell_same _ _ _ (h.2.2.1 _ hj)]
      simp [mixL, List.getD, hj]
    · rw [World.cell?_setCell_other _ _ _ _ (ne (1 + j) (by omega)), h.2.2.1 j hj]
      simp [mixL, List.getD, List.getElem?_set_ne (Ne.symm e)]
  · rw [World.cell?_setCell_other _ _ _ _ (ne 26 (by omega))]; exact h.2.2.2.1

end Go.Proofs.YtmhcgjkemlcgoaaDoor.K
