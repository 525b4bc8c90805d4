import Derived.Test.YtmhcgjkemlcgoaaDoorHold
import Derived.Test.YtmhcgjkemlcgoaaDoorNum
import Derived.Test.YtmhcgjkemlcgoaaDoorRows
import Derived.WalkKit
import Derived.WalkSpells
import Derived.WalkLawsBesides
import Derived.Laws.Externs
import Derived.Shelf.Spec.BitsCarry
import Derived.Lib.Mul64
import Derived.Laws.Bits64b
import Derived.LoopN
import Derived.BigRegion
import Derived.Deep.RegionWith
import Derived.Test.YtmhcgjkemlcgoaaDoorOut
namespace Go.Proofs.YtmhcgjkemlcgoaaDoor
open Go.RowKit

set_option maxHeartbeats 1000000 in
theorem digits_limbs {x0 x1 x2 x3 : Int} (h0 : Word x0) (h1 : Word x1) (h2 : Word x2) (h3 : Word x3) (w : World) :
    Calls Tryd.prog 50 #[.agg #[.int .u64 x0, .int .u64 x1, .int .u64 x2, .int .u64 x3]] w fun e w' =>
      e = .returned (.agg #[.int .u64 (x0 % 4294967296), .int .u64 (x0 / 4294967296), .int .u64 (x1 % 4294967296), .int .u64 (x1 / 4294967296), .int .u64 (x2 % 4294967296), .int .u64 (x2 / 4294967296), .int .u64 (x3 % 4294967296), .int .u64 (x3 / 4294967296)]) ∧ Below w.heap.size w w' := by
  obtain ⟨_, _⟩ := h0; obtain ⟨_, _⟩ := h1; obtain ⟨_, _⟩ := h2; obtain ⟨_, _⟩ := h3
  go_enter Tryd.func50, Tryd.ntmps50
  go_wp2
  refine wp_loop_rounds 5 ?_
  rw [rounds_succ]; go_wp2
  rw [rounds_succ]; go_wp2
  rw [rounds_succ]; go_wp2
  rw [rounds_succ]; go_wp2
  rw [rounds_succ]; go_wp2
  simp [bodyPost, results, Tryd.results50, go_sem]
  repeat (first | with_reducible exact Below.refl _ _ | with_reducible refine Below.drew ?_ | with_reducible refine Below.alloc ?_ (by first | omega | (simp; done) | (simp; omega)) _)

set_option maxHeartbeats 1000000 in
theorem number_digits {d0 d1 d2 d3 d4 d5 d6 d7 : Int} (h0 : Dig d0) (h1 : Dig d1) (h2 : Dig d2) (h3 : Dig d3) (h4 : Dig d4) (h5 : Dig d5) (h6 : Dig d6) (h7 : Dig d7) (w : World) :
    Calls Tryd.prog 51 #[.agg #[.int .u64 d0, .int .u64 d1, .int .u64 d2, .int .u64 d3, .int .u64 d4, .int .u64 d5, .int .u64 d6, .int .u64 d7]] w fun e w' =>
      e = .returned (.agg #[.int .u64 (d0 + 4294967296 * d1), .int .u64 (d2 + 4294967296 * d3), .int .u64 (d4 + 4294967296 * d5), .int .u64 (d6 + 4294967296 * d7)]) ∧ Below w.heap.size w w' := by
  obtain ⟨_, _⟩ := h0; obtain ⟨_, _⟩ := h1; obtain ⟨_, _⟩ := h2; obtain ⟨_, _⟩ := h3; obtain ⟨_, _⟩ := h4; obtain ⟨_, _⟩ := h5; obtain ⟨_, _⟩ := h6; obtain ⟨_, _⟩ := h7
  go_enter Tryd.func51, Tryd.ntmps51
  go_wp2
  refine wp_loop_rounds 5 ?_
  rw [rounds_succ]; go_wp2; go_region; go_wp2
  rw [rounds_succ]; go_wp2; go_region; go_wp2
  rw [rounds_succ]; go_wp2; go_region; go_wp2
  rw [rounds_succ]; go_wp2; go_region; go_wp2
  rw [rounds_succ]; go_wp2
  simp [bodyPost, results, Tryd.results51, go_sem]
  repeat (first | with_reducible exact Below.refl _ _ | with_reducible refine Below.drew ?_ | with_reducible refine Below.alloc ?_ (by first | omega | (simp; done) | (simp; omega)) _)

theorem number_any {l : List Int} {n : Int} (hl : l.length = 8) (hd : Digs l) (e : vd l = n) (w : World) :
    Calls Tryd.prog 51 #[.agg (l.map (Value.int .u64)).toArray] w fun e w' => e = .returned (.agg #[.int .u64 (l0 n), .int .u64 (l1 n), .int .u64 (l2 n), .int .u64 (l3 n)]) ∧ Below w.heap.size w w' := by
  obtain ⟨a, b, c, d, e', f, g, i, rfl⟩ := len8 hl
  obtain ⟨_, q0, q1, q2, q3⟩ := vd_limbs hd e
  have := number_digits (hd a (by simp)) (hd b (by simp)) (hd c (by simp)) (hd d (by simp)) (hd e' (by simp)) (hd f (by simp)) (hd g (by simp)) (hd i (by simp)) w
  rw [q0, q1, q2, q3] at this
  exact this

/-- The digits of a number, under names. -/
theorem digits_names {n : Int} (hn : Num n) : ∃ a0 a1 a2 a3 a4 a5 a6 a7, Digs [a0, a1, a2, a3, a4, a5, a6, a7] ∧ vd [a0, a1, a2, a3, a4, a5, a6, a7] = n ∧
    ∀ w, Calls Tryd.prog 50 #[.agg #[.int .u64 (l0 n), .int .u64 (l1 n), .int .u64 (l2 n), .int .u64 (l3 n)]] w fun e w' => e = .returned (.agg #[.int .u64 a0, .int .u64 a1, .int .u64 a2, .int .u64 a3, .int .u64 a4, .int .u64 a5, .int .u64 a6, .int .u64 a7]) ∧ Below w.heap.size w w' :=
  ⟨_, _, _, _, _, _, _, _, dl_digs n, dl_vd hn, fun w => digits_limbs (l0_word n) (l1_word n) (l2_word n) (l3_word n) w⟩
/-- Block b holds these digits and may be written. -/
def Dgs (W : World) (b : Nat) (l : List Int) : Prop := Row W b l ∧ Loose W b l.length
theorem Dgs.keep {W w1 : World} {b : Nat} {l : List Int} (h : Dgs W b l) (hl : 0 < l.length) (hb : Below W.heap.size W w1) : Dgs w1 b l := ⟨h.1.keep hb, h.2.keep hb (h.1.lt hl)⟩
theorem Dgs.alloc {W : World} {b : Nat} {l : List Int} (h : Dgs W b l) (hl : 0 < l.length) (o : Obj) : Dgs (W.alloc o) b l := h.keep hl ((Below.refl _ _).alloc (Nat.le_refl _) o)
theorem Dgs.new (W : World) (l : List Int) (t : TypeId) : Dgs (W.alloc (.cells (l.map (Value.int .u64)).toArray t)) W.heap.size l := ⟨Row.new W l t, Loose.new _ _ _ _⟩
theorem Dgs.set {W : World} {b : Nat} {l : List Int} (h : Dgs W b l) (i : Nat) (hi : i < l.length) (v : Int) : Dgs (W.setCell ⟨b, i, none⟩ (.int .u64 v)) b (l.set i v) := ⟨h.1.set i hi v, by rw [List.length_set]; exact h.2.set _ _⟩
theorem Dgs.drew {W : World} {b : Nat} {l : List Int} (h : Dgs W b l) : Dgs W.drew b l := h
theorem Dgs.other {W : World} {b b' i : Nat} {l : List Int} (h : Dgs W b l) (ne : b' ≠ b) (v : Value) : Dgs (W.setCell ⟨b', i, none⟩ v) b l := ⟨h.1.setOther ne v, h.2.set _ _⟩

end Go.Proofs.YtmhcgjkemlcgoaaDoor
