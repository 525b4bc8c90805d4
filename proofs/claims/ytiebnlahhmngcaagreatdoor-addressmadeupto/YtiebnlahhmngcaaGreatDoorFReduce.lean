import Derived.Test.YtiebnlahhmngcaaGreatDoorHold
import Derived.Test.YtiebnlahhmngcaaGreatDoorMul2
import Derived.Test.YtiebnlahhmngcaaGreatDoorQTail
import Derived.Deep.LoopGhost
namespace Go.Proofs.YtiebnlahhmngcaaGreatDoor
open Go.RowKit Go.Sort

theorem feq_zero {m : Int} (hm : Num m) (w : World) : (Op.equalIn 10000 24 (.agg #[.int .u64 (l0 m), .int .u64 (l1 m), .int .u64 (l2 m), .int .u64 (l3 m)]) (.agg #[.int .u64 0, .int .u64 0, .int .u64 0, .int .u64 0])).run Tryz.prog w = .ok (decide (m = 0)) w := by
  have h := eq_num (m := 0) hm ⟨by decide, by decide⟩ w
  obtain ⟨z0, z1, z2, z3⟩ := zero_limbs
  rw [z0, z1, z2, z3] at h
  exact h

/-- A modulus in a block. -/
def HoldM (W : World) (b : Nat) (m c : Int) : Prop := Row W b [l0 m, l1 m, l2 m, l3 m, l0 c, l1 c, l2 c, l3 c]
theorem HoldM.keep {W w1 : World} {b : Nat} {m c : Int} (h : HoldM W b m c) (hb : Below W.heap.size W w1) : HoldM w1 b m c := Row.keep h hb
theorem HoldM.alloc {W : World} {b : Nat} {m c : Int} (h : HoldM W b m c) (o : Obj) : HoldM (W.alloc o) b m c := Row.alloc h o
theorem HoldM.drew {W : World} {b : Nat} {m c : Int} (h : HoldM W b m c) : HoldM W.drew b m c := h
theorem HoldM.new (W : World) (m c : Int) (t : TypeId) : HoldM (W.alloc (.cells #[.int .u64 (l0 m), .int .u64 (l1 m), .int .u64 (l2 m), .int .u64 (l3 m), .int .u64 (l0 c), .int .u64 (l1 c), .int .u64 (l2 c), .int .u64 (l3 c)] t)) W.heap.size m c := Row.fresh8 rfl
theorem HoldM.set {W : World} {b b' i : Nat} {m c : Int} (h : HoldM W b m c) (ne : b' ≠ b) (v : Value) : HoldM (W.setCell ⟨b', i, none⟩ v) b m c := Row.setOther h ne v
theorem HoldM.set4 {W : World} {b b' : Nat} {m c : Int} (h : HoldM W b m c) (ne : b' ≠ b) (v0 v1 v2 v3 : Value) : HoldM ((((W.setCell ⟨b', 0, none⟩ v0).setCell ⟨b', 1, none⟩ v1).setCell ⟨b', 2, none⟩ v2).setCell ⟨b', 3, none⟩ v3) b m c :=
  (((h.set ne v0).set ne v1).set ne v2).set ne v3
theorem HoldM.cells {W : World} {b : Nat} {m c : Int} (h : HoldM W b m c) : W.cell? ⟨b, 0, none⟩ = some (.int .u64 (l0 m)) ∧ W.cell? ⟨b, 1, none⟩ = some (.int .u64 (l1 m)) ∧ W.cell? ⟨b, 2, none⟩ = some (.int .u64 (l2 m)) ∧ W.cell? ⟨b, 3, none⟩ = some (.int .u64 (l3 m)) ∧ W.cell? ⟨b, 4, none⟩ = some (.int .u64 (l0 c)) ∧ W.cell? ⟨b, 5, none⟩ = some (.int .u64 (l1 c)) ∧ W.cell? ⟨b, 6, none⟩ = some (.int .u64 (l2 c)) ∧ W.cell? ⟨b, 7, none⟩ = some (.int .u64 (l3 c)) := Row.all8 h
theorem HoldM.grown {W : World} {b : Nat} {m c : Int} (h : HoldM W b m c) : ∀ d os, (grow (redrawn W d) os).cell? ⟨b, 0, none⟩ = some (.int .u64 (l0 m)) ∧ (grow (redrawn W d) os).cell? ⟨b, 1, none⟩ = some (.int .u64 (l1 m)) ∧ (grow (redrawn W d) os).cell? ⟨b, 2, none⟩ = some (.int .u64 (l2 m)) ∧ (grow (redrawn W d) os).cell? ⟨b, 3, none⟩ = some (.int .u64 (l3 m)) ∧ (grow (redrawn W d) os).cell? ⟨b, 4, none⟩ = some (.int .u64 (l0 c)) ∧ (grow (redrawn W d) os).cell? ⟨b, 5, none⟩ = some (.int .u64 (l1 c)) ∧ (grow (redrawn W d) os).cell? ⟨b, 6, none⟩ = some (.int .u64 (l2 c)) ∧ (grow (redrawn W d) os).cell? ⟨b, 7, none⟩ = some (.int .u64 (l3 c)) :=
  fun d os => (h.keep (below_regrown W d os)).cells
theorem HoldM.lt {W : World} {b : Nat} {m c : Int} (h : HoldM W b m c) : b < W.heap.size := Row.lt h (by simp)

set_option maxHeartbeats 1000000 in
theorem freduce_any {m c h l : Int} (hf : Fit m c) (hh : Num h) (hl : Num l) (w : World) :
    Calls Tryz.prog 96 #[.agg #[.int .u64 (l0 m), .int .u64 (l1 m), .int .u64 (l2 m), .int .u64 (l3 m), .int .u64 (l0 c), .int .u64 (l1 c), .int .u64 (l2 c), .int .u64 (l3 c)], .agg #[.int .u64 (l0 h), .int .u64 (l1 h), .int .u64 (l2 h), .int .u64 (l3 h)], .agg #[.int .u64 (l0 l), .int .u64 (l1 l), .int .u64 (l2 l), .int .u64 (l3 l)]] w fun e w' => e = .returned (.agg #[.int .u64 (l0 (modN m (wideN h l))), .int .u64 (l1 (modN m (wideN h l))), .int .u64 (l2 (modN m (wideN h l))), .int .u64 (l3 (modN m (wideN h l)))]) ∧ Below w.heap.size w w' := by
  go_enter Tryz.func96, Tryz.ntmps96
  go_wp2_with fail
  refine wp_world (fun W => Below w.heap.size w W ∧ HoldM W w.heap.size m c ∧ Var W (w.heap.size + 1) h ∧ Var W (w.heap.size + 1 + 1) l ∧ Blank W (w.heap.size + 1 + 1 + 1)) ⟨by repeat (first | with_reducible exact Below.refl _ _ | with_reducible refine Below.alloc ?_ (by first | omega | (simp; done) | (simp; omega)) _), (((HoldM.new w m c _).alloc _).alloc _).alloc _, ((Var.new (by simp)).alloc _).alloc _, (Var.new (by simp)).alloc _, Blank.new (by simp)⟩ ?_
  rintro W ⟨B, hF, hH, hL, hR⟩
  have o1 : w.heap.size ≤ w.heap.size + 1 := by omega
  have o2 : w.heap.size ≤ w.heap.size + 1 + 1 := by omega
  have o3 : w.heap.size ≤ w.heap.size + 1 + 1 + 1 := by omega
  have n1 : w.heap.size + 1 ≠ w.heap.size := by omega
  have n2 : w.heap.size + 1 + 1 ≠ w.heap.size := by omega
  have n3 : w.heap.size + 1 + 1 ≠ w.heap.size + 1 := by omega
  have n4 : w.heap.size + 1 + 1 + 1 ≠ w.heap.size + 1 := by omega
  have n5 : w.heap.size + 1 + 1 + 1 ≠ w.heap.size + 1 + 1 := by omega
  generalize w.heap.size + 1 + 1 + 1 = br at *
  generalize w.heap.size + 1 + 1 = bl at *
  generalize w.heap.size + 1 = bh at *
  go_loopg [] (wideN h l).toNat (fun g wr => ∃ H L : Int, g = (wideN H L).toNat ∧ Num H ∧ Num L ∧ wideN H L % m = wideN h l % m ∧ Below w.heap.size w wr ∧ HoldM wr w.heap.size m c ∧ Var wr bh H ∧ Var wr bl L ∧ Blank wr br)
  case atStart => exact ⟨h, l, rfl, hh, hl, rfl, B, hF, hH, hL, hR⟩
  case round =>
    clear B hF hH hL hR W
    obtain ⟨H, L, hg, nH, nL, he, B, hF, hH, hL, hR⟩ := hrel
    have E : Hid (gk = (wideN H L).toNat ∧ wideN H L % m = wideN h l % m) := ⟨hg, he⟩
    clear hg he
    have hq := feq_zero nH
    have bz := build_zero
    have gH := hH.1.cells; have gL := hL.1.cells; have gF := hF.cells
    by_cases hz : H = 0
    · simp only [hz, decide_true] at hq
      subst hz
      have e2 : modN m (wideN h l) = modN m L := by
        have := E.out.2; rw [wide_zero] at this; unfold modN; rw [this]
      have O := once_any hf nL
      rw [← e2] at O
      have O' : Hid (∀ w, Calls Tryz.prog 68 #[.agg #[.int .u64 (l0 m), .int .u64 (l1 m), .int .u64 (l2 m), .int .u64 (l3 m), .int .u64 (l0 c), .int .u64 (l1 c), .int .u64 (l2 c), .int .u64 (l3 c)], .agg #[.int .u64 (l0 L), .int .u64 (l1 L), .int .u64 (l2 L), .int .u64 (l3 L)]] w fun e w' => e = .returned (.agg #[.int .u64 (l0 (modN m (wideN h l))), .int .u64 (l1 (modN m (wideN h l))), .int .u64 (l2 (modN m (wideN h l))), .int .u64 (l3 (modN m (wideN h l)))]) ∧ Below w.heap.size w w') := O
      clear O e2
      go_wp2_with fail
      with_reducible refine (O'.out _).mono ?_
      rintro e w1 ⟨rfl, hb⟩
      replace B := B.trans (hb.mono B.size)
      replace hR := hR.keep hb
      clear hb gH gL gF hF hH hL
      have gR := hR.1.all4; have fR := hR.2.all4
      go_wp2
      simp [bodyPost, results, Tryz.results96, go_sem, gR]
      exact below_set4 B o3 _ _ _ _
    · have hzd : decide (H = 0) = false := by simp [hz]
      rw [hzd] at hq
      obtain ⟨st1, st2⟩ := wide_step (l := L) hf nH hz
      have nn := wide_nonneg (fold_num hf nH nL).1 (foldL_Num H L c)
      have nl := wide_nonneg nH nL
      have E2 : Hid ((wideN (foldH H L c) (foldL H L c)).toNat < gk ∧ Num (foldH H L c) ∧ Num (foldL H L c) ∧ wideN (foldH H L c) (foldL H L c) % m = wideN h l % m) :=
        ⟨by have := E.out.1; omega, (fold_num hf nH nL).1, foldL_Num H L c, st1.trans E.out.2⟩
      have D : Hid (∀ w, Calls Tryz.prog 102 #[.agg #[.int .u64 (l0 H), .int .u64 (l1 H), .int .u64 (l2 H), .int .u64 (l3 H)], .agg #[.int .u64 (l0 L), .int .u64 (l1 L), .int .u64 (l2 L), .int .u64 (l3 L)], .agg #[.int .u64 (l0 c), .int .u64 (l1 c), .int .u64 (l2 c), .int .u64 (l3 c)]] w fun e w' => e = .returned (.tuple #[.agg #[.int .u64 (l0 (foldH H L c)), .int .u64 (l1 (foldH H L c)), .int .u64 (l2 (foldH H L c)), .int .u64 (l3 (foldH H L c))], .agg #[.int .u64 (l0 (foldL H L c)), .int .u64 (l1 (foldL H L c)), .int .u64 (l2 (foldL H L c)), .int .u64 (l3 (foldL H L c))]]) ∧ Below w.heap.size w w') := ffold_any hf nH nL
      clear st1 st2 nn nl E hz hzd
      generalize foldH H L c = H' at *
      generalize foldL H L c = L' at *
      go_wp2_with fail
      with_reducible refine (D.out _).mono ?_
      rintro e w1 ⟨rfl, hb⟩
      replace B := B.trans (hb.mono B.size)
      replace hR := hR.keep hb; replace hF := hF.keep hb; replace hH := hH.keep hb; replace hL := hL.keep hb
      clear hb gH gL gF hq bz
      have gH := hH.1.cells; have gL := hL.1.cells
      have fH := hH.2.all4; have fL := hL.2.all4
      have n3' := n3.symm
      go_wp2
      go_roundg (wideN H' L').toNat
      case measure => exact E2.out.1
      case rel => exact ⟨H', L', rfl, E2.out.2.1, E2.out.2.2.1, E2.out.2.2.2, below_set4 (below_set4 B o1 _ _ _ _) o2 _ _ _ _, (hF.set4 n1 _ _ _ _).set4 n2 _ _ _ _, (hH.sets _).set4 n3 _ _ _ _, (hL.set4 n3' _ _ _ _).sets _, (hR.set4 n4.symm _ _ _ _).set4 n5.symm _ _ _ _⟩
end Go.Proofs.YtiebnlahhmngcaaGreatDoor

namespace Go.Proofs.YtiebnlahhmngcaaGreatDoor
open Go.RowKit Go.Sort

set_option maxHeartbeats 1000000 in
theorem fmul_any {m c x y : Int} (hf : Fit m c) (hx : Num x) (hy : Num y) (w : World) :
    Calls Tryz.prog 81 #[.agg #[.int .u64 (l0 m), .int .u64 (l1 m), .int .u64 (l2 m), .int .u64 (l3 m), .int .u64 (l0 c), .int .u64 (l1 c), .int .u64 (l2 c), .int .u64 (l3 c)], .agg #[.int .u64 (l0 x), .int .u64 (l1 x), .int .u64 (l2 x), .int .u64 (l3 x)], .agg #[.int .u64 (l0 y), .int .u64 (l1 y), .int .u64 (l2 y), .int .u64 (l3 y)]] w fun e w' => e = .returned (.agg #[.int .u64 (l0 (modN m (x * y))), .int .u64 (l1 (modN m (x * y))), .int .u64 (l2 (modN m (x * y))), .int .u64 (l3 (modN m (x * y)))]) ∧ Below w.heap.size w w' := by
  have M1 : Hid (∀ w, Calls Tryz.prog 97 #[.agg #[.int .u64 (l0 x), .int .u64 (l1 x), .int .u64 (l2 x), .int .u64 (l3 x)], .agg #[.int .u64 (l0 y), .int .u64 (l1 y), .int .u64 (l2 y), .int .u64 (l3 y)]] w fun e w' => e = .returned (.tuple #[.agg #[.int .u64 (l0 (hiN x y)), .int .u64 (l1 (hiN x y)), .int .u64 (l2 (hiN x y)), .int .u64 (l3 (hiN x y))], .agg #[.int .u64 (l0 (loN x y)), .int .u64 (l1 (loN x y)), .int .u64 (l2 (loN x y)), .int .u64 (l3 (loN x y))]]) ∧ Below w.heap.size w w') := mul_any hx hy
  have R1 : Hid (∀ w, Calls Tryz.prog 96 #[.agg #[.int .u64 (l0 m), .int .u64 (l1 m), .int .u64 (l2 m), .int .u64 (l3 m), .int .u64 (l0 c), .int .u64 (l1 c), .int .u64 (l2 c), .int .u64 (l3 c)], .agg #[.int .u64 (l0 (hiN x y)), .int .u64 (l1 (hiN x y)), .int .u64 (l2 (hiN x y)), .int .u64 (l3 (hiN x y))], .agg #[.int .u64 (l0 (loN x y)), .int .u64 (l1 (loN x y)), .int .u64 (l2 (loN x y)), .int .u64 (l3 (loN x y))]] w fun e w' => e = .returned (.agg #[.int .u64 (l0 (modN m (x * y))), .int .u64 (l1 (modN m (x * y))), .int .u64 (l2 (modN m (x * y))), .int .u64 (l3 (modN m (x * y)))]) ∧ Below w.heap.size w w') := fun w => by
    have := freduce_any hf (hiN_Num hx hy) (loN_Num x y) w; rw [wide_mul] at this; exact this
  generalize modN m (x * y) = R at *
  generalize hiN x y = H at *
  generalize loN x y = L at *
  go_enter Tryz.func81, Tryz.ntmps81
  go_wp2_with fail
  refine wp_world (fun W => Below w.heap.size w W ∧ HoldM W w.heap.size m c ∧ Hold W (w.heap.size + 1) x ∧ Hold W (w.heap.size + 1 + 1) y ∧ Blank W (w.heap.size + 1 + 1 + 1)) ⟨by repeat (first | with_reducible exact Below.refl _ _ | with_reducible refine Below.alloc ?_ (by first | omega | (simp; done) | (simp; omega)) _), (((HoldM.new w m c _).alloc _).alloc _).alloc _, ((Hold.fresh (by simp)).alloc _).alloc _, (Hold.fresh (by simp)).alloc _, Blank.new (by simp)⟩ ?_
  rintro W ⟨B, hF, hX, hY, hR⟩
  have o3 : w.heap.size ≤ w.heap.size + 1 + 1 + 1 := by omega
  generalize w.heap.size + 1 + 1 + 1 = br at *
  generalize w.heap.size + 1 + 1 = by' at *
  generalize w.heap.size + 1 = bx at *
  have gF := hF.grown; have gX := hX.grown; have gY := hY.grown
  refine below_tail 7 (by kernel_rfl) (by kernel_rfl) ?_
  simp only [List.take_succ_cons, List.take_zero, List.drop_succ_cons, List.drop_zero]
  repeat
    first
      | go_big_quiet_skip
      | (go_big_quiet_want; go_big_quiet_op; go_big_quiet_on)
      | (go_big_quiet_want
         go_big_quiet_op
         apply Exists.intro
         refine ⟨fun p => ?_, ?_⟩
         · (first | (go_at_call 97; with_reducible exact Calls.regrown_of (M1.out _)) | (go_at_call 96; with_reducible exact Calls.regrown_of (R1.out _)))
         go_big_quiet_on)
  refine wpQuiet_nil ?_
  rintro w1 ⟨p, rfl⟩
  have hb := below_regrown W p.d p.os
  generalize grow (redrawn W p.d) p.os = w1 at *
  replace B := B.trans (hb.mono B.size)
  replace hR := hR.keep hb
  clear hb hF hX hY gF gX gY W
  have gR := hR.1.all4; have fR := hR.2.all4
  go_wp2
  simp [bodyPost, results, Tryz.results81, go_sem, gR]
  exact below_set4 B o3 _ _ _ _
end Go.Proofs.YtiebnlahhmngcaaGreatDoor
