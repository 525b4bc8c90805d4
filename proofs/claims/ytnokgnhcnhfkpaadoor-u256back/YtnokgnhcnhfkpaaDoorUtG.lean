import Derived.Test.YtnokgnhcnhfkpaaDoorUtB
import Derived.Test.YtnokgnhcnhfkpaaDoorQLate
import Derived.Test.YtnokgnhcnhfkpaaDoorVars
import Derived.Test.YtnokgnhcnhfkpaaDoorLen
import Derived.Deep.LoopGhost
import Derived.Deep.RegionHeld3
import Derived.Test.YtnokgnhcnhfkpaaDoorReduce
import Derived.Test.YtnokgnhcnhfkpaaDoorUtC
/- Parse of the document. -/
namespace Go.Proofs.YtnokgnhcnhfkpaaDoor
open Go.RowKit Go.Sort

/-- What stands in the second loop. -/
structure Rp (w W : World) (br bz bx : Nat) (X : Int) : Prop where
  B : RowKit.Below w.heap.size w W
  hR : Blank W br
  hZ : Blank W bz
  hX : Var W bx X
theorem Rp.keep {w W w1 : World} {br bz bx : Nat} {X : Int} (s : Rp w W br bz bx X) (hb : RowKit.Below W.heap.size W w1) : Rp w w1 br bz bx X := ⟨s.B.trans (hb.mono s.B.size), s.hR.keep hb, s.hZ.keep hb, s.hX.keep hb⟩
theorem Rp.alloc {w W : World} {br bz bx : Nat} {X : Int} (s : Rp w W br bz bx X) (o : Obj) : Rp w (W.alloc o) br bz bx X := s.keep ((Below.refl _ _).alloc (Nat.le_refl _) o)
theorem Rp.drew {w W : World} {br bz bx : Nat} {X : Int} (s : Rp w W br bz bx X) : Rp w W.drew br bz bx X := ⟨s.B.drew, s.hR, s.hZ, s.hX⟩
theorem Rp.set4 {w W : World} {br bz bx b : Nat} {X : Int} (s : Rp w W br bz bx X) (hb : w.heap.size ≤ b) (n1 : b ≠ br) (n2 : b ≠ bz) (n3 : b ≠ bx) (v0 v1 v2 v3 : Value) : Rp w ((((W.setCell ⟨b, 0, none⟩ v0).setCell ⟨b, 1, none⟩ v1).setCell ⟨b, 2, none⟩ v2).setCell ⟨b, 3, none⟩ v3) br bz bx X :=
  ⟨below_set4 s.B hb _ _ _ _, s.hR.set4 n1 _ _ _ _, s.hZ.set4 n2 _ _ _ _, s.hX.set4 n3 _ _ _ _⟩
end Go.Proofs.YtnokgnhcnhfkpaaDoor

/- Parse of both sides, of any text. -/
namespace Go.Proofs.YtnokgnhcnhfkpaaDoor
open Go.RowKit Go.Sort

set_option maxRecDepth 100000 in
theorem parse_some {s : ByteArray} (hs : s.size ≤ 9223372036854775807) (h : DgA s ∧ s.size ≠ 0) (h1 : ¬ (1 < s.size ∧ bt s 0 = 48)) (h2 : s.size ≤ 78) (w : World) (hp : Pws w) : Calls Tryd.prog 8 #[.string s] w fun e w' => e = .returned (.tuple #[.agg #[.int .u64 (l0 (pv s)), .int .u64 (l1 (pv s)), .int .u64 (l2 (pv s)), .int .u64 (l3 (pv s))], .int .i64 (pe s)]) ∧ Below w.heap.size w w' := by
  have hd := isDigits_yes hs h
  have HP : Hid (DgA s ∧ Pws w ∧ ¬ (1 < s.size ∧ bt s 0 = 48) ∧ s.size ≠ 0) := ⟨h.1, hp, h1, h.2⟩
  have q0 : 0 < s.size := by omega
  have hx := get_bt q0
  have q3 : ¬ 78 < s.size := by omega
  have two : (¬ 1 < s.size) ∨ (1 < s.size ∧ (((s[0]'q0).toNat : Int) == 48) = false) := by
    by_cases c : 1 < s.size
    · exact .inr ⟨c, by rw [hx]; simpa using fun e => h1 ⟨c, e⟩⟩
    · exact .inl c
  clear hx h1 h2 hs h hp
  go_enter Tryd.func8, Tryd.ntmps8
  refine wp_seq_k fun K0 k0 => ?_
  have H0 : Hid _ := k0
  clear k0
  go_wp2
  refine H0.out _ _ ?_
  clear H0
  refine wp_seq_k fun K1 k1 => ?_
  have H1 : Hid _ := k1
  clear k1
  rcases two with q1 | ⟨q1, q2⟩
  all_goals (
    go_wp2_with ((with_reducible refine (hd _).mono ?_); rintro e1 w1 ⟨rfl, rfl⟩)
    refine H1.out _ _ ?_
    clear H1
    refine wp_seq_k fun K2 k2 => ?_
    have H2 : Hid _ := k2
    clear k2
    go_wp2
    refine H2.out _ _ ?_
    clear H2
    exact (parse_tail HP.out.1 HP.out.2.2.2 HP.out.2.2.1 w _ (br := w.heap.size) (bx := w.heap.size + 1) (Blank.zero (Blank.new (by simp))) ((Blank.new rfl).alloc _) ((HP.out.2.1.alloc _).alloc _) (((Below.refl _ _).alloc (Nat.le_refl _) _).alloc (by simp) _) (Nat.le_refl _) (by omega) HP.out.2.1.lt (by omega) _ _ _ _ _ _ _ _ _ _ _ _ _ _ _ _ _ _ _ _ _ _ _ _ _ _ _ _ _ _ _ _ _ _ _ _ _ _ _ _ _ _ _ _ _ _ _ _).out rfl)
/-- Parse of the program. -/
theorem parse_all {s : ByteArray} (hs : s.size ≤ 9223372036854775807) (w : World) (hp : Pws w) : Calls Tryd.prog 8 #[.string s] w fun e w' => e = .returned (.tuple #[.agg #[.int .u64 (l0 (pv s)), .int .u64 (l1 (pv s)), .int .u64 (l2 (pv s)), .int .u64 (l3 (pv s))], .int .i64 (pe s)]) ∧ Below w.heap.size w w' := by
  by_cases h : DgA s ∧ s.size ≠ 0
  · by_cases h1 : 1 < s.size ∧ bt s 0 = 48
    · obtain ⟨e1, e2⟩ := pe_lead h h1
      rw [e1, e2]; exact parse_lead hs h h1 w
    · by_cases h2 : 78 < s.size
      · have h3 : bt s 0 ≠ 48 := fun e => h1 ⟨by omega, e⟩
        obtain ⟨e1, e2⟩ := pe_long h h1 (long_78 h.1 h3 h2)
        rw [e1, e2]; exact parse_78 hs h h3 h2 w
      · exact parse_some hs h h1 (by omega) w hp
  · obtain ⟨e1, e2⟩ := pe_digit h
    rw [e1, e2]; exact parse_digit hs h w
end Go.Proofs.YtnokgnhcnhfkpaaDoor
