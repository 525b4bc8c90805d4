import Derived.Test.YtifenjinbjlfdaaDoorUtG
import Derived.Test.YtifenjinbjlfdaaDoorUtC
/- Parse of both sides, of any text. -/
namespace Go.Proofs.YtifenjinbjlfdaaDoor
open Go.RowKit Go.Sort

set_option maxRecDepth 100000 in
theorem parse_some {s : ByteArray} (hs : s.size ≤ 9223372036854775807) (h : DgA s ∧ s.size ≠ 0) (h1 : ¬ (1 < s.size ∧ bt s 0 = 48)) (h2 : s.size ≤ 78) (w : World) (hp : Pws w) : Calls Tryd.prog 4 #[.string s] w fun e w' => e = .returned (.tuple #[.agg #[.int .u64 (l0 (pv s)), .int .u64 (l1 (pv s)), .int .u64 (l2 (pv s)), .int .u64 (l3 (pv s))], .int .i64 (pe s)]) ∧ Below w.heap.size w w' := by
  have hd := isDigits_yes hs h
  have HP : Hid (DgA s ∧ Pws w ∧ ¬ (1 < s.size ∧ bt s 0 = 48) ∧ s.size ≠ 0) := ⟨h.1, hp, h1, h.2⟩
  have q0 : 0 < s.size := by omega
  have hx := get_bt q0
  have q3 : ¬ 78 < s.size := by omega
  have two : (¬ 1 < s.size) ∨ (1 < s.size ∧ (((s[0]'q0).toNat : Int) == 48) = false) := by
    by_cases c : 1 < s.size
    · exact .inr ⟨c, by rw [hx]; simpa using fun e => h1 ⟨c, e⟩⟩
    · exact .inl c
  clear hx h1 h2 hs h hp
  go_enter Tryd.func4, Tryd.ntmps4
  refine wp_seq_k fun K0 k0 => ?_
  have H0 : Hid _ := k0
  clear k0
  go_wp2
  refine H0.out _ _ ?_
  clear H0
  refine wp_seq_k fun K1 k1 => ?_
  have H1 : Hid _ := k1
  clear k1
  rcases two with q1 | ⟨q1, q2⟩
  all_goals (
    go_wp2_with ((with_reducible refine (hd _).mono ?_); rintro e1 w1 ⟨rfl, rfl⟩)
    refine H1.out _ _ ?_
    clear H1
    refine wp_seq_k fun K2 k2 => ?_
    have H2 : Hid _ := k2
    clear k2
    go_wp2
    refine H2.out _ _ ?_
    clear H2
    exact (parse_tail HP.out.1 HP.out.2.2.2 HP.out.2.2.1 w _ (br := w.heap.size) (bx := w.heap.size + 1) (Blank.zero (Blank.new (by simp))) ((Blank.new rfl).alloc _) ((HP.out.2.1.alloc _).alloc _) (((Below.refl _ _).alloc (Nat.le_refl _) _).alloc (by simp) _) (Nat.le_refl _) (by omega) HP.out.2.1.lt (by omega) _ _ _ _ _ _ _ _ _ _ _ _ _ _ _ _ _ _ _ _ _ _ _ _ _ _ _ _ _ _ _ _ _ _ _ _ _ _ _ _ _ _ _ _ _ _ _ _).out rfl)
/-- Parse of the program. -/
theorem parse_all {s : ByteArray} (hs : s.size ≤ 9223372036854775807) (w : World) (hp : Pws w) : Calls Tryd.prog 4 #[.string s] w fun e w' => e = .returned (.tuple #[.agg #[.int .u64 (l0 (pv s)), .int .u64 (l1 (pv s)), .int .u64 (l2 (pv s)), .int .u64 (l3 (pv s))], .int .i64 (pe s)]) ∧ Below w.heap.size w w' := by
  by_cases h : DgA s ∧ s.size ≠ 0
  · by_cases h1 : 1 < s.size ∧ bt s 0 = 48
    · obtain ⟨e1, e2⟩ := pe_lead h h1
      rw [e1, e2]; exact parse_lead hs h h1 w
    · by_cases h2 : 78 < s.size
      · have h3 : bt s 0 ≠ 48 := fun e => h1 ⟨by omega, e⟩
        obtain ⟨e1, e2⟩ := pe_long h h1 (long_78 h.1 h3 h2)
        rw [e1, e2]; exact parse_78 hs h h3 h2 w
      · exact parse_some hs h h1 (by omega) w hp
  · obtain ⟨e1, e2⟩ := pe_digit h
    rw [e1, e2]; exact parse_digit hs h w
set_option maxRecDepth 100000 in
theorem rparse_none {s : ByteArray} (h0 : s.size = 0) (w : World) : Calls Tryd.prog 5 #[.string s] w fun e w' => e = .returned (.tuple #[.agg #[.int .u64 (l0 0), .int .u64 (l1 0), .int .u64 (l2 0), .int .u64 (l3 0)], .int .i64 12]) ∧ Below w.heap.size w w' := by
  have hb := build_zero
  obtain ⟨z0, z1, z2, z3⟩ := zero_limbs
  rw [z0, z1, z2, z3]
  clear z0 z1 z2 z3
  have q0 : ((s.size : Int) == 0) = true := by simp [h0]
  clear h0
  go_enter Tryd.func5, Tryd.ntmps5
  go_wp2
  simp [bodyPost, results, Tryd.results5, go_sem]
  repeat (first | with_reducible exact Below.refl _ _ | with_reducible refine Below.alloc ?_ (by first | omega | (simp; done) | (simp; omega)) _ | with_reducible refine Below.setCell ?_ (by first | omega | (simp; done)) _)
set_option maxRecDepth 100000 in
set_option maxHeartbeats 4000000 in
theorem rparse_some {s : ByteArray} (hs : s.size ≤ 9223372036854775807) (h0 : s.size ≠ 0) (w : World) : Calls Tryd.prog 5 #[.string s] w fun e w' => e = .returned (.tuple #[.agg #[.int .u64 (l0 (pv s)), .int .u64 (l1 (pv s)), .int .u64 (l2 (pv s)), .int .u64 (l3 (pv s))], .int .i64 (pe s)]) ∧ Below w.heap.size w w' := by
  have hb := build_zero
  have HS : Hid (s.size ≤ 9223372036854775807 ∧ s.size ≠ 0) := ⟨hs, h0⟩
  have q0 : ((s.size : Int) == 0) = false := by simpa using h0
  have p0 : 0 < s.size := by omega
  clear hs h0
  go_enter Tryd.func5, Tryd.ntmps5
  refine wp_seq_k fun K0 k0 => ?_
  have H0 : Hid _ := k0
  clear k0
  go_wp2
  refine H0.out _ _ ?_
  clear H0
  refine wp_seq_k fun K1 k1 => ?_
  have H1 : Hid _ := k1
  clear k1
  go_wp2
  refine H1.out _ _ ?_
  clear H1
  refine wp_seq_k fun K2 k2 => ?_
  have H2 : Hid _ := k2
  clear k2
  go_wp2
  refine H2.out _ _ ?_
  clear H2
  refine wp_world (fun W => Below w.heap.size w W ∧ Blank W w.heap.size ∧ Blank W (w.heap.size + 1)) ⟨((Below.refl _ _).alloc (Nat.le_refl _) _).alloc (by simp) _, (Blank.new rfl).alloc _, Blank.new (by simp)⟩ ?_
  rintro W hW
  have HW : Hid (Below w.heap.size w W ∧ Blank W w.heap.size ∧ Blank W (w.heap.size + 1)) := hW
  clear hW q0
  have nb : w.heap.size ≠ w.heap.size + 1 := by omega
  obtain ⟨z0, z1, z2, z3⟩ := zero_limbs
  have j0 := HW.out.2.1.1 0 (by simp); have j1 := HW.out.2.1.1 1 (by simp); have j2 := HW.out.2.1.1 2 (by simp); have j3 := HW.out.2.1.1 3 (by simp)
  obtain ⟨k0, k1, k2, k3⟩ := HW.out.2.1.2.cells4
  have i0 := HW.out.2.2.1 0 (by simp); have i1 := HW.out.2.2.1 1 (by simp); have i2 := HW.out.2.2.1 2 (by simp); have i3 := HW.out.2.2.1 3 (by simp)
  simp only [List.getD_cons_zero, List.getD_cons_succ] at j0 j1 j2 j3 i0 i1 i2 i3
  refine wp_seq_k fun K3 kk => ?_
  have H3 : Hid _ := kk
  clear kk
  go_wp2_with fail
  go_loopg [5] s.size (fun k iv wr => ∃ i : Nat, k = s.size - i ∧ i ≤ s.size ∧ iv = .int .i64 (i : Int) ∧ (∀ j, j < i → 48 ≤ bt s j ∧ bt s j ≤ 57) ∧ W = wr)
  case atStart => exact ⟨0, rfl, Nat.zero_le _, rfl, fun j hj => absurd hj (Nat.not_lt_zero _), rfl⟩
  case round =>
    obtain ⟨i, hk, hi, rfl, hall, rfl⟩ := hrel
    have HK : Hid (gk = s.size - i ∧ i ≤ s.size ∧ (∀ j, j < i → 48 ≤ bt s j ∧ bt s j ≤ 57)) := ⟨hk, hi, hall⟩
    clear hk hall hi
    by_cases h8 : i < s.size
    · have hx := get_bt h8
      have hw := wrap_up h8 HS.out.1
      by_cases c1 : bt s i < 48
      · have q1 : ((s[i]'h8).toNat : Int) < 48 := by rw [hx]; exact c1
        have HN : Hid (pe s = 12 ∧ pv s = 0) := pe_digit (fun h => by have := h.1 i h8; omega)
        clear hx c1
        go_wp2
        simp [bodyPost, results, Tryd.results5, go_sem, HN.out.1, HN.out.2, z0, z1, z2, z3, j0, j1, j2, j3]
        have B9 := HW.out.1; have gr : w.heap.size ≤ w.heap.size := Nat.le_refl _
        repeat (first | with_reducible exact B9 | with_reducible refine Below.setCell ?_ gr _)
      · have q1 : ¬ ((s[i]'h8).toNat : Int) < 48 := by rw [hx]; exact c1
        by_cases c2 : 57 < bt s i
        · have q2 : 57 < ((s[i]'h8).toNat : Int) := by rw [hx]; exact c2
          have HN : Hid (pe s = 12 ∧ pv s = 0) := pe_digit (fun h => by have := h.1 i h8; omega)
          clear hx c1 c2
          go_wp2
          simp [bodyPost, results, Tryd.results5, go_sem, HN.out.1, HN.out.2, z0, z1, z2, z3, j0, j1, j2, j3]
          have B9 := HW.out.1; have gr : w.heap.size ≤ w.heap.size := Nat.le_refl _
          repeat (first | with_reducible exact B9 | with_reducible refine Below.setCell ?_ gr _)
        · have q2 : ¬ 57 < ((s[i]'h8).toNat : Int) := by rw [hx]; exact c2
          have HD : Hid (48 ≤ bt s i ∧ bt s i ≤ 57) := ⟨by omega, by omega⟩
          clear hx c1 c2
          go_wp2
          go_roundg (s.size - (i + 1))
          case measure => have := HK.out.1; omega
          case rel =>
            refine ⟨i + 1, rfl, by omega, by rw [Int.natCast_add]; rfl, fun j hj => ?_, rfl⟩
            by_cases e : j = i
            · subst e; exact HD.out
            · exact HK.out.2.2 j (by omega)
    · have h8' : ¬ ((i : Int) < (s.size : Int)) := by omega
      have HA : Hid (DgA s) := fun j hj => HK.out.2.2 j (by have := HK.out.2.1; omega)
      go_wp2
      refine H3.out _ _ ?_
      clear H3
      refine wp_seq_k fun K4 kk => ?_
      have H4 : Hid _ := kk
      clear kk
      have hx := get_bt p0
      by_cases h1 : 1 < s.size ∧ bt s 0 = 48
      · obtain ⟨q1, q2⟩ := h1
        have HN : Hid (pe s = 13 ∧ pv s = 0) := pe_lead ⟨HA.out, HS.out.2⟩ ⟨q1, q2⟩
        rw [q2] at hx
        clear q2
        go_wp2
        simp [bodyPost, results, Tryd.results5, go_sem, HN.out.1, HN.out.2, z0, z1, z2, z3, j0, j1, j2, j3]
        have B9 := HW.out.1; have gr : w.heap.size ≤ w.heap.size := Nat.le_refl _
        repeat (first | with_reducible exact B9 | with_reducible refine Below.setCell ?_ gr _)
      · have two : (¬ 1 < s.size) ∨ (1 < s.size ∧ (((s[0]'p0).toNat : Int) == 48) = false) := by
          by_cases c : 1 < s.size
          · exact .inr ⟨c, by rw [hx]; simpa using fun e => h1 ⟨c, e⟩⟩
          · exact .inl c
        have HL : Hid (¬ (1 < s.size ∧ bt s 0 = 48)) := h1
        clear h1 hx
        rcases two with q1 | ⟨q1, q2⟩
        all_goals (
          go_wp2
          refine H4.out _ _ ?_
          clear H4
          refine wp_seq_k fun K5 kk => ?_
          have H5 : Hid _ := kk
          clear kk
          go_wp2
          refine H5.out _ _ ?_
          clear H5
          have lz : w.heap.size + 1 < W.heap.size := HW.out.2.2.1.lt (by simp)
          exact (rparse_tail HS.out.1 HA.out HS.out.2 HL.out w _ (br := w.heap.size) (bz := w.heap.size + 1) (bx := W.heap.size) ⟨HW.out.1.alloc HW.out.1.size _, HW.out.2.1.alloc _, HW.out.2.2.alloc _, Blank.zero (Blank.new rfl)⟩ (Nat.le_refl _) HW.out.1.size (by omega) (by omega) (by omega) _ _ _ _ _ _ _ _ _ _ _ _ _ _ _ _ _ _ _ _ _ _ _ _ _ _ _ _ _ _ _ _ _ _ _ _ _ _ _ _ _ _ _ _ _ _ _ _ _ _ _ _ _ _ _ _ _ _ _ _ _ _ _ _ _ _ _ _ _ _ _ _ _).out rfl)
/-- Parse of the document. -/
theorem rparse_all {s : ByteArray} (hs : s.size ≤ 9223372036854775807) (w : World) : Calls Tryd.prog 5 #[.string s] w fun e w' => e = .returned (.tuple #[.agg #[.int .u64 (l0 (pv s)), .int .u64 (l1 (pv s)), .int .u64 (l2 (pv s)), .int .u64 (l3 (pv s))], .int .i64 (pe s)]) ∧ Below w.heap.size w w' := by
  by_cases h : s.size = 0
  · obtain ⟨e1, e2⟩ := pe_digit (s := s) (fun h' => h'.2 h)
    rw [e1, e2]; exact rparse_none h w
  · exact rparse_some hs h w
end Go.Proofs.YtifenjinbjlfdaaDoor
