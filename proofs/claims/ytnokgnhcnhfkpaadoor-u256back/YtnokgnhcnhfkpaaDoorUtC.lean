import Derived.Test.YtnokgnhcnhfkpaaDoorUtB
namespace Go.Proofs.YtnokgnhcnhfkpaaDoor
open Go.RowKit Go.Sort

set_option maxRecDepth 100000 in
set_option maxHeartbeats 8000000 in
theorem parse_tail {s : ByteArray} (hA : DgA s) (h0 : s.size ≠ 0) (h1 : ¬ (1 < s.size ∧ bt s 0 = 48)) (w W : World) {br bx : Nat} (hX0 : Var W bx 0) (hB0 : Blank W br) (hW0 : Pws W) (hBel0 : Below w.heap.size w W) (gr : w.heap.size ≤ br) (gx : w.heap.size ≤ bx) (gp : 0 < w.heap.size) (ne : br ≠ bx) (t1 t5 t6 t7 t8 t9 t10 t11 t12 t13 t14 t15 t16 t17 t18 t19 t20 t21 t22 t23 t24 t25 t26 t27 t28 t29 t30 t31 t32 t33 t34 t35 t36 t37 t38 t39 t40 t41 t42 t43 t44 t45 t46 t47 t48 t49 t50 t51 : Value) :
    WpFrom Tryd.prog Tryd.f8 3 (bodyPost Tryd.prog Tryd.f8 fun e w' => e = .returned (.tuple #[.agg #[.int .u64 (l0 (pv s)), .int .u64 (l1 (pv s)), .int .u64 (l2 (pv s)), .int .u64 (l3 (pv s))], .int .i64 (pe s)]) ∧ Below w.heap.size w w') { tmps := #[.string s, t1, .pointer (some ⟨br, 0, none⟩), .int .i64 0, .pointer (some ⟨bx, 0, none⟩), t5, t6, t7, t8, t9, t10, t11, t12, t13, t14, t15, t16, t17, t18, t19, t20, t21, t22, t23, t24, t25, t26, t27, t28, t29, t30, t31, t32, t33, t34, t35, t36, t37, t38, t39, t40, t41, t42, t43, t44, t45, t46, t47, t48, t49, t50, t51], defers := [] } W := by
  refine WpFrom.intro rfl ?_
  have hb := build_zero
  have HP : Hid (DgA s ∧ s.size ≠ 0 ∧ ¬ (1 < s.size ∧ bt s 0 = 48)) := ⟨hA, h0, h1⟩
  have HG : Hid (w.heap.size ≤ br ∧ w.heap.size ≤ bx ∧ 0 < w.heap.size) := ⟨gr, gx, gp⟩
  have HZ : Hid (Var W bx 0 ∧ Blank W br ∧ Pws W ∧ Below w.heap.size w W) := ⟨hX0, hB0, hW0, hBel0⟩
  clear hA h0 h1 gr gx gp hX0 hB0 hW0 hBel0
  go_wp2_with fail
  go_loopg [0] s.size (fun k sv wr => ∃ i : Nat, k = s.size - i ∧ i ≤ s.size ∧ sv = .string (s.extract i s.size) ∧ dc s 0 i < 115792089237316195423570985008687907853269984665640564039457584007913129639936 ∧ Var wr bx (dc s 0 i) ∧ Blank wr br ∧ Pws wr ∧ Below w.heap.size w wr)
  case atStart => exact ⟨0, rfl, Nat.zero_le _, by rw [ext_zero], by rw [dc]; decide, HZ.out⟩
  case round =>
    clear HZ
    obtain ⟨i, hk, hi, rfl, hv, hX, hB, hW, hBel⟩ := hrel
    have HK : Hid (gk = s.size - i ∧ i ≤ s.size ∧ dc s 0 i < 115792089237316195423570985008687907853269984665640564039457584007913129639936) := ⟨hk, hi, hv⟩
    clear hk hi hv
    by_cases h8 : i < s.size
    · obtain ⟨t, Ht⟩ : ∃ t, Hid (t = s.extract i s.size) := ⟨_, rfl⟩
      have ts : t.size = s.size - i := by rw [Ht.out, ByteArray.size_extract]; omega
      have ht0 : 0 < t.size := by omega
      obtain ⟨n, hn⟩ : ∃ n : Nat, n = min 19 t.size := ⟨_, rfl⟩
      have em : min 19 (t.size : Int) = (n : Int) := by omega
      have n0 : 0 < n := by omega
      have n1 : n ≤ 19 := by omega
      have n2 : n ≤ t.size := by omega
      have n3 : i + n ≤ s.size := by omega
      have n1' : (n : Int) ≤ 19 := by omega
      have n1'' : (n : Int) < 20 := by omega
      have HN : Hid (0 < n ∧ n ≤ 19 ∧ i + n ≤ s.size) := ⟨n0, n1, n3⟩
      have vl := fun w => value_any (s := t.extract 0 n) (by rw [Ht.out, size_ext2 n3]; exact n1) (by rw [Ht.out]; exact dga_ext2 HP.out.1 n3) w
      rw [show dc (t.extract 0 n) 0 (t.extract 0 n).size = dc s i n by rw [Ht.out, size_ext2 n3, dc_ext2 n3]] at vl
      have eX : dc s 0 (i + n) = dc s 0 i * 10 ^ n + dc s i n := by rw [dc_split, Nat.zero_add]
      have wv : 0 ≤ dc s i n ∧ dc s i n < 10 ^ n := dc_low fun j hj => HP.out.1 _ (by omega)
      have pw : (10 : Int) ^ n ≤ 10 ^ 19 := pow_le10 n1
      have p19 : (10 : Int) ^ 19 = 10000000000000000000 := by decide
      have pp := pow_pos10 n
      have nX : Num (dc s 0 i) := ⟨(dc_at HP.out.1 HK.out.2.1).1, HK.out.2.2⟩
      have ml := fun w => mulAddLimb_any nX (m := 10 ^ n) (a := dc s i n) ⟨by omega, by omega⟩ ⟨by omega, by omega⟩ w
      rw [← eX] at ml
      rw [← Ht.out]
      have HS : Hid (Var wr bx (dc s 0 i) ∧ Blank wr br ∧ Pws wr ∧ Below w.heap.size w wr) := ⟨hX, hB, hW, hBel⟩
      obtain ⟨c0, c1, c2, c3⟩ := hX.1.cells
      have cP := hW n n1
      have HT : Hid (t.extract n t.size = s.extract (i + n) s.size) := by rw [Ht.out]; exact ext_ext n3
      clear hX hB hW hBel eX wv pw p19 pp nX n3 n1 hn ts n1' Ht
      generalize (10 : Int) ^ n = P at *
      generalize dc s i n = v at *
      obtain ⟨Y, HY⟩ : ∃ y, Hid (y = dc s 0 (i + n) % 115792089237316195423570985008687907853269984665640564039457584007913129639936) := ⟨_, rfl⟩
      obtain ⟨O, HO⟩ : ∃ y, Hid (y = dc s 0 (i + n) / 115792089237316195423570985008687907853269984665640564039457584007913129639936) := ⟨_, rfl⟩
      rw [← HY.out, ← HO.out] at ml
      go_wp2_with fail
      go_region_with (first | ((with_reducible refine (vl _).mono ?_); rintro e1 w1 ⟨rfl, rfl⟩) | ((with_reducible refine (ml _).mono ?_); rintro e1 w2 ⟨rfl, hb1⟩; (have hb9 : Below wr.heap.size wr w2 := ((Below.refl wr.heap.size wr).drew).trans hb1); (have HV : Hid (Var w2 bx (dc s 0 i) ∧ Blank w2 br ∧ Pws w2 ∧ Below w.heap.size w w2) := ⟨HS.out.1.keep hb9, HS.out.2.1.keep hb9, HS.out.2.2.1.keep hb9, HS.out.2.2.2.trans (hb9.mono HS.out.2.2.2.size)⟩); (obtain ⟨d0, d1, d2, d3⟩ := HV.out.1.1.cells); (obtain ⟨f0, f1, f2, f3⟩ := HV.out.1.2.cells4)))
      all_goals (
        by_cases co : dc s 0 (i + n) < 115792089237316195423570985008687907853269984665640564039457584007913129639936
        · have ed : O = 0 := by rw [HO.out]; exact Int.ediv_eq_zero_of_lt (dc_at HP.out.1 HN.out.2.2).1 co
          have er : Hid (Y = dc s 0 (i + n)) := by rw [HY.out]; exact Int.emod_eq_of_lt (dc_at HP.out.1 HN.out.2.2).1 co
          have HC : Hid (dc s 0 (i + n) < 115792089237316195423570985008687907853269984665640564039457584007913129639936) := co
          clear co HO HY
          subst ed
          go_wp2
          go_roundg (s.size - (i + n))
          case measure => have := HK.out.1; have := HN.out; omega
          case rel =>
            have ne2 : bx ≠ 0 := by have := HG.out; omega
            have gx := HG.out.2.1
            refine ⟨i + n, rfl, HN.out.2.2, by rw [HT.out], HC.out, ?_, ?_, ?_, ?_⟩
            · rw [← er.out]; exact HV.out.1.sets Y
            · exact HV.out.2.1.set4 ne.symm _ _ _ _
            · exact (((HV.out.2.2.1.set ne2 _).set ne2 _).set ne2 _).set ne2 _
            · exact (((HV.out.2.2.2.setCell gx _).setCell gx _).setCell gx _).setCell gx _
        · have ed : (O != 0) = true := by
            have h5 : (1 : Int) ≤ O := by rw [HO.out]; exact (Int.le_ediv_iff_mul_le (by decide)).2 (by omega)
            simp; omega
          have HR : Hid (pe s = 11 ∧ pv s = 0) := pe_long ⟨HP.out.1, HP.out.2.1⟩ HP.out.2.2 (fun hlt => co (Int.lt_of_le_of_lt (dc_mono HP.out.1 HN.out.2.2 (Nat.le_refl _)) hlt))
          clear co HO HY
          have j0 := HV.out.2.1.1 0 (by simp); have j1 := HV.out.2.1.1 1 (by simp); have j2 := HV.out.2.1.1 2 (by simp); have j3 := HV.out.2.1.1 3 (by simp)
          simp only [List.getD_cons_zero, List.getD_cons_succ] at j0 j1 j2 j3
          obtain ⟨k0, k1, k2, k3⟩ := HV.out.2.1.2.cells4
          obtain ⟨z0, z1, z2, z3⟩ := zero_limbs
          go_wp2
          simp [bodyPost, results, Tryd.results8, go_sem, HR.out.1, HR.out.2, z0, z1, z2, z3, j0, j1, j2, j3]
          have gx := HG.out.2.1
          have gr := HG.out.1
          have B9 := HV.out.2.2.2
          repeat (first | with_reducible exact B9 | with_reducible refine Below.setCell ?_ gx _ | with_reducible refine Below.setCell ?_ gr _))
    · obtain ⟨t, Ht⟩ : ∃ t, Hid (t = s.extract i s.size) := ⟨_, rfl⟩
      have ht0 : ¬ (0 < t.size) := by rw [Ht.out, ByteArray.size_extract]; omega
      have ei : i = s.size := by have := HK.out.2.1; omega
      rw [← Ht.out]
      have HR : Hid (pe s = 0 ∧ pv s = dc s 0 i) := by rw [ei]; exact pe_ok ⟨HP.out.1, HP.out.2.1⟩ HP.out.2.2 (by have := HK.out.2.2; rw [ei] at this; exact this)
      obtain ⟨c0, c1, c2, c3⟩ := hX.1.cells
      have j0 := hB.1 0 (by simp); have j1 := hB.1 1 (by simp); have j2 := hB.1 2 (by simp); have j3 := hB.1 3 (by simp)
      simp only [List.getD_cons_zero, List.getD_cons_succ] at j0 j1 j2 j3
      obtain ⟨k0, k1, k2, k3⟩ := hB.2.cells4
      clear h8 hX hB hW ei Ht
      generalize dc s 0 i = X at *
      go_wp2
      simp [bodyPost, results, Tryd.results8, go_sem, HR.out.1, HR.out.2, j0, j1, j2, j3]
      have gr := HG.out.1
      repeat (first | with_reducible exact hBel | with_reducible refine Below.setCell ?_ gr _)
end Go.Proofs.YtnokgnhcnhfkpaaDoor
