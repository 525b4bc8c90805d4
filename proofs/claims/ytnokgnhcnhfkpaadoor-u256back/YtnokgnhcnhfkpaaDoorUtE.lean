import Derived.Test.YtnokgnhcnhfkpaaDoorUtD
namespace Go.Proofs.YtnokgnhcnhfkpaaDoor
open Go.RowKit Go.Sort

theorem slice_95 {b p : Nat} (hp : p < 95) (w : World) : (Instr.sliceAt 43 (.pointer (some ⟨b, 0, none⟩)) (some (.int .i64 (p : Int))) none none).run Tryd.prog w = .ok (.slice (some ⟨b, p, none⟩) (95 - p) (95 - p)) w := by
  have tu := Tryd.underlying43
  have tz := Tryd.sizeOf5
  have hb : (Instr.sliceBounds false 95 95 (some (.int .i64 (p : Int))) none none).run Tryd.prog w = .ok (p, 95, 95) w := by
    have h1 : (p : Int) ≤ 95 := by omega
    simp [Instr.sliceBounds, go_sem, h1]
  have hz : (sizeOf 5).run Tryd.prog w = .ok 1 w := by simp [go_sem, tz]
  simp only [Instr.sliceAt, Instr.sureAddr, Sem.run_bind, Sem.run_pure, Result.andThen_ok, run_underlying tu, hb, hz]
  rw [if_neg (by omega)]
  simp [Addr.add]
  (try omega)
theorem Hold.setOther1 {W : World} {b b' i : Nat} {n : Int} (h : Hold W b n) (ne : b' ≠ b) (v : Value) : Hold (W.setCell ⟨b', i, none⟩ v) b n := (h.row.setOther ne v).hold
/-- What stands: the number that is left, the digits, the table. -/
def Txt (w wr : World) (bx bd : Nat) (y : Int) (l : List Int) : Prop := Var wr bx y ∧ Bts wr bd l ∧ Pws wr ∧ Below w.heap.size w wr
theorem Txt.keep {w wr w2 : World} {bx bd : Nat} {y : Int} {l : List Int} (h : Txt w wr bx bd y l) (hl : l.length = 95) (hb : Below wr.heap.size wr w2) : Txt w w2 bx bd y l :=
  ⟨h.1.keep hb, h.2.1.keep (by omega) hb, h.2.2.1.keep hb, h.2.2.2.trans (hb.mono h.2.2.2.size)⟩
set_option maxRecDepth 100000 in
set_option maxHeartbeats 8000000 in
theorem text_walk {x : Int} {k : Nat} (hx : Num x) (hk : IsLen x k) (hk2 : k ≤ 78) (w : World) (hp : Pws w) : Calls Tryd.prog 9 #[.agg #[.int .u64 (l0 x), .int .u64 (l1 x), .int .u64 (l2 x), .int .u64 (l3 x)]] w fun e w' => e = .returned (.string ⟨(tx x k).toArray⟩) ∧ Below w.heap.size w w' := by
  obtain ⟨z, hz1, hz⟩ := zero95
  have HX : Hid (Num x ∧ IsLen x k ∧ k ≤ 78) := ⟨hx, hk, hk2⟩
  have HP : Hid (Pws w) := hp
  clear hx hk hk2 hp
  go_enter Tryd.func9, Tryd.ntmps9
  go_wp2_with (refine wpList_alloc0 rfl 43 rfl _ hz ?_)
  refine wp_world (fun W => Txt w W w.heap.size (w.heap.size + 1) x z) ⟨(Var.new rfl).alloc _, Bts.new z _ (by simp), (HP.out.alloc _).alloc _, ((Below.refl _ _).alloc (Nat.le_refl _) _).alloc (by simp) _⟩ ?_
  intro W hT
  have HG : Hid (w.heap.size ≤ w.heap.size + 1 ∧ 0 < w.heap.size) := ⟨by omega, HP.out.lt⟩
  have nbd : w.heap.size + 1 ≠ w.heap.size := by omega
  generalize w.heap.size + 1 = bd at *
  obtain ⟨bx, ebx⟩ : ∃ b, b = w.heap.size := ⟨_, rfl⟩
  have HT : Hid (Txt w W bx bd x z ∧ bx = w.heap.size) := ⟨by rw [ebx]; exact hT, ebx⟩
  rw [← ebx] at nbd ⊢
  clear hT ebx HP hz
  go_wp2_with fail
  go_loopg [4] 5 (fun g ev wr => ∃ (j : Nat) (l : List Int), g = 5 - j ∧ j ≤ 5 ∧ ev = .int .i64 (94 - 19 * (j : Int)) ∧ Fld x (19 * j) l ∧ Txt w wr bx bd (x / 10 ^ (19 * j)) l)
  case atStart => exact ⟨0, z, rfl, by decide, rfl, ⟨hz1.out, fun p hp => absurd hp (Nat.not_lt_zero _)⟩, by rw [Nat.mul_zero, Int.pow_zero, Int.ediv_one]; exact HT.out.1⟩
  case round =>
    clear hz1
    obtain ⟨j, l, hk, hj, rfl, hF, hT⟩ := hrel
    have HK : Hid (gk = 5 - j ∧ j ≤ 5 ∧ Fld x (19 * j) l ∧ Txt w wr bx bd (x / 10 ^ (19 * j)) l) := ⟨hk, hj, hF, hT⟩
    clear hk
    by_cases h8 : j < 5
    · obtain ⟨en, hen⟩ : ∃ en : Nat, 94 - 19 * (j : Int) = (en : Int) := ⟨94 - 19 * j, by omega⟩
      have HE : Hid (94 - 19 * (j : Int) = (en : Int) ∧ j < 5) := ⟨hen, h8⟩
      rw [hen]
      have en0 : (0 : Int) < (en : Int) := by omega
      have en1 : (en : Int) ≤ 94 := by omega
      have ny : Num (x / 10 ^ (19 * j)) := by
        have p := pow_pos10 (19 * j)
        refine ⟨Int.ediv_nonneg HX.out.1.1 (by omega), Int.lt_of_le_of_lt (Int.ediv_le_self _ HX.out.1.1) HX.out.1.2⟩
      have dl := fun w => divLimb_any ny (d := 10000000000000000000) ⟨by decide, by decide⟩ (by decide) w
      obtain ⟨c0, c1, c2, c3⟩ := hT.1.1.cells
      have cP := hT.2.2.1 19 (Nat.le_refl _)
      rw [show (10 : Int) ^ 19 = 10000000000000000000 by decide] at cP
      clear hF hT hen hj h8
      obtain ⟨Y, HY⟩ : ∃ y, Hid (y = x / 10 ^ (19 * j) / 10000000000000000000) := ⟨_, rfl⟩
      obtain ⟨R, HR⟩ : ∃ y, Hid (y = x / 10 ^ (19 * j) % 10000000000000000000) := ⟨_, rfl⟩
      rw [← HY.out, ← HR.out] at dl
      clear ny
      go_wp2_with fail
      with_reducible refine (dl _).mono ?_
      rintro e1 w2 ⟨rfl, hb9⟩
      have HV : Hid (Txt w w2 bx bd (x / 10 ^ (19 * j)) l) := HK.out.2.2.2.keep HK.out.2.2.1.1 hb9
      obtain ⟨d0, d1, d2, d3⟩ := HV.out.1.1.cells
      obtain ⟨f0, f1, f2, f3⟩ := HV.out.1.2.cells4
      clear hb9 dl c0 c1 c2 c3 cP
      go_wp2_with fail
      refine wp_world (fun W => Txt w W bx bd Y l) ⟨HV.out.1.sets Y, ?_, ?_, ?_⟩ ?_
      · exact (((HV.out.2.1.other nbd.symm _).other nbd.symm _).other nbd.symm _).other nbd.symm _
      · have ne2 : bx ≠ 0 := by have := HT.out.2; have := HG.out.2; omega
        exact (((HV.out.2.2.1.set ne2 _).set ne2 _).set ne2 _).set ne2 _
      · have gx : w.heap.size ≤ bx := by have := HT.out.2; omega
        exact (((HV.out.2.2.2.setCell gx _).setCell gx _).setCell gx _).setCell gx _
      clear d0 d1 d2 d3 f0 f1 f2 f3 HV w2
      intro w3 hT
      go_loopg [19] 19 (fun g iv wq => ∃ (i : Nat) (m : List Int), g = 19 - i ∧ i ≤ 19 ∧ iv = .int .i64 (i : Int) ∧ Fld x (19 * j + i) m ∧ Txt w wq bx bd Y m)
      case atStart => exact ⟨0, l, rfl, by decide, rfl, HK.out.2.2.1, hT⟩
      case round =>
        clear hT
        obtain ⟨i, m, hk, hi, rfl, hF, hT⟩ := hrel
        have HI : Hid (gk = 19 - i ∧ i ≤ 19 ∧ Fld x (19 * j + i) m ∧ Txt w wr bx bd Y m) := ⟨hk, hi, hF, hT⟩
        clear hk hi
        by_cases h9 : i < 19
        · have hi1 : (i : Int) < 19 := by omega
          have hi2 : (i : Int) < 20 := by omega
          obtain ⟨q, hq⟩ : ∃ q : Nat, (en : Int) - (i : Int) = (q : Int) := ⟨en - i, by have := HE.out; omega⟩
          have q95 : q < 95 := by omega
          have q95' : (q : Int) < 95 := by omega
          have HQ : Hid (q = 94 - (19 * j + i)) := by have := HE.out; show q = _; omega
          have cd := hT.2.1.1 q (by rw [hF.1]; exact q95)
          have fd := hT.2.1.2 q (by rw [hF.1]; exact q95)
          have cp := hT.2.2.1 i (by omega)
          have HD : Hid (48 + R / 10 ^ i % 10 = 48 + x / 10 ^ (19 * j + i) % 10) := by
            rw [HR.out, show (10000000000000000000 : Int) = 10 ^ 19 by decide, chunk_digit _ h9, div_pow]; exact rfl
          have p0 := pow_pos10 i
          have pn : ((10 : Int) ^ i == 0) = false := by simp; omega
          have pz : ¬ (10 : Int) ^ i = 0 := by omega
          have r0 : 0 ≤ R := by rw [HR.out]; omega
          have r1 : R < 18446744073709551616 := by rw [HR.out]; omega
          have u0 : 0 ≤ R / 10 ^ i := Int.ediv_nonneg r0 (by omega)
          have u1 : R / 10 ^ i < 18446744073709551616 := Int.lt_of_le_of_lt (Int.ediv_le_self _ r0) r1
          clear hF hT
          generalize (10 : Int) ^ i = P at *
          go_wp2
          go_roundg (19 - (i + 1))
          case measure => have := HI.out.1; omega
          case rel =>
            refine ⟨i + 1, m.set q (48 + R / P % 10), rfl, by omega, by rw [Int.natCast_add]; rfl, ?_, ?_, ?_, ?_, ?_⟩
            · exact HI.out.2.2.1.next (by have := HE.out; omega) HQ.out HD.out
            · exact ⟨HI.out.2.2.2.1.1.setOther1 nbd _, HI.out.2.2.2.1.2.set _ _⟩
            · exact HI.out.2.2.2.2.1.set q (by rw [HI.out.2.2.1.1]; exact q95) _
            · exact HI.out.2.2.2.2.2.1.set (by have := HG.out; show bd ≠ _; omega) _
            · exact HI.out.2.2.2.2.2.2.setCell HG.out.1 _
        · have h9' : ¬ (i : Int) < 19 := by omega
          obtain rfl : i = 19 := by have := HI.out.2.1; omega
          have h19 : ¬ ((19 : Nat) : Int) < 19 := by decide
          clear h9 h9' hF hT
          have HJ : Hid ((en : Int) - 19 = 94 - 19 * ((j + 1 : Nat) : Int)) := by have := HE.out.1; show _ = _; omega
          go_wp2
          go_roundg (5 - (j + 1))
          case measure => have := HK.out.1; have := HE.out.2; omega
          case rel =>
            refine ⟨j + 1, m, rfl, by have := HE.out.2; omega, by rw [HJ.out], HI.out.2.2.1, ?_⟩
            have e : x / 10 ^ (19 * (j + 1)) = Y := by rw [HY.out, show (10000000000000000000 : Int) = 10 ^ 19 by decide, div_pow, Nat.mul_add]
            rw [e]; exact HI.out.2.2.2
    · obtain rfl : j = 5 := by omega
      have e5 : (94 : Int) - 19 * ((5 : Nat) : Int) = -1 := by decide
      rw [e5]
      clear h8 hj e5
      go_wp2_with fail
      go_loopg [7] (95 - k) (fun g fv wq => ∃ f : Nat, g = 95 - k - f ∧ f ≤ 95 - k ∧ fv = .int .i64 (f : Int) ∧ wr = wq)
      case atStart => exact ⟨0, rfl, Nat.zero_le _, rfl, rfl⟩
      case round =>
        obtain ⟨f, hk, hf, rfl, rfl⟩ := hrel
        have HF : Hid (gk = 95 - k - f ∧ f ≤ 95 - k) := ⟨hk, hf⟩
        obtain ⟨hNx, hLn, h78⟩ := HX.out
        have k1 := hLn.1
        have f94 : (f : Int) ≤ 94 := by omega
        have f95 : (f : Int) < 95 := by omega
        have cf := hT.2.1.1 f (by rw [hF.1]; omega)
        by_cases h9 : f < 95 - k
        · have f1 : (f : Int) < 94 := by omega
          rw [hF.ahead hLn h9] at cf
          clear hF hT hLn hNx k1 h78 hk hf
          go_wp2
          go_roundg (95 - k - (f + 1))
          case measure => have := HF.out.1; omega
          case rel => exact ⟨f + 1, rfl, by omega, by rw [Int.natCast_add]; rfl, rfl⟩
        · have ef : f = 95 - k := by omega
          have e1 : 95 - f = k := by omega
          have hc : ∀ j (hj : j < (tx x k).length), wr.cell? ((⟨bd, f, none⟩ : Addr).add j) = some (.int .u8 (((tx x k)[j]'hj).toNat : Int)) := fun j hj => by
            rw [tx_len] at hj
            have h1 := hT.2.1.1 (f + j) (by rw [hF.1]; omega)
            have h2 := hF.cells k1 h78 hj
            rw [ef] at h1 ⊢
            rw [h2] at h1
            have ea : (⟨bd, 95 - k, none⟩ : Addr).add j = ⟨bd, 95 - k + j, none⟩ := by
              unfold Addr.add
              split
              · rename_i e0; subst e0; rfl
              · rfl
            rw [ea, h1, List.getD, List.getElem?_eq_getElem (by rw [tx_len]; exact hj), Option.getD_some]
          have cv := fun cap => run_convert_bytes_back (P := Tryd.prog) wr 25 9 5 ⟨bd, f, none⟩ cap (tx x k) Tryd.underlying25 Tryd.underlying5 Tryd.underlying9 hc
          rw [tx_len] at cv
          have HB : Hid (Below w.heap.size w wr) := hT.2.2.2
          have sv := slice_95 (b := bd) (p := f) (by omega)
          rw [e1] at sv
          obtain ⟨D, HD⟩ : ∃ d, Hid (d = l.getD f 0) := ⟨_, rfl⟩
          have two : (¬ (f : Int) < 94) ∨ ((f : Int) < 94 ∧ ((D == 48) = false)) := by
            by_cases c : 1 < k
            · exact .inr ⟨by omega, by rw [beq_eq_false_iff_ne, HD.out, ef]; exact hF.first hNx.1 hLn c h78⟩
            · exact .inl (by omega)
          rw [← HD.out] at cf
          clear hF hT hLn hNx k1 h78 hk hf hc h9 ef
          rcases two with t1 | ⟨t1, t2⟩
          all_goals (
            go_wp2
            go_ret
            exact ⟨rfl, HB.out⟩)
end Go.Proofs.YtnokgnhcnhfkpaaDoor
