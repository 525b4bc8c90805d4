import Derived.Test.YtghfilmgnfheiaaHxD
namespace Go.Proofs.Ytghfilmgnfheiaa
open Go.RowKit Go.Sort

/-- The digits' values, from a cell on. -/
def Dl (W : World) (g : Nat) (t : ByteArray) : Prop := ∀ i, i < t.size → W.cell? ⟨g, i, none⟩ = some (.int .i64 (dv (bt t i)))
theorem Dl.keep {W W' : World} {g : Nat} {t : ByteArray} (h : Dl W g t) (hb : Below W.heap.size W W') : Dl W' g t := fun i hi => cellK hb (h i hi)
theorem dl_getD (t : ByteArray) {n i : Nat} (h : i < n) : (dl t n).getD i 0 = dv (bt t i) := by simp [dl, List.getD, List.getElem?_range h]
theorem rtail_lies {s : ByteArray} (hs : s.size < 1073741824) (h : okP s) (w : World) : Calls Try.prog 16 #[.string s] w fun e w' => ∃ a g c, e = .returned (.tuple #[.slice a (tl s).size c, .bool true]) ∧ ((tl s).size ≠ 0 → a = some ⟨g, 0, none⟩) ∧ Dl w' g (tl s) ∧ Below w.heap.size w w' :=
  (rtail_yes hs h w).mono fun e w' ⟨v, h1, h2, h3⟩ => by
    obtain ⟨a, g, c, rfl, h4, h5, _⟩ := h2.lies
    rw [dl_len] at h1 h5
    refine ⟨a, g, c, h1, fun hn => h4 fun e => hn (by rw [← dl_len (tl s) (tl s).size, e]; rfl), fun i hi => ?_, h3⟩
    rw [h5 i hi, dl_getD _ hi]
set_option maxRecDepth 100000 in
theorem rquan_no {s : ByteArray} {m : Int} (hs : s.size < 1073741824) (h : ¬ okP s) (w : World) :
    Calls Try.prog 19 #[.string s, .int .i64 m] w fun e w' => e = .returned (.tuple #[zero4, .int .i64 80]) ∧ Below w.heap.size w w' := by
  have ht := rtail_no hs h
  have o3 : w.heap.size ≤ w.heap.size := Nat.le_refl _
  unfold zero4
  clear h hs
  go_enter Try.func19, Try.ntmps19
  go_wp2_with ((with_reducible refine (ht _).mono ?_); rintro e1 w1 ⟨rfl, hb⟩; (have hR := (Qd.newb w 33).keep hb); (obtain ⟨d0, g0⟩ := hR 0 (by decide)); (obtain ⟨d1, g1⟩ := hR 1 (by decide)); (obtain ⟨d2, g2⟩ := hR 2 (by decide)); (obtain ⟨d3, g3⟩ := hR 3 (by decide)); (have B := ((Below.refl w.heap.size w).alloc (Nat.le_refl _) _).trans (hb.mono (by simp))); (clear hb hR))
  simp [bodyPost, results, Try.results19, go_sem, d0, d1, d2, d3]
  repeat (first | with_reducible exact B | with_reducible refine Below.setCell ?_ o3 _)
set_option maxRecDepth 100000 in
theorem rquan_none {s : ByteArray} {m : Int} (hs : s.size < 1073741824) (h : okP s) (h0 : (tl s).size = 0) (w : World) :
    Calls Try.prog 19 #[.string s, .int .i64 m] w fun e w' => e = .returned (.tuple #[zero4, .int .i64 80]) ∧ Below w.heap.size w w' := by
  have ht := rtail_lies hs h
  have o3 : w.heap.size ≤ w.heap.size := Nat.le_refl _
  unfold zero4
  clear h hs
  generalize tl s = t at *
  have q0 : ((t.size : Int) == 0) = true := by simp [h0]
  go_enter Try.func19, Try.ntmps19
  go_wp2_with ((with_reducible refine (ht _).mono ?_); rintro e1 w1 ⟨ao, g, cp, rfl, ha, hD, hb⟩; (have hR := (Qd.newb w 33).keep hb); (obtain ⟨d0, g0⟩ := hR 0 (by decide)); (obtain ⟨d1, g1⟩ := hR 1 (by decide)); (obtain ⟨d2, g2⟩ := hR 2 (by decide)); (obtain ⟨d3, g3⟩ := hR 3 (by decide)); (have B := ((Below.refl w.heap.size w).alloc (Nat.le_refl _) _).trans (hb.mono (by simp))); (clear hb hR); (have l0 := hD 0); (clear hD))
  simp [bodyPost, results, Try.results19, go_sem, d0, d1, d2, d3]
  repeat (first | with_reducible exact B | with_reducible refine Below.setCell ?_ o3 _)
set_option maxRecDepth 100000 in
theorem rquan_zero {s : ByteArray} {m : Int} (hs : s.size < 1073741824) (h : okP s) (h0 : 1 < (tl s).size) (hz : dv (bt (tl s) 0) = 0) (w : World) :
    Calls Try.prog 19 #[.string s, .int .i64 m] w fun e w' => e = .returned (.tuple #[zero4, .int .i64 82]) ∧ Below w.heap.size w w' := by
  have ht := rtail_lies hs h
  have o3 : w.heap.size ≤ w.heap.size := Nat.le_refl _
  unfold zero4
  clear h hs
  generalize tl s = t at *
  have q0 : ((t.size : Int) == 0) = false := by rw [beq_eq_false_iff_ne]; omega
  have q1 : (1 : Int) < (t.size : Int) := by omega
  go_enter Try.func19, Try.ntmps19
  go_wp2_with ((with_reducible refine (ht _).mono ?_); rintro e1 w1 ⟨ao, g, cp, rfl, ha, hD, hb⟩; (have hR := (Qd.newb w 33).keep hb); (obtain ⟨d0, g0⟩ := hR 0 (by decide)); (obtain ⟨d1, g1⟩ := hR 1 (by decide)); (obtain ⟨d2, g2⟩ := hR 2 (by decide)); (obtain ⟨d3, g3⟩ := hR 3 (by decide)); (have B := ((Below.refl w.heap.size w).alloc (Nat.le_refl _) _).trans (hb.mono (by simp))); (clear hb hR); (obtain rfl := ha (by omega)); (have l0 := hD 0 (by omega)); (clear hD ha); (rw [hz] at l0))
  simp [bodyPost, results, Try.results19, go_sem, d0, d1, d2, d3]
  repeat (first | with_reducible exact B | with_reducible refine Below.setCell ?_ o3 _)
set_option maxRecDepth 100000 in
theorem rquan_wide {s : ByteArray} {m : Nat} (hs : s.size < 1073741824) (h : okP s) (h0 : m < (tl s).size) (h1 : 1 ≤ m) (hz : dv (bt (tl s) 0) ≠ 0) (w : World) :
    Calls Try.prog 19 #[.string s, .int .i64 m] w fun e w' => e = .returned (.tuple #[zero4, .int .i64 83]) ∧ Below w.heap.size w w' := by
  have ht := rtail_lies hs h
  have o3 : w.heap.size ≤ w.heap.size := Nat.le_refl _
  unfold zero4
  clear h hs
  generalize tl s = t at *
  have q0 : ((t.size : Int) == 0) = false := by rw [beq_eq_false_iff_ne]; omega
  have q1 : (1 : Int) < (t.size : Int) := by omega
  have q2 : (dv (bt t 0) == 0) = false := by simpa using hz
  go_enter Try.func19, Try.ntmps19
  go_wp2_with ((with_reducible refine (ht _).mono ?_); rintro e1 w1 ⟨ao, g, cp, rfl, ha, hD, hb⟩; (have hR := (Qd.newb w 33).keep hb); (obtain ⟨d0, g0⟩ := hR 0 (by decide)); (obtain ⟨d1, g1⟩ := hR 1 (by decide)); (obtain ⟨d2, g2⟩ := hR 2 (by decide)); (obtain ⟨d3, g3⟩ := hR 3 (by decide)); (have B := ((Below.refl w.heap.size w).alloc (Nat.le_refl _) _).trans (hb.mono (by simp))); (clear hb hR); (obtain rfl := ha (by omega)); (have l0 := hD 0 (by omega)); (clear hD ha))
  simp [bodyPost, results, Try.results19, go_sem, d0, d1, d2, d3]
  repeat (first | with_reducible exact B | with_reducible refine Below.setCell ?_ o3 _)
set_option maxRecDepth 100000 in
set_option maxHeartbeats 4000000 in
theorem rquan_ok {s : ByteArray} {m : Nat} (hs : s.size < 1073741824) (h : okP s) (h0 : (tl s).size ≠ 0) (hz : ¬ (1 < (tl s).size ∧ dv (bt (tl s) 0) = 0)) (hw : (tl s).size ≤ m) (hm : m ≤ 64) (w : World) :
    Calls Try.prog 19 #[.string s, .int .i64 m] w fun e w' => e = .returned (.tuple #[lim4 (qs (tl s) (tl s).size), .int .i64 0]) ∧ Below w.heap.size w w' := by
  have ht := rtail_lies hs h
  have hd := h.2.2
  clear h hs
  generalize tl s = t at *
  have q0 : ((t.size : Int) == 0) = false := by simpa using h0
  have two : (¬ (1 : Int) < (t.size : Int)) ∨ ((1 : Int) < (t.size : Int) ∧ (dv (bt t 0) == 0) = false) := by
    by_cases h1 : 1 < t.size
    · exact .inr ⟨by omega, by simpa using fun e => hz ⟨h1, e⟩⟩
    · exact .inl (by omega)
  have q4 : ¬ m < t.size := by omega
  have q5 : 0 < t.size := by omega
  have HA : Hid (dgs t ∧ t.size ≤ 64) := ⟨hd, by omega⟩
  clear h0 hz hw hm hd
  rcases two with q1 | ⟨q1, q2⟩
  all_goals (
   go_enter Try.func19, Try.ntmps19
   go_wp2_with ((with_reducible refine (ht _).mono ?_); rintro e1 w1 ⟨ao, g, cp, rfl, ha, hD, hb⟩; (have hR := (Qd.newb w 33).keep hb); (obtain ⟨d0, g0⟩ := hR 0 (by decide)); (obtain ⟨d1, g1⟩ := hR 1 (by decide)); (obtain ⟨d2, g2⟩ := hR 2 (by decide)); (obtain ⟨d3, g3⟩ := hR 3 (by decide)); (have B := ((Below.refl w.heap.size w).alloc (Nat.le_refl _) _).trans (hb.mono (by simp))); (obtain rfl := ha (by omega)); (have l0 := hD 0 q5); (have HW : Hid (Qd w1 w.heap.size [0, 0, 0, 0] ∧ Dl w1 g t ∧ Below w.heap.size w w1) := ⟨hR, hD, B⟩); (clear hb hR hD ha B))
   clear q0 q1 q4 ht
   go_loopg [9] t.size (fun k iv wr => ∃ i : Nat, k = t.size - i ∧ i ≤ t.size ∧ iv = .int .i64 (i : Int) ∧ Qd wr w.heap.size [0, 0, 0, 0] ∧ Qd wr w1.heap.size (qs t i) ∧ Dl wr g t ∧ Below w.heap.size w wr)
   case atStart => exact ⟨0, rfl, Nat.zero_le _, rfl, HW.out.1.alloc _, Qd.newb _ _, HW.out.2.1.keep ((Below.refl _ _).alloc (Nat.le_refl _) _), HW.out.2.2.alloc HW.out.2.2.size _⟩
   have bg : g < w1.heap.size := World.block_lt_of_cell? _ _ l0
   have br : w.heap.size < w1.heap.size := World.block_lt_of_cell? _ _ d0
   clear d0 d1 d2 d3 g0 g1 g2 g3 l0 HW
   case round =>
    obtain ⟨i, hk, hi, rfl, hR, hQ, hD, B⟩ := hrel
    have HK : Hid (gk = t.size - i) := hk
    clear hk
    by_cases h8 : i = t.size
    · subst h8
      have hlt : ¬ t.size < t.size := by omega
      obtain ⟨c0, f0⟩ := hQ 0 (by omega); obtain ⟨c1, f1⟩ := hQ 1 (by omega); obtain ⟨c2, f2⟩ := hQ 2 (by omega); obtain ⟨c3, f3⟩ := hQ 3 (by omega)
      obtain ⟨d0, g0⟩ := hR 0 (by omega); obtain ⟨d1, g1⟩ := hR 1 (by omega); obtain ⟨d2, g2⟩ := hR 2 (by omega); obtain ⟨d3, g3⟩ := hR 3 (by omega)
      clear hR hQ hi hD
      obtain ⟨C0, HC0⟩ : ∃ x, Hid (x = (qs t t.size).getD 0 0) := ⟨_, rfl⟩
      obtain ⟨C1, HC1⟩ : ∃ x, Hid (x = (qs t t.size).getD 1 0) := ⟨_, rfl⟩
      obtain ⟨C2, HC2⟩ : ∃ x, Hid (x = (qs t t.size).getD 2 0) := ⟨_, rfl⟩
      obtain ⟨C3, HC3⟩ : ∃ x, Hid (x = (qs t t.size).getD 3 0) := ⟨_, rfl⟩
      rw [← HC0.out] at c0; rw [← HC1.out] at c1; rw [← HC2.out] at c2; rw [← HC3.out] at c3
      have HL : Hid (lim4 (qs t t.size) = .agg #[.int .u64 C0, .int .u64 C1, .int .u64 C2, .int .u64 C3]) := by rw [HC0.out, HC1.out, HC2.out, HC3.out]; exact rfl
      clear HC0 HC1 HC2 HC3
      have nb : w.heap.size ≠ w1.heap.size := by omega
      go_wp2
      simp [bodyPost, results, Try.results19, go_sem, HL.out, d0, d1, d2, d3]
      have o3 : w.heap.size ≤ w.heap.size := Nat.le_refl _
      repeat (first | with_reducible exact B | with_reducible refine Below.setCell ?_ o3 _)
    · have hlt : i < t.size := by omega
      obtain ⟨k, ek⟩ : ∃ k : Nat, k = t.size - 1 - i := ⟨_, rfl⟩
      have k64 : k < 64 := by have := HA.out.2; omega
      have k64' : (k : Int) < 64 := by omega
      have e0 : (t.size : Int) - 1 - (i : Int) = (k : Int) := by omega
      have n64 : (t.size : Int) ≤ 64 := by have := HA.out.2; omega
      have n1 : 1 ≤ (t.size : Int) := by omega
      have i64 : (i : Int) < 64 := by omega
      have e1 : ((k : Int) / 16).toNat = k / 16 := by omega
      have e2 : (4 * ((k : Int) % 16)).toNat = 4 * (k % 16) := by omega
      obtain ⟨cQ, fQ⟩ := hQ (k / 16) (by omega)
      have ldY : ∀ d os, (Sort.grow (redrawn wr d) os).cell? ⟨w1.heap.size, k / 16, none⟩ = some (.int .u64 ((qs t i).getD (k / 16) 0)) := fun d os => cellK (below_regrown wr d os) cQ
      have ldD : ∀ d os, (Sort.grow (redrawn wr d) os).cell? ⟨g, i, none⟩ = some (.int .i64 (dv (bt t i))) := fun d os => cellK (below_regrown wr d os) (hD i hlt)
      obtain ⟨v0, v1⟩ : 0 ≤ dv (bt t i) ∧ dv (bt t i) ≤ 15 := ⟨HA.out.1 i hlt, (dv_low _).2⟩
      have HQ : Hid (Qd wr w.heap.size [0, 0, 0, 0] ∧ Qd wr w1.heap.size (qs t i) ∧ Dl wr g t ∧ Below w.heap.size w wr) := ⟨hR, hQ, hD, B⟩
      have HS : Hid (k = t.size - 1 - i) := ek
      clear hR hQ B ek cQ fQ hD
      obtain ⟨C, HC⟩ : ∃ x, Hid (x = (qs t i).getD (k / 16) 0) := ⟨_, rfl⟩
      rw [← HC.out] at ldY
      obtain ⟨x, HX⟩ : ∃ x, Hid (x = dv (bt t i)) := ⟨_, rfl⟩
      rw [← HX.out] at ldD v0 v1
      go_wp2_with fail
      refine below_tail 18 (by kernel_rfl) (by kernel_rfl) ?_
      simp only [List.take_succ_cons, List.take_zero, List.drop_succ_cons, List.drop_zero]
      repeat (first | go_big_quiet_skip | (go_big_quiet_want; go_big_quiet_op; go_big_quiet_on))
      refine wpQuiet_nil ?_
      rintro w2 ⟨p, rfl⟩
      have hb := below_regrown wr p.d p.os
      have hR := HQ.out.1.keep hb
      have hQ := HQ.out.2.1.keep hb
      have hD := HQ.out.2.2.1.keep hb
      have B := HQ.out.2.2.2.trans (hb.mono HQ.out.2.2.2.size)
      clear hb ldY ldD HQ
      generalize Sort.grow (redrawn wr p.d) p.os = w2 at *
      obtain ⟨cQ, fQ⟩ := hQ (k / 16) (by omega)
      go_wp2
      have hS : qs t (i + 1) = (qs t i).set (k / 16) (bits .or .u64 C (IntKind.u64.wrap (x * 2 ^ (4 * (k % 16))))) := by
        rw [dig_wrap v0 v1 (Nat.mod_lt _ (by decide)), HX.out, HC.out, HS.out, qs]
      go_roundg (t.size - (i + 1))
      case measure => have := HK.out; omega
      case rel => exact ⟨i + 1, rfl, by omega, by rw [Int.natCast_add]; rfl, hR.other (by omega), by rw [hS]; exact hQ.set (by omega) (qs_len t i), fun j hj => by rw [World.cell?_setCell_other _ _ _ _ (fun x => absurd (congrArg Addr.block x) (by simp; omega))]; exact hD j hj, B.setCell (by simp; omega) _⟩)
end Go.Proofs.Ytghfilmgnfheiaa
