import Derived.Test.YtghfilmgnfheiaaHxE
namespace Go.Proofs.Ytghfilmgnfheiaa
open Go.RowKit Go.Sort

theorem dv_zero {c : Int} : dv c = 0 ↔ c = 48 := by
  unfold dv; split <;> (try split) <;> (try split) <;> omega
def Q4 (a b c d : Int) : Value := .agg #[.int .u64 a, .int .u64 b, .int .u64 c, .int .u64 d]
theorem Qd.newv (w : World) (t : TypeId) (a b c d : Int) : Qd (w.alloc (.cells #[.int .u64 a, .int .u64 b, .int .u64 c, .int .u64 d] t)) w.heap.size [a, b, c, d] := fun j hj => by
  have : j = 0 ∨ j = 1 ∨ j = 2 ∨ j = 3 := by omega
  rcases this with rfl | rfl | rfl | rfl
  all_goals exact ⟨by simp [go_sem], by simp [go_sem]⟩
theorem callsH {P : Program} {f : FuncId} {args : Array Value} {w : World} {R : Ending → World → Prop} (S : World → Prop) (h : S w) (k : ∀ W, S W → Calls P f args W R) : Calls P f args w R := k w h
theorem eqH (a0 a1 a2 a3 b0 b1 b2 b3 : Int) (w : World) : (Op.equalIn 10000 33 (.agg #[.int .u64 a0, .int .u64 a1, .int .u64 a2, .int .u64 a3]) (.agg #[.int .u64 b0, .int .u64 b1, .int .u64 b2, .int .u64 b3])).run Try.prog w = .ok (a0 == b0 && (a1 == b1 && (a2 == b2 && a3 == b3))) w := by
  have tu := Try.underlying31
  have ta := Try.isAgg31
  have tz := Try.sizeOf31
  rw [show (10000 : Nat) = 9999 + 1 from rfl, Op.equalIn]
  simp only [Sem.run_bind, run_underlying Try.underlying33, Result.andThen_ok]
  simp only [Std.Legacy.Range.forIn_eq_forIn_range', Std.Legacy.Range.size, Nat.sub_zero, Nat.add_sub_cancel, Nat.div_one, List.range'_succ, List.range'_zero, List.forIn_cons, List.forIn_nil]
  go_simp
  by_cases h1 : a0 = b0 <;> by_cases h2 : a1 = b1 <;> by_cases h3 : a2 = b2 <;> by_cases h4 : a3 = b3 <;> simp [h1, h2, h3, h4]
/-- The program's quantity and the document's answer alike. -/
theorem quan_both (s : ByteArray) (hs : s.size < 1073741824) (m : Nat) (m1 : 1 ≤ m) (m2 : m ≤ 64) : ∃ a b c d e : Int,
    (∀ w, Calls Try.prog 18 #[.string s, .int .i64 m] w fun r w' => r = .returned (.tuple #[.agg #[.int .u64 a, .int .u64 b, .int .u64 c, .int .u64 d], .int .i64 e]) ∧ Below w.heap.size w w') ∧
    (∀ w, Calls Try.prog 19 #[.string s, .int .i64 m] w fun r w' => r = .returned (.tuple #[.agg #[.int .u64 a, .int .u64 b, .int .u64 c, .int .u64 d], .int .i64 e]) ∧ Below w.heap.size w w') := by
  by_cases h : okP s
  · by_cases h0 : (tl s).size = 0
    · exact ⟨0, 0, 0, 0, 80, quan_none hs h h0, rquan_none hs h h0⟩
    · by_cases hz : 1 < (tl s).size ∧ bt (tl s) 0 = 48
      · exact ⟨0, 0, 0, 0, 82, quan_zero hs h hz.1 hz.2, rquan_zero hs h hz.1 (dv_zero.2 hz.2)⟩
      · by_cases hw : (tl s).size ≤ m
        · exact ⟨_, _, _, _, 0, quan_ok hs h h0 hz hw m2, rquan_ok hs h h0 (fun x => hz ⟨x.1, dv_zero.1 x.2⟩) hw m2⟩
        · have hb : bt (tl s) 0 ≠ 48 := fun e => hz ⟨by omega, e⟩
          exact ⟨0, 0, 0, 0, 83, quan_wide hs h (by omega) m1 hb, rquan_wide hs h (by omega) m1 (fun e => hb (dv_zero.1 e))⟩
  · exact ⟨0, 0, 0, 0, 80, quan_no hs h, rquan_no hs h⟩
set_option maxRecDepth 100000 in
theorem pq_any {s : ByteArray} {a b c d e : Int} (hq : ∀ w, Calls Try.prog 18 #[.string s, .int .i64 64] w fun r w' => r = .returned (.tuple #[.agg #[.int .u64 a, .int .u64 b, .int .u64 c, .int .u64 d], .int .i64 e]) ∧ Below w.heap.size w w') (w : World) :
    Calls Try.prog 10 #[.string s] w fun r w' => r = .returned (.tuple #[.agg #[.int .u64 a, .int .u64 b, .int .u64 c, .int .u64 d], .int .i64 e]) ∧ Below w.heap.size w w' := by
  have o3 : w.heap.size ≤ w.heap.size := Nat.le_refl _
  go_enter Try.func10, Try.ntmps10
  go_wp2_with ((with_reducible refine (hq _).mono ?_); rintro e1 w1 ⟨rfl, hb⟩; (have hR := (Qd.newb w 33).keep hb); (obtain ⟨d0, g0⟩ := hR 0 (by decide)); (obtain ⟨d1, g1⟩ := hR 1 (by decide)); (obtain ⟨d2, g2⟩ := hR 2 (by decide)); (obtain ⟨d3, g3⟩ := hR 3 (by decide)); (have B := ((Below.refl w.heap.size w).alloc (Nat.le_refl _) _).trans (hb.mono (by simp))); (clear hb hR))
  simp [bodyPost, results, Try.results10, go_sem, d0, d1, d2, d3]
  repeat (first | with_reducible exact B | with_reducible refine Below.setCell ?_ o3 _)
set_option maxRecDepth 100000 in
theorem rpq_any {s : ByteArray} {a b c d e : Int} (hq : ∀ w, Calls Try.prog 19 #[.string s, .int .i64 64] w fun r w' => r = .returned (.tuple #[.agg #[.int .u64 a, .int .u64 b, .int .u64 c, .int .u64 d], .int .i64 e]) ∧ Below w.heap.size w w') (w : World) :
    Calls Try.prog 11 #[.string s] w fun r w' => r = .returned (.tuple #[.agg #[.int .u64 a, .int .u64 b, .int .u64 c, .int .u64 d], .int .i64 e]) ∧ Below w.heap.size w w' := by
  have o3 : w.heap.size ≤ w.heap.size := Nat.le_refl _
  go_enter Try.func11, Try.ntmps11
  go_wp2_with ((with_reducible refine (hq _).mono ?_); rintro e1 w1 ⟨rfl, hb⟩; (have hR := (Qd.newb w 33).keep hb); (obtain ⟨d0, g0⟩ := hR 0 (by decide)); (obtain ⟨d1, g1⟩ := hR 1 (by decide)); (obtain ⟨d2, g2⟩ := hR 2 (by decide)); (obtain ⟨d3, g3⟩ := hR 3 (by decide)); (have B := ((Below.refl w.heap.size w).alloc (Nat.le_refl _) _).trans (hb.mono (by simp))); (clear hb hR))
  simp [bodyPost, results, Try.results11, go_sem, d0, d1, d2, d3]
  repeat (first | with_reducible exact B | with_reducible refine Below.setCell ?_ o3 _)
set_option maxRecDepth 100000 in
theorem pu_any {s : ByteArray} {a b c d e : Int} (hq : ∀ w, Calls Try.prog 18 #[.string s, .int .i64 16] w fun r w' => r = .returned (.tuple #[.agg #[.int .u64 a, .int .u64 b, .int .u64 c, .int .u64 d], .int .i64 e]) ∧ Below w.heap.size w w') (w : World) :
    Calls Try.prog 12 #[.string s] w fun r w' => r = .returned (.tuple #[.int .u64 a, .int .i64 e]) ∧ Below w.heap.size w w' := by
  go_enter Try.func12, Try.ntmps12
  go_wp2_with ((with_reducible refine (hq _).mono ?_); rintro e1 w1 ⟨rfl, B⟩)
  simp [bodyPost, results, Try.results12, go_sem]
  exact B.alloc B.size _
set_option maxRecDepth 100000 in
theorem rpu_any {s : ByteArray} {a b c d e : Int} (hq : ∀ w, Calls Try.prog 19 #[.string s, .int .i64 16] w fun r w' => r = .returned (.tuple #[.agg #[.int .u64 a, .int .u64 b, .int .u64 c, .int .u64 d], .int .i64 e]) ∧ Below w.heap.size w w') (w : World) :
    Calls Try.prog 13 #[.string s] w fun r w' => r = .returned (.tuple #[.int .u64 a, .int .i64 e]) ∧ Below w.heap.size w w' := by
  go_enter Try.func13, Try.ntmps13
  go_wp2_with ((with_reducible refine (hq _).mono ?_); rintro e1 w1 ⟨rfl, B⟩)
  simp [bodyPost, results, Try.results13, go_sem]
  exact B.alloc B.size _
set_option maxRecDepth 100000 in
set_option maxHeartbeats 4000000 in
theorem numbers_any (s : ByteArray) (hs : s.size < 1073741824) (w : World) :
    Calls Try.prog 4 #[.string s] w fun r w' => r = .returned (.bool true) ∧ Below w.heap.size w w' := by
  obtain ⟨a, b, c, d, e, hP, hR⟩ := quan_both s hs 64 (by decide) (by decide)
  obtain ⟨a2, b2, c2, d2, e2, hP2, hR2⟩ := quan_both s hs 16 (by decide) (by decide)
  clear hs
  have ey : ∀ w, (Op.equalIn 10000 33 (.agg #[.int .u64 a, .int .u64 b, .int .u64 c, .int .u64 d]) (.agg #[.int .u64 a, .int .u64 b, .int .u64 c, .int .u64 d])).run Try.prog w = .ok true w := fun w => by rw [eqH]; simp
  have h1 := pq_any hP
  have h2 := rpq_any hR
  have h3 := pu_any hP2
  have h4 := rpu_any hR2
  clear hP hR hP2 hR2
  go_enter Try.func4, Try.ntmps4
  go_wp2_with fail
  with_reducible refine (h1 _).mono ?_
  rintro e1 w1 ⟨rfl, B⟩
  go_wp2_with fail
  refine callsH (fun W => Below w.heap.size w W ∧ Qd W w1.heap.size [a, b, c, d]) ⟨B.alloc B.size _, Qd.newv _ _ _ _ _ _⟩ ?_
  clear B
  rintro W ⟨B, hA⟩
  generalize w1.heap.size = b1 at *
  with_reducible refine (h2 _).mono ?_
  rintro e1 w2 ⟨rfl, hb⟩
  replace B := B.trans (hb.mono B.size)
  replace hA := hA.keep hb
  clear hb W
  go_wp2_with fail
  refine callsH (fun W => Below w.heap.size w W ∧ Qd W b1 [a, b, c, d] ∧ Qd W w2.heap.size [a, b, c, d]) ⟨B.alloc B.size _, hA.alloc _, Qd.newv _ _ _ _ _ _⟩ ?_
  clear B hA
  rintro W ⟨B, hA, hC⟩
  generalize w2.heap.size = b2 at *
  with_reducible refine (h3 _).mono ?_
  rintro e1 w3 ⟨rfl, hb⟩
  replace B := B.trans (hb.mono B.size)
  replace hA := hA.keep hb
  replace hC := hC.keep hb
  clear hb W
  go_wp2_with fail
  with_reducible refine (h4 _).mono ?_
  rintro e1 w4 ⟨rfl, hb⟩
  replace B := B.trans (hb.mono B.size)
  replace hA := hA.keep hb
  replace hC := hC.keep hb
  clear hb w3
  obtain ⟨c0, f0⟩ := hA 0 (by omega); obtain ⟨c1, f1⟩ := hA 1 (by omega); obtain ⟨c2, f2⟩ := hA 2 (by omega); obtain ⟨c3, f3⟩ := hA 3 (by omega)
  obtain ⟨d0, g0⟩ := hC 0 (by omega); obtain ⟨d1, g1⟩ := hC 1 (by omega); obtain ⟨d2, g2⟩ := hC 2 (by omega); obtain ⟨d3, g3⟩ := hC 3 (by omega)
  clear hA hC
  simp only [List.getD_cons_zero, List.getD_cons_succ] at c0 c1 c2 c3 d0 d1 d2 d3
  go_wp2
  go_ret
  exact ⟨by simp, B⟩
end Go.Proofs.Ytghfilmgnfheiaa
