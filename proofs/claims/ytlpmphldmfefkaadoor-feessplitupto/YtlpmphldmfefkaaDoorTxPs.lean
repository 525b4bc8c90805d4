import Derived.Test.YtlpmphldmfefkaaDoorTxPr
import Derived.Test.YtlpmphldmfefkaaDoorMul2
import Derived.Test.YtlpmphldmfefkaaDoorQLate
/- Layer 18: Price of the program, whole. -/
namespace Go.Proofs.YtlpmphldmfefkaaDoor
open Go.RowKit Go.Sort
open tq
theorem draft_at {t : Txv} {w W : World} (hG : TxG w t) (hH : t.Hsl.length < 1000000000) (hU : t.Ul.length < 1000000000) (hR : Rws w) (B : Below w.heap.size w W) :
    Calls Tryd.prog 9 #[.agg (txC t).toArray] W fun e w' => e = .returned (.int .i64 (dfN t)) ∧ Below W.heap.size W w' := by
  by_cases h : t.ty < 0 ∨ 5 ≤ t.ty
  · rw [dfN, if_pos h]
    exact draft_type hG.to.1 h W
  · obtain ⟨k, ek⟩ : ∃ k : Nat, t.ty = (k : Int) := ⟨t.ty.toNat, by omega⟩
    have hk : k < 5 := by omega
    refine draft_rest (W0 := w) (K := (k : Int)) hG ek (by omega) (by omega) (fun W hr => hasStrays_any hG ek hk W hr) W (hR.keep B) (fun W' B' => areBlobs_any W' (hG.Hs.keepZ (B.trans (B'.mono B.size))) hH) (fun W' B' => contains_au W' (hG.U.keepZ (B.trans (B'.mono B.size))) hU) ?_
    have e1 : t.ty.toNat = k := by rw [ek]; rfl
    have e2 : ((decide (t.Hsl.length ≤ 4096) && !t.Hsl.any badB) = false) ↔ ¬ (t.Hsl.length ≤ 4096 ∧ t.Hsl.any badB = false) := by
      cases t.Hsl.any badB <;> by_cases c : t.Hsl.length ≤ 4096 <;> simp [c]
    rw [dfN, if_neg h, e1, dfR, ← ek]
    exact ite_congr (propext (or_congr_right (or_congr_right e2.symm))) (fun _ => rfl) (fun _ => rfl)
/-- What Price answers: the price, the tip, the error. -/
def prE (t : Txv) (b : Int) : Int := if dfN t = 0 then peN t b else dfN t
def prP (t : Txv) (b : Int) : Int := if dfN t = 0 then ppV t b else 0
def prT (t : Txv) (b : Int) : Int := if dfN t = 0 then ptV t b else 0
theorem price_any {t : Txv} {b : Int} (w : World) (hG : TxG w t) (hb : Num b) (hH : t.Hsl.length < 1000000000) (hU : t.Ul.length < 1000000000) (hR : Rws w) :
    Calls Tryd.prog 14 #[.agg (txC t).toArray, .agg #[.int .u64 (l0 b), .int .u64 (l1 b), .int .u64 (l2 b), .int .u64 (l3 b)]] w fun e w' => e = .returned (.tuple #[.agg #[.int .u64 (l0 (prP t b)), .int .u64 (l1 (prP t b)), .int .u64 (l2 (prP t b)), .int .u64 (l3 (prP t b))], .agg #[.int .u64 (l0 (prT t b)), .int .u64 (l1 (prT t b)), .int .u64 (l2 (prT t b)), .int .u64 (l3 (prT t b))], .int .i64 (prE t b)]) ∧ Below w.heap.size w w' := by
  have DR : Hid (∀ W, Below w.heap.size w W → Calls Tryd.prog 9 #[.agg (txC t).toArray] W fun e w' => e = .returned (.int .i64 (dfN t)) ∧ Below W.heap.size W w') := fun W B => draft_at hG hH hU hR B
  by_cases d0 : dfN t = 0
  · rw [show prP t b = ppV t b from if_pos d0, show prT t b = ptV t b from if_pos d0, show prE t b = peN t b from if_pos d0]
    by_cases c : t.ty = 0 ∨ t.ty = 1
    · exact price_fixed hG.to.1 w d0 c (fun W => fixed_any hG.to.1 hG.pr hb c W) DR
    · exact price_capped hG.to.1 w d0 c (fun W => capped_any hG.to.1 hG.ti hG.ca hb c W) DR
  · have zl := zero_limbs
    obtain ⟨z0, z1, z2, z3⟩ := zl
    rw [show prP t b = 0 from if_neg d0, show prT t b = 0 from if_neg d0, show prE t b = dfN t from if_neg d0, z0, z1, z2, z3]
    exact price_bad hG.to.1 w d0 DR
end Go.Proofs.YtlpmphldmfefkaaDoor

/- Layer 18: times of the program. -/
namespace Go.Proofs.YtlpmphldmfefkaaDoor
open Go.RowKit Go.Sort
open tq
set_option maxRecDepth 100000 in
set_option maxHeartbeats 4000000 in
theorem times_two {g p hi lo : Int} {z : Bool} (F : Hid (∀ w, Calls Tryd.prog 20 #[.int .u64 g] w fun e w' => e = .returned (.agg #[.int .u64 (l0 g), .int .u64 (l1 g), .int .u64 (l2 g), .int .u64 (l3 g)]) ∧ Below w.heap.size w w'))
    (A : Hid (∀ w, Calls Tryd.prog 19 #[.agg #[.int .u64 (l0 g), .int .u64 (l1 g), .int .u64 (l2 g), .int .u64 (l3 g)], .agg #[.int .u64 (l0 p), .int .u64 (l1 p), .int .u64 (l2 p), .int .u64 (l3 p)]] w fun e w' => e = .returned (.tuple #[.agg #[.int .u64 (l0 hi), .int .u64 (l1 hi), .int .u64 (l2 hi), .int .u64 (l3 hi)], .agg #[.int .u64 (l0 lo), .int .u64 (l1 lo), .int .u64 (l2 lo), .int .u64 (l3 lo)]]) ∧ Below w.heap.size w w'))
    (he : ∀ w, (Op.equalIn 10000 24 (.agg #[.int .u64 (l0 hi), .int .u64 (l1 hi), .int .u64 (l2 hi), .int .u64 (l3 hi)]) (.agg #[.int .u64 0, .int .u64 0, .int .u64 0, .int .u64 0])).run Tryd.prog w = .ok z w) (w : World) :
    Calls Tryd.prog 44 #[.int .u64 g, .agg #[.int .u64 (l0 p), .int .u64 (l1 p), .int .u64 (l2 p), .int .u64 (l3 p)]] w fun e w' => e = .returned (.tuple #[if z = true then .agg #[.int .u64 (l0 lo), .int .u64 (l1 lo), .int .u64 (l2 lo), .int .u64 (l3 lo)] else .agg #[.int .u64 0, .int .u64 0, .int .u64 0, .int .u64 0], .int .i64 (if z = true then 0 else 183)]) ∧ Below w.heap.size w w' := by
  have hz := build_zero
  go_enter Tryd.func44, Tryd.ntmps44
  refine wp_seq_k fun K0 h0 => ?_
  have H0 : Hid _ := h0
  clear h0
  go_wp2
  refine H0.out _ _ ?_
  refine wp_world (fun W => Below w.heap.size w W ∧ Hold W w.heap.size p ∧ Blank W (w.heap.size+1)) ⟨by repeat (first | with_reducible exact Below.refl _ _ | with_reducible refine Below.alloc ?_ (by first | omega | (simp; done) | (simp; omega)) _), (Hold.fresh rfl).alloc _, Blank.new (by simp)⟩ ?_
  rintro W ⟨B, hP, hR⟩
  have o1 : w.heap.size ≤ w.heap.size + 1 := by omega
  generalize w.heap.size + 1 = br at *
  refine wp_seq_k fun K1 h1 => ?_
  have H1 : Hid _ := h1
  clear h1
  go_wp2_with fail
  refine alloc2_tail_late (A := ?AA1) 7 9 6 (by kernel_rfl) (by kernel_rfl) (fun _ _ _ _ _ h => h) (by kernel_rfl) rfl rfl rfl rfl (alloc_num _ _ _) (alloc_num _ _ _) (fun V hV => ?HH1) (fun V V2 w1 hV hw hV2 hw2 hdd => ?TT1)
  case HH1 =>
    have ghP := (hP.keep hV).grown
    unfold Gr
    simp only [List.take_succ_cons, List.take_zero]
    repeat
      first
        | go_big_quiet_skip
        | (go_big_quiet_want; go_big_quiet_op; go_big_quiet_on)
        | (go_big_quiet_want
           go_big_quiet_op
           apply Exists.intro
           refine ⟨fun p => ?_, ?_⟩
           · (first | (go_at_call 20; with_reducible exact Calls.regrown_of (F.out _)) | (go_at_call 19; with_reducible exact Calls.regrown_of (A.out _)))
           go_big_quiet_on)
    refine wpQuiet_nil ?_
    exact rfl
  case TT1 =>
    have hb := alloc_below hV hw
    have hN := (Blank.new rfl).keep hw
    have hM := (Blank.new rfl).keep hw2
    have nhP : V.heap.size ≠ w.heap.size := Nat.ne_of_gt (Nat.lt_of_lt_of_le (World.block_lt_of_cell? _ _ hP.1) hV.size)
    have nhR : V.heap.size ≠ br := Nat.ne_of_gt (Nat.lt_of_lt_of_le (hR.1.lt (by simp)) hV.size)
    have khP : V2.heap.size ≠ w.heap.size := Nat.ne_of_gt (Nat.lt_of_lt_of_le (World.block_lt_of_cell? _ _ hP.1) hV2.size)
    have khR : V2.heap.size ≠ br := Nat.ne_of_gt (Nat.lt_of_lt_of_le (hR.1.lt (by simp)) hV2.size)
    have gn : w.heap.size ≤ V.heap.size := Nat.le_trans B.size hV.size
    have gm : w.heap.size ≤ V2.heap.size := Nat.le_trans B.size hV2.size
    have hdd2 := hdd.symm
    replace B := B.trans (hb.mono B.size)
    replace hP := hP.keep hb; replace hR := hR.keep hb
    clear hb hw hV hw2 hV2 W
    generalize V.heap.size = bh at *
    generalize V2.heap.size = bl at *
    clear V V2
    have gN := hN.1.all4; have qN := hN.2.all4
    have gM := hM.1.all4; have qM := hM.2.all4
    have mhP := nhP.symm
    have lhP := khP.symm
    have mhR := nhR.symm
    have lhR := khR.symm
    simp only [List.drop_succ_cons, List.drop_zero, Act.put, List.setIfInBounds_toArray, List.set_cons_zero, List.set_cons_succ]
    go_wp2_with fail
    refine H1.out _ _ ?_
    refine wp_world (fun W => Below w.heap.size w W ∧ Hold W w.heap.size p ∧ Blank W br ∧ Hold W bh hi ∧ Hold W bl lo) ⟨below_set4 (below_set4 B gn _ _ _ _) gm _ _ _ _, (hP.set4 nhP _ _ _ _).set4 khP _ _ _ _, (hR.set4 nhR _ _ _ _).set4 khR _ _ _ _, (Hold.sets4 (Blank.has hN)).set4 hdd2 _ _ _ _, Hold.sets4 (Blank.has (hM.set4 hdd _ _ _ _))⟩ ?_
    clear B hN gN qN hM gM qM hdd hdd2 hP hR nhP mhP khP lhP nhR mhR khR lhR  gn gm
    rintro W ⟨B, hP, hR, hH, hL⟩
    clear w1
    have gH := hH.cells; have gL := hL.cells
    have gR := hR.1.all4; have fR := hR.2.all4
    clear F A hP
    cases z
    all_goals
      go_wp2
      simp [bodyPost, results, Tryd.results44, go_sem, gR]
      repeat (first | with_reducible exact B | with_reducible refine Below.drew ?_ | with_reducible refine Below.setCell ?_ o1 _ | with_reducible refine Below.alloc ?_ (by first | exact B.size | omega | (simp; done) | (simp; omega)) _)
end Go.Proofs.YtlpmphldmfefkaaDoor

/- Layer 18: times of the program, of anything. -/
namespace Go.Proofs.YtlpmphldmfefkaaDoor
open Go.RowKit Go.Sort
open tq
theorem word_Num {g : Int} (h : Word g) : Num g := ⟨h.1, by have := h.2; omega⟩
theorem mul_nonneg9 {a b : Int} (h : 0 ≤ a) (k : 0 ≤ b) : 0 ≤ a * b := Int.mul_nonneg h k
theorem hi_zero {x y : Int} (h : 0 ≤ x * y) (c : x * y < 115792089237316195423570985008687907853269984665640564039457584007913129639936) : hiN x y = 0 ∧ loN x y = x * y := by
  unfold hiN loN; exact ⟨by omega, by omega⟩
theorem hi_pos {x y : Int} (c : ¬ x * y < 115792089237316195423570985008687907853269984665640564039457584007913129639936) : ¬ hiN x y = 0 := by
  unfold hiN; omega
theorem times_any {g p : Int} (hg : Word g) (hp : Num p) (w : World) :
    Calls Tryd.prog 44 #[.int .u64 g, .agg #[.int .u64 (l0 p), .int .u64 (l1 p), .int .u64 (l2 p), .int .u64 (l3 p)]] w fun e w' => e = .returned (.tuple #[.agg #[.int .u64 (l0 (wideV (g * p))), .int .u64 (l1 (wideV (g * p))), .int .u64 (l2 (wideV (g * p))), .int .u64 (l3 (wideV (g * p)))], .int .i64 (wideE (g * p))]) ∧ Below w.heap.size w w' := by
  have hn := word_Num hg
  have h0 := mul_nonneg9 hg.1 hp.1
  by_cases c : g * p < 115792089237316195423570985008687907853269984665640564039457584007913129639936
  · obtain ⟨e1, e2⟩ := hi_zero h0 c
    have h := times_two (g := g) (p := p) (hi := hiN g p) (lo := loN g p) (z := true) (fun w => from_any hg w) (fun w => mul_any hn hp w) (fun w => by have k := eq_zeroT (hiN_Num hn hp) w; rw [decide_eq_true e1] at k; exact k) w
    rw [e2] at h
    simp only [if_true] at h
    rw [show wideV (g * p) = g * p from if_pos c, show wideE (g * p) = 0 from if_pos c]
    exact h
  · have e1 := hi_pos c
    have h := times_two (g := g) (p := p) (hi := hiN g p) (lo := loN g p) (z := false) (fun w => from_any hg w) (fun w => mul_any hn hp w) (fun w => by have k := eq_zeroT (hiN_Num hn hp) w; rw [decide_eq_false e1] at k; exact k) w
    rw [show wideV (g * p) = 0 from if_neg c, show wideE (g * p) = 183 from if_neg c]
    obtain ⟨z0, z1, z2, z3⟩ := zero_limbs
    rw [z0, z1, z2, z3]
    exact h
end Go.Proofs.YtlpmphldmfefkaaDoor
