import Derived.Test.YtmegdnalpaddmaaFeR
import Derived.Test.YtmegdnalpaddmaaQLate
import Derived.Deep.LoopGhost
import Derived.Deep.RegionHeld3
namespace Go.Proofs.Ytmegdnalpaddmaa
open Go.RowKit Go.Sort

set_option maxHeartbeats 4000000 in
theorem rproduct_walk {x y h l : Int} {t : Bool} (MU : Hid (∀ w, Calls Try.prog 45 #[.agg #[.int .u64 (l0 x), .int .u64 (l1 x), .int .u64 (l2 x), .int .u64 (l3 x)], .agg #[.int .u64 (l0 y), .int .u64 (l1 y), .int .u64 (l2 y), .int .u64 (l3 y)]] w fun e w' => e = .returned (.tuple #[.agg #[.int .u64 (l0 h), .int .u64 (l1 h), .int .u64 (l2 h), .int .u64 (l3 h)], .agg #[.int .u64 (l0 l), .int .u64 (l1 l), .int .u64 (l2 l), .int .u64 (l3 l)]]) ∧ Below w.heap.size w w')) (he : ∀ w, (Op.equalIn 10000 24 (.agg #[.int .u64 (l0 h), .int .u64 (l1 h), .int .u64 (l2 h), .int .u64 (l3 h)]) (.agg #[.int .u64 0, .int .u64 0, .int .u64 0, .int .u64 0])).run Try.prog w = .ok t w) (w : World) :
    Calls Try.prog 37 #[.agg #[.int .u64 (l0 x), .int .u64 (l1 x), .int .u64 (l2 x), .int .u64 (l3 x)], .agg #[.int .u64 (l0 y), .int .u64 (l1 y), .int .u64 (l2 y), .int .u64 (l3 y)]] w fun e w' => e = .returned (.tuple #[.agg #[.int .u64 (l0 l), .int .u64 (l1 l), .int .u64 (l2 l), .int .u64 (l3 l)], .bool t]) ∧ Below w.heap.size w w' := by
  have hz := build_zero
  go_enter Try.func37, Try.ntmps37
  go_wp2_with fail
  refine calls_world (fun W => Below w.heap.size w W ∧ Blank W (w.heap.size + 1 + 1)) ⟨by repeat (first | with_reducible exact Below.refl _ _ | with_reducible refine Below.alloc ?_ (by first | omega | (simp; done) | (simp; omega)) _), Blank.new (by simp)⟩ ?_
  rintro W ⟨B, hR⟩
  have o1 : w.heap.size ≤ w.heap.size + 1 + 1 := by omega
  generalize w.heap.size + 1 + 1 = br at *
  with_reducible refine (MU.out _).mono ?_
  rintro e w1 ⟨rfl, hb⟩
  replace B := B.trans (hb.mono B.size)
  replace hR := hR.keep hb
  clear hb W
  have e1 : w1.heap.size ≠ br := by have := hR.1.lt (by simp); omega
  have e2 : w1.heap.size + 1 ≠ br := by have := hR.1.lt (by simp); omega
  go_wp2_with fail
  refine wp_world (fun W => Below w.heap.size w W ∧ Blank W br ∧ Hold W w1.heap.size h ∧ Hold W (w1.heap.size + 1) l) ⟨(B.alloc B.size _).alloc (by have := B.size; simp; omega) _, (hR.alloc _).alloc _, (Hold.new _ _ _).alloc _, Hold.fresh (by simp)⟩ ?_
  clear B hR 
  rintro W ⟨B, hR, hH, hL⟩
  generalize w1.heap.size + 1 = bl at *
  generalize w1.heap.size = bh at *
  have gR := hR.1.all4; have fR := hR.2.all4; have gH := hH.cells; have gL := hL.cells
  have e3 := e1.symm; have e4 := e2.symm
  have BB : Hid (Below w.heap.size w W) := B
  clear B hH hL hR
  go_region_held3 (fun w' => w'.cell? ⟨bh, 0, none⟩ = some (.int .u64 (l0 h)) ∧ w'.cell? ⟨bh, 1, none⟩ = some (.int .u64 (l1 h)) ∧ w'.cell? ⟨bh, 2, none⟩ = some (.int .u64 (l2 h)) ∧ w'.cell? ⟨bh, 3, none⟩ = some (.int .u64 (l3 h)) ∧ w'.cell? ⟨bl, 0, none⟩ = some (.int .u64 (l0 l)) ∧ w'.cell? ⟨bl, 1, none⟩ = some (.int .u64 (l1 l)) ∧ w'.cell? ⟨bl, 2, none⟩ = some (.int .u64 (l2 l)) ∧ w'.cell? ⟨bl, 3, none⟩ = some (.int .u64 (l3 l))) (((try dsimp only); (repeat' (apply And.intro)); (all_goals repeat (first | with_reducible assumption | with_reducible apply cell_alloc | (with_reducible refine cell_set ?_ (by with_reducible assumption)) | (simp [go_sem, *]; done))))) (fail)
  all_goals go_wp2
  all_goals simp [bodyPost, results, Try.results37, go_sem, *]
  all_goals repeat (first | with_reducible exact BB.out | with_reducible refine Below.drew ?_ | with_reducible refine Below.setCell ?_ o1 _)

set_option maxRecDepth 100000 in
set_option maxHeartbeats 8000000 in
theorem rblob_walk {x f : Int} {K : Nat} (hf : Word f) (f0 : 0 < f) (hx : Word x) (S : Stop f x K) (w : World) :
    Calls Try.prog 17 #[.int .u64 x, .int .u64 f] w fun e w' => e = .returned (.tuple #[.agg #[.int .u64 (l0 (blV f x K)), .int .u64 (l1 (blV f x K)), .int .u64 (l2 (blV f x K)), .int .u64 (l3 (blV f x K))], .int .i64 (blE f x K)]) ∧ Below w.heap.size w w' := by
  have fn : f ≠ 0 := by omega
  have HS : Hid (Stop f x K) := S
  have HF : Hid (Word f ∧ 0 < f ∧ Word x) := ⟨hf, f0, hx⟩
  have HFr : Hid (∀ w, Calls Try.prog 31 #[.int .u64 f] w fun e w' => e = .returned (.agg #[.int .u64 (l0 f), .int .u64 (l1 f), .int .u64 (l2 f), .int .u64 (l3 f)]) ∧ Below w.heap.size w w') := fun w => rfrom_any hf w
  have HXr : Hid (∀ w, Calls Try.prog 31 #[.int .u64 x] w fun e w' => e = .returned (.agg #[.int .u64 (l0 x), .int .u64 (l1 x), .int .u64 (l2 x), .int .u64 (l3 x)]) ∧ Below w.heap.size w w') := fun w => rfrom_any hx w
  clear S hf f0 hx
  have hz := build_zero
  go_enter Try.func17, Try.ntmps17
  go_wp2_with fail
  refine calls_world (fun W => Below w.heap.size w W ∧ Blank W w.heap.size) ⟨by repeat (first | with_reducible exact Below.refl _ _ | with_reducible refine Below.alloc ?_ (by first | omega | (simp; done) | (simp; omega)) _), Blank.new rfl⟩ ?_
  rintro W ⟨B, hR⟩
  with_reducible refine (HFr.out _).mono ?_
  rintro e w1 ⟨rfl, hb⟩
  replace B := B.trans (hb.mono B.size); replace hR := hR.keep hb
  clear hb W
  go_wp2_with fail
  refine wp_world (fun W => Below w.heap.size w W ∧ Blank W w.heap.size ∧ Var W w1.heap.size f ∧ Var W (w1.heap.size + 1) 0) ⟨(B.alloc B.size _).alloc (by have := B.size; simp; omega) _, (hR.alloc _).alloc _, (Var.new rfl).alloc _, Blank.zero (Blank.new (by simp))⟩ ?_
  have o1 : w.heap.size < w1.heap.size := by have := hR.1.lt (by simp); omega
  clear B hR
  rintro W ⟨B, hR, hA, hS⟩
  have o2 : w1.heap.size < w1.heap.size + 1 := by omega
  generalize w1.heap.size + 1 = bm at *
  generalize w1.heap.size = b at *
  have gem : w.heap.size ≤ bm := by omega
  have geb : w.heap.size ≤ b := by omega
  have n1 : bm ≠ w.heap.size := by omega
  have n3 : bm ≠ b := by omega
  have n4 : b ≠ w.heap.size := by omega
  have n6 : b ≠ bm := by omega
  go_loopg [8] K (fun k i wr => ∃ (j : Nat), k = K - j ∧ j ≤ K ∧ i = .int .u64 ((j : Int) + 1) ∧ Below w.heap.size w wr ∧ Blank wr w.heap.size ∧ Var wr bm (smN f x j) ∧ Var wr b (apN f x j))
  case atStart => exact ⟨0, rfl, Nat.zero_le _, rfl, B, hR, hS, hA⟩
  case round =>
    clear B hR hS hA
    obtain ⟨j, hk, hj, rfl, B, hR, hS, hA⟩ := hrel
    obtain ⟨hf, f0, hx⟩ := HF.out
    have nA := HS.out.ap_Num hf f0 hx.1 j hj
    have nM := HS.out.sm_Num f0 hx.1 j hj
    have jlt := HS.out.lt
    have HK : Hid (gk = K - j ∧ j ≤ K) := ⟨hk, hj⟩
    have j3 : (j : Int) + 1 ≤ 1024 := by omega
    by_cases c0 : apN f x j = 0
    · obtain rfl : j = K := by
        rcases Nat.lt_or_ge j K with h | h
        · exact absurd c0 (HS.out.goes j h).1
        · omega
      have he : ∀ w, (Op.equalIn 10000 24 (.agg #[.int .u64 (l0 (apN f x j)), .int .u64 (l1 (apN f x j)), .int .u64 (l2 (apN f x j)), .int .u64 (l3 (apN f x j))]) (.agg #[.int .u64 0, .int .u64 0, .int .u64 0, .int .u64 0])).run Try.prog w = .ok true w := fun w => by rw [eq_zero nA, decide_eq_true c0]
      have DM : Hid (∀ w, Calls Try.prog 38 #[.agg #[.int .u64 (l0 (smN f x j)), .int .u64 (l1 (smN f x j)), .int .u64 (l2 (smN f x j)), .int .u64 (l3 (smN f x j))], .agg #[.int .u64 (l0 f), .int .u64 (l1 f), .int .u64 (l2 f), .int .u64 (l3 f)]] w fun e w' => e = .returned (.tuple #[.agg #[.int .u64 (l0 (smN f x j / f)), .int .u64 (l1 (smN f x j / f)), .int .u64 (l2 (smN f x j / f)), .int .u64 (l3 (smN f x j / f))], .agg #[.int .u64 (l0 (smN f x j % f)), .int .u64 (l1 (smN f x j % f)), .int .u64 (l2 (smN f x j % f)), .int .u64 (l3 (smN f x j % f))], .int .i64 0]) ∧ Below w.heap.size w w') := fun w => rdivMod_any nM hf.num fn w
      have eV : blV f x j = smN f x j / f := if_pos c0
      have eE : blE f x j = 0 := if_pos c0
      clear hk hj nA nM c0 HS HF HK hf f0 hx jlt HXr
      generalize smN f x j / f = v at *
      generalize smN f x j % f = r at *
      generalize smN f x j = s at *
      generalize apN f x j = a at *
      have gA := hA.1.cells
      go_wp2_with fail
      clear gA
      refine wp_world (fun W => Below w.heap.size w W ∧ Blank W w.heap.size ∧ Var W bm s ∧ Var W b a) ⟨B, hR, hS, hA⟩ ?_
      clear B hR hS hA
      rintro W ⟨B, hR, hS, hA⟩
      refine alloc2_tail_late2 (A := ?AA1) 8 10 6 7 (by kernel_rfl) (by kernel_rfl) (by kernel_rfl) (fun _ _ _ _ _ h => h) (by kernel_rfl) rfl rfl rfl rfl (alloc_num _ _ _) (alloc_num _ _ _) (fun V hV => ?HH1) (fun V V2 w1 hV hw hV2 hw2 hdd => ?TT1)
      case HH1 =>
        have ghS := (hS.keep hV).1.grown
        unfold Gr
        simp only [List.take_succ_cons, List.take_zero]
        repeat
          first
            | go_big_quiet_skip
            | (go_big_quiet_want; go_big_quiet_op; go_big_quiet_on)
            | (go_big_quiet_want
               go_big_quiet_op
               apply Exists.intro
               refine ⟨fun p => ?_, ?_⟩
               · (first | (go_at_call 31; with_reducible exact Calls.regrown_of (HFr.out _)) | (go_at_call 38; with_reducible exact Calls.regrown_of (DM.out _)))
               go_big_quiet_on)
        refine wpQuiet_nil ?_
        exact rfl
      case TT1 =>
        have hb := alloc_below hV hw
        have hN := (Blank.new rfl).keep hw
        have hM := (Blank.new rfl).keep hw2
        have nhR : V.heap.size ≠ w.heap.size := Nat.ne_of_gt (Nat.lt_of_lt_of_le (hR.1.lt (by simp)) hV.size)
        have nhS : V.heap.size ≠ bm := Nat.ne_of_gt (Nat.lt_of_lt_of_le (hS.1.row.lt (by simp)) hV.size)
        have nhA : V.heap.size ≠ b := Nat.ne_of_gt (Nat.lt_of_lt_of_le (hA.1.row.lt (by simp)) hV.size)
        have khR : V2.heap.size ≠ w.heap.size := Nat.ne_of_gt (Nat.lt_of_lt_of_le (hR.1.lt (by simp)) hV2.size)
        have khS : V2.heap.size ≠ bm := Nat.ne_of_gt (Nat.lt_of_lt_of_le (hS.1.row.lt (by simp)) hV2.size)
        have khA : V2.heap.size ≠ b := Nat.ne_of_gt (Nat.lt_of_lt_of_le (hA.1.row.lt (by simp)) hV2.size)
        have gn : w.heap.size ≤ V.heap.size := Nat.le_trans B.size hV.size
        have gm : w.heap.size ≤ V2.heap.size := Nat.le_trans B.size hV2.size
        have hdd2 := hdd.symm
        replace B := B.trans (hb.mono B.size)
        replace hR := hR.keep hb; replace hS := hS.keep hb; replace hA := hA.keep hb
        clear hb hw hV hw2 hV2 W
        generalize V.heap.size = bv at *
        generalize V2.heap.size = bq at *
        clear V V2
        have gN := hN.1.all4; have qN := hN.2.all4
        have gM := hM.1.all4; have qM := hM.2.all4
        have ghR := hR.1.all4; have qhR := hR.2.all4
        have mhR := nhR.symm
        have lhR := khR.symm
        have mhS := nhS.symm
        have lhS := khS.symm
        have mhA := nhA.symm
        have lhA := khA.symm
        simp only [List.drop_succ_cons, List.drop_zero, Act.put, List.setIfInBounds_toArray, List.set_cons_zero, List.set_cons_succ]
        go_wp2
        simp [bodyPost, results, Try.results17, go_sem, ghR, eV, eE]
        have o0 : w.heap.size ≤ w.heap.size := Nat.le_refl _
        repeat (first | with_reducible exact B | with_reducible refine Below.setCell ?_ gn _ | with_reducible refine Below.setCell ?_ gm _ | with_reducible refine Below.setCell ?_ o0 _ | with_reducible refine Below.setCell ?_ gem _ | with_reducible refine Below.setCell ?_ geb _ | with_reducible refine Below.alloc ?_ (by first | exact B.size | (have := B.size; simp; omega)) _)
    · have he : ∀ w, (Op.equalIn 10000 24 (.agg #[.int .u64 (l0 (apN f x j)), .int .u64 (l1 (apN f x j)), .int .u64 (l2 (apN f x j)), .int .u64 (l3 (apN f x j))]) (.agg #[.int .u64 0, .int .u64 0, .int .u64 0, .int .u64 0])).run Try.prog w = .ok false w := fun w => by rw [eq_zero nA, decide_eq_false c0]
      have wi : Word ((j : Int) + 1) := ⟨by omega, by omega⟩
      have nf := den_pos f0 j
      have lf : f * ((j : Int) + 1) < 18446744073709551616 * 1001 := by
        have h1 : f * ((j : Int) + 1) ≤ f * 1001 := Int.mul_le_mul_of_nonneg_left (by omega) (by omega)
        have := hf.2
        omega
      have nD : Num (f * ((j : Int) + 1)) := ⟨by omega, by omega⟩
      have PR : Hid (∀ w, Calls Try.prog 37 #[.agg #[.int .u64 (l0 f), .int .u64 (l1 f), .int .u64 (l2 f), .int .u64 (l3 f)], .agg #[.int .u64 (l0 ((j : Int) + 1)), .int .u64 (l1 ((j : Int) + 1)), .int .u64 (l2 ((j : Int) + 1)), .int .u64 (l3 ((j : Int) + 1))]] w fun e w' => e = .returned (.tuple #[.agg #[.int .u64 (l0 (f * ((j : Int) + 1))), .int .u64 (l1 (f * ((j : Int) + 1))), .int .u64 (l2 (f * ((j : Int) + 1))), .int .u64 (l3 (f * ((j : Int) + 1)))], .bool true]) ∧ Below w.heap.size w w') := fun w => by
        refine rproduct_walk (h := 0) (fun w => ?_) (fun w => by rw [eq_zero Num_zero]; rfl) w
        have := rmul_any hf.num wi.num w
        rw [show hiN f ((j : Int) + 1) = 0 by unfold hiN; omega, show loN f ((j : Int) + 1) = f * ((j : Int) + 1) by unfold loN; omega] at this
        exact this
      have FI : Hid (∀ w, Calls Try.prog 31 #[.int .u64 ((j : Int) + 1)] w fun e w' => e = .returned (.agg #[.int .u64 (l0 ((j : Int) + 1)), .int .u64 (l1 ((j : Int) + 1)), .int .u64 (l2 ((j : Int) + 1)), .int .u64 (l3 ((j : Int) + 1))]) ∧ Below w.heap.size w w') := fun w => rfrom_any wi w
      have VD := fun w => rmulDiv_any nA hx.num nD (by omega) w
      by_cases c1 : smN f x j + apN f x j < 115792089237316195423570985008687907853269984665640564039457584007913129639936
      · have PY : Hid (∀ w, Calls Try.prog 34 #[.agg #[.int .u64 (l0 (smN f x j)), .int .u64 (l1 (smN f x j)), .int .u64 (l2 (smN f x j)), .int .u64 (l3 (smN f x j))], .agg #[.int .u64 (l0 (apN f x j)), .int .u64 (l1 (apN f x j)), .int .u64 (l2 (apN f x j)), .int .u64 (l3 (apN f x j))]] w fun e w' => e = .returned (.tuple #[.agg #[.int .u64 (l0 (smN f x (j + 1))), .int .u64 (l1 (smN f x (j + 1))), .int .u64 (l2 (smN f x (j + 1))), .int .u64 (l3 (smN f x (j + 1)))], .bool true]) ∧ Below w.heap.size w w') := fun w => rsum_yes nM nA c1 w
        have HV : ∃ q er : Int, (er = 0 ∨ er = 11) ∧ (er = 0 → q = apN f x (j + 1) ∧ j < K) ∧ (er = 11 → j = K) ∧ Hid (∀ w, Calls Try.prog 32 #[.agg #[.int .u64 (l0 (apN f x j)), .int .u64 (l1 (apN f x j)), .int .u64 (l2 (apN f x j)), .int .u64 (l3 (apN f x j))], .agg #[.int .u64 (l0 x), .int .u64 (l1 x), .int .u64 (l2 x), .int .u64 (l3 x)], .agg #[.int .u64 (l0 (f * ((j : Int) + 1))), .int .u64 (l1 (f * ((j : Int) + 1))), .int .u64 (l2 (f * ((j : Int) + 1))), .int .u64 (l3 (f * ((j : Int) + 1)))]] w fun e w' => e = .returned (.tuple #[.agg #[.int .u64 (l0 q), .int .u64 (l1 q), .int .u64 (l2 q), .int .u64 (l3 q)], .int .i64 er]) ∧ Below w.heap.size w w') := by
          by_cases c2 : apN f x (j + 1) < 115792089237316195423570985008687907853269984665640564039457584007913129639936
          · refine ⟨apN f x (j + 1), 0, .inl rfl, fun _ => ⟨rfl, ?_⟩, fun h => absurd h (by decide), fun w => ?_⟩
            · rcases Nat.lt_or_ge j K with h | h
              · exact h
              · obtain rfl : j = K := by omega
                exact absurd ⟨c0, c1, c2⟩ HS.out.stop
            · have := VD w
              rw [if_pos (show apN f x j * x / (f * ((j : Int) + 1)) < 115792089237316195423570985008687907853269984665640564039457584007913129639936 from c2)] at this
              exact this
          · refine ⟨0, 11, .inr rfl, fun h => absurd h (by decide), fun _ => ?_, fun w => ?_⟩
            · rcases Nat.lt_or_ge j K with h | h
              · exact absurd (HS.out.goes j h).2.2 c2
              · omega
            · have := VD w
              rw [if_neg (show ¬ apN f x j * x / (f * ((j : Int) + 1)) < 115792089237316195423570985008687907853269984665640564039457584007913129639936 from c2)] at this
              exact this
        obtain ⟨q, er, HE, HE0, HE1, VM⟩ := HV
        have HEE : Hid ((er = 0 → q = apN f x (j + 1) ∧ j < K) ∧ (er = 11 → j = K) ∧ j < 1000) := ⟨HE0, HE1, by omega⟩
        have HC : Hid (apN f x j ≠ 0) := c0
        clear HE0 HE1 VD nD lf nf wi hk hj nA nM c0 c1 HS HF hf f0 hx jlt
        generalize f * ((j : Int) + 1) = dd at *
        generalize hs2 : smN f x (j + 1) = s2 at PY
        have HL : Hid (smN f x (j + 1) = s2) := hs2
        clear hs2
        generalize smN f x j = s at *
        generalize hap : apN f x j = a at hA he PY VM
        clear hap
        have gA := hA.1.cells; have gS := hS.1.cells
        go_wp2_with fail
        with_reducible refine (PY.out _).mono ?_
        rintro e w2 ⟨rfl, hb⟩
        replace B := B.trans (hb.mono B.size)
        replace hR := hR.keep hb; replace hS := hS.keep hb; replace hA := hA.keep hb
        clear hb gA gS
        have k2 : bm < w2.heap.size := hS.1.row.lt (by simp)
        have k3 : b < w2.heap.size := hA.1.row.lt (by simp)
        have d1 : bm ≠ w2.heap.size := by omega
        have d2 := d1.symm
        have gS0 := hS.1.cells; have fS0 := hS.2.all4
        go_wp2_with fail
        refine calls_world (fun W => Below w.heap.size w W ∧ Blank W w.heap.size ∧ Var W bm s2 ∧ Var W b a) ⟨(below_set4 B gem _ _ _ _).alloc (by have := B.size; simp; omega) _, (hR.set4 n1 _ _ _ _).alloc _, (hS.sets _).alloc _, (hA.set4 n3 _ _ _ _).alloc _⟩ ?_
        clear B hR hS hA gS0 fS0 k2 k3 d1 d2
        rintro W ⟨B, hR, hS, hA⟩
        with_reducible refine (HFr.out _).mono ?_
        rintro e w3 ⟨rfl, hb⟩
        replace B := B.trans (hb.mono B.size)
        replace hR := hR.keep hb; replace hS := hS.keep hb; replace hA := hA.keep hb
        clear hb W
        go_wp2_with fail
        refine calls_world (fun W => Below w.heap.size w W ∧ Blank W w.heap.size ∧ Var W bm s2 ∧ Var W b a) ⟨B, hR, hS, hA⟩ ?_
        clear B hR hS hA 
        rintro W ⟨B, hR, hS, hA⟩
        with_reducible refine (FI.out _).mono ?_
        rintro e w4 ⟨rfl, hb⟩
        replace B := B.trans (hb.mono B.size)
        replace hR := hR.keep hb; replace hS := hS.keep hb; replace hA := hA.keep hb
        clear hb W
        go_wp2_with fail
        refine calls_world (fun W => Below w.heap.size w W ∧ Blank W w.heap.size ∧ Var W bm s2 ∧ Var W b a) ⟨B, hR, hS, hA⟩ ?_
        clear B hR hS hA 
        rintro W ⟨B, hR, hS, hA⟩
        with_reducible refine (PR.out _).mono ?_
        rintro e w5 ⟨rfl, hb⟩
        replace B := B.trans (hb.mono B.size)
        replace hR := hR.keep hb; replace hS := hS.keep hb; replace hA := hA.keep hb
        clear hb W
        go_wp2_with fail
        refine wp_world (fun W => Below w.heap.size w W ∧ Blank W w.heap.size ∧ Var W bm s2 ∧ Var W b a ∧ Hold W w5.heap.size dd) ⟨B.alloc B.size _, hR.alloc _, hS.alloc _, hA.alloc _, Hold.new _ _ _⟩ ?_
        clear B hR hS hA 
        rintro W ⟨B, hR, hS, hA, hD⟩
        generalize w5.heap.size = bd at *
        refine alloc_tail_late (A := ?AA6) 8 9 7 (by kernel_rfl) (by kernel_rfl) (fun _ _ _ _ _ h => h) (by kernel_rfl) rfl rfl (alloc_num _ _ _) (fun V hV => ?HH6) (fun V w1 hV hw => ?TT6)
        case HH6 =>
          have ghA := (hA.keep hV).1.grown
          have ghD := (hD.keep hV).grown
          unfold Gr
          simp only [List.take_succ_cons, List.take_zero]
          repeat
            first
              | go_big_quiet_skip
              | (go_big_quiet_want; go_big_quiet_op; go_big_quiet_on)
              | (go_big_quiet_want
                 go_big_quiet_op
                 apply Exists.intro
                 refine ⟨fun p => ?_, ?_⟩
                 · (first | (go_at_call 31; with_reducible exact Calls.regrown_of (HXr.out _)) | (go_at_call 32; with_reducible exact Calls.regrown_of (VM.out _)))
                 go_big_quiet_on)
          refine wpQuiet_nil ?_
          exact rfl
        case TT6 =>
          have hb := alloc_below hV hw
          have hN := (Blank.new rfl).keep hw
          have nhR : V.heap.size ≠ w.heap.size := Nat.ne_of_gt (Nat.lt_of_lt_of_le (hR.1.lt (by simp)) hV.size)
          have nhS : V.heap.size ≠ bm := Nat.ne_of_gt (Nat.lt_of_lt_of_le (hS.1.row.lt (by simp)) hV.size)
          have nhA : V.heap.size ≠ b := Nat.ne_of_gt (Nat.lt_of_lt_of_le (hA.1.row.lt (by simp)) hV.size)
          have nhD : V.heap.size ≠ bd := Nat.ne_of_gt (Nat.lt_of_lt_of_le (World.block_lt_of_cell? _ _ hD.1) hV.size)
          have gn : w.heap.size ≤ V.heap.size := Nat.le_trans B.size hV.size
          replace B := B.trans (hb.mono B.size)
          replace hR := hR.keep hb; replace hS := hS.keep hb; replace hA := hA.keep hb; replace hD := hD.keep hb
          clear hb hw hV W
          generalize V.heap.size = bq at *
          clear V
          have gN := hN.1.all4; have qN := hN.2.all4
          have ghA := hA.1.cells; have qhA := hA.2.all4
          have ghR := hR.1.all4; have qhR := hR.2.all4
          have mhR := nhR.symm
          have mhS := nhS.symm
          have mhA := nhA.symm
          have mhD := nhD.symm
          simp only [List.drop_succ_cons, List.drop_zero, Act.put, List.setIfInBounds_toArray, List.set_cons_zero, List.set_cons_succ]
          rcases HE with rfl | rfl
          · obtain ⟨hq, hjK⟩ := HEE.out.1 rfl
            have j9 := HEE.out.2.2
            have b0 : 0 ≤ (j : Int) + 1 + 1 := by omega
            have b1 : (j : Int) + 1 + 1 < 18446744073709551616 := by omega
            have HQ : Hid (q = apN f x (j + 1) ∧ j < K) := ⟨hq, hjK⟩
            clear hq hjK j9 HEE VM
            go_wp2
            go_roundg (K - (j + 1))
            case measure => have h1 := HK.out.1; have h2 := HQ.out.2; omega
            case rel =>
              refine ⟨j + 1, rfl, HQ.out.2, by go_num, below_set4 (below_set4 B gn _ _ _ _) geb _ _ _ _, (hR.set4 nhR _ _ _ _).set4 n4 _ _ _ _, ?_, ?_⟩
              · rw [HL.out]; exact (hS.set4 nhS _ _ _ _).set4 n6 _ _ _ _
              · rw [← HQ.out.1]; exact (hA.set4 nhA _ _ _ _).sets _
          · obtain rfl : j = K := HEE.out.2.1 rfl
            have eV : blV f x j = 0 := if_neg HC.out
            have eE : blE f x j = 183 := if_neg HC.out
            obtain ⟨z0, z1, z2, z3⟩ := zero_limbs
            clear HEE VM HC
            have gR := hR.1.all4; have fR := hR.2.all4
            go_wp2
            simp [bodyPost, results, Try.results17, go_sem, gR, eV, eE, z0, z1, z2, z3]
            have o0 : w.heap.size ≤ w.heap.size := Nat.le_refl _
            repeat (first | with_reducible exact B | with_reducible refine Below.setCell ?_ gn _ | with_reducible refine Below.setCell ?_ o0 _ | with_reducible refine Below.setCell ?_ gem _ | with_reducible refine Below.setCell ?_ geb _ | with_reducible refine Below.alloc ?_ (by first | exact B.size | (have := B.size; simp; omega)) _)
      · obtain rfl : j = K := by
          rcases Nat.lt_or_ge j K with h | h
          · exact absurd (HS.out.goes j h).2.1 c1
          · omega
        have eV : blV f x j = 0 := if_neg c0
        have eE : blE f x j = 183 := if_neg c0
        have PN : Hid (∀ w, Calls Try.prog 34 #[.agg #[.int .u64 (l0 (smN f x j)), .int .u64 (l1 (smN f x j)), .int .u64 (l2 (smN f x j)), .int .u64 (l3 (smN f x j))], .agg #[.int .u64 (l0 (apN f x j)), .int .u64 (l1 (apN f x j)), .int .u64 (l2 (apN f x j)), .int .u64 (l3 (apN f x j))]] w fun e w' => e = .returned (.tuple #[.agg #[.int .u64 (l0 (sumN (smN f x j) (apN f x j))), .int .u64 (l1 (sumN (smN f x j) (apN f x j))), .int .u64 (l2 (sumN (smN f x j) (apN f x j))), .int .u64 (l3 (sumN (smN f x j) (apN f x j)))], .bool false]) ∧ Below w.heap.size w w') := fun w => rsum_no nM nA c1 w
        clear PR FI VD nD lf nf wi hk hj nA nM c0 c1 HS HF HK hf f0 hx jlt HFr HXr
        generalize sumN (smN f x j) (apN f x j) = s2 at *
        generalize smN f x j = s at *
        generalize apN f x j = a at *
        have gA := hA.1.cells; have gS := hS.1.cells
        go_wp2_with fail
        with_reducible refine (PN.out _).mono ?_
        rintro e w9 ⟨rfl, hb⟩
        replace B := B.trans (hb.mono B.size); replace hR := hR.keep hb
        clear hb gA gS
        have gR := fun o => (hR.alloc o).1.all4; have fR := fun o => (hR.alloc o).2.all4
        have d1 : w.heap.size ≠ w9.heap.size := by have := hR.1.lt (by simp); omega
        have d3 := d1.symm
        obtain ⟨z0, z1, z2, z3⟩ := zero_limbs
        go_wp2
        simp [bodyPost, results, Try.results17, go_sem, gR, eV, eE, z0, z1, z2, z3]
        have o0 : w.heap.size ≤ w.heap.size := Nat.le_refl _
        repeat (first | with_reducible exact B | with_reducible refine Below.setCell ?_ o0 _ | with_reducible refine Below.setCell ?_ gem _ | with_reducible refine Below.setCell ?_ geb _ | with_reducible refine Below.alloc ?_ (by first | exact B.size | (have := B.size; simp; omega)) _)
end Go.Proofs.Ytmegdnalpaddmaa
