import Derived.Test.YtiebnlahhmngcaaGreatDoorCTrs
import Derived.Test.YtiebnlahhmngcaaGreatDoorCLaid
import Derived.Test.YtiebnlahhmngcaaGreatDoorCDig
import Derived.Test.YtiebnlahhmngcaaGreatDoorCSumK
import Derived.Test.YtiebnlahhmngcaaGreatDoorHold
namespace Go.Proofs.YtiebnlahhmngcaaGreatDoor
open Go.RowKit Go.Sort

/-- A number in a block. -/
def Nm (W : World) (b : Nat) (n : Int) : Prop := Cl W b [.int .u64 (l0 n), .int .u64 (l1 n), .int .u64 (l2 n), .int .u64 (l3 n)]
theorem Nm.keep {W w1 : World} {b : Nat} {n : Int} (h : Nm W b n) (hb : Below W.heap.size W w1) : Nm w1 b n := Cl.keep h hb
theorem Nm.cells {W : World} {b : Nat} {n : Int} (h : Nm W b n) : W.cell? ⟨b, 0, none⟩ = some (.int .u64 (l0 n)) ∧ W.cell? ⟨b, 1, none⟩ = some (.int .u64 (l1 n)) ∧ W.cell? ⟨b, 2, none⟩ = some (.int .u64 (l2 n)) ∧ W.cell? ⟨b, 3, none⟩ = some (.int .u64 (l3 n)) := ⟨h 0 (by simp), h 1 (by simp), h 2 (by simp), h 3 (by simp)⟩
theorem Nm.grown {W : World} {b : Nat} {n : Int} (h : Nm W b n) : ∀ d os, (grow (redrawn W d) os).cell? ⟨b, 0, none⟩ = some (.int .u64 (l0 n)) ∧ (grow (redrawn W d) os).cell? ⟨b, 1, none⟩ = some (.int .u64 (l1 n)) ∧ (grow (redrawn W d) os).cell? ⟨b, 2, none⟩ = some (.int .u64 (l2 n)) ∧ (grow (redrawn W d) os).cell? ⟨b, 3, none⟩ = some (.int .u64 (l3 n)) := fun d os => (h.keep (below_regrown W d os)).cells
theorem Nm.alloc {W : World} {b : Nat} {n : Int} (h : Nm W b n) (ob : Obj) : Nm (W.alloc ob) b n := h.keep ((Below.refl _ _).alloc (Nat.le_refl _) ob)
theorem Bk12.put {W : World} {b b' : Nat} (h : Bk12 W b) (ne : b' ≠ b) (x' y' z' : Int) : Bk12 (put12 W b' x' y' z') b := ⟨h.1.put ne x' y' z', by unfold put12; exact ((((((((((((h.2.set _ _).set _ _).set _ _).set _ _).set _ _).set _ _).set _ _).set _ _).set _ _).set _ _).set _ _).set _ _)⟩
theorem Cols.lt {W : World} (h : Cols W) : 0 < W.heap.size := World.block_lt_of_cell? W ⟨0, 0 + 0 * 9, none⟩ (h 0 (by decide)).1

theorem Pts.cells_put {W : World} {b o b' : Nat} {L : List PP} (h : Pts W b o L) (ne : b' ≠ b) (vs : List Value) (k : Nat) : Pts (W.setCells b' k vs) b o L := by
  induction vs generalizing W k with
  | nil => exact h
  | cons v r ih => exact ih (h.set ne v) (k + 1)

/-- What a round makes of the sum. -/
theorem round_pt {a : Int} {b k A B : Nat} {q s t u v : EC.Pt} (hq : EC.On q) (es : s = (EC.smul A EC.gJ.pt).add (EC.smul B q)) (et : t = s.add s) {c d : Nat} (eu : u = t.add (EC.smul d q)) (ev : v = u.add (EC.smul c EC.gJ.pt))
    (ea : aAt a k = 2 * A + c) (eb : bAt b k = 2 * B + d) : v = (EC.smul (aAt a k) EC.gJ.pt).add (EC.smul (bAt b k) q) := by
  rw [ev, eu, et, es, EC.step_pt EC.gJ_on hq, ea, eb]

set_option maxRecDepth 100000 in
set_option maxHeartbeats 16000000 in
theorem cblend_walk {a b x y : Int} {i : Bool} {f : Nat → T3} (hb : Num b) (hv : Vd x y i) (hf : ∀ k, (f k).Low ∧ (f k).j.pt = EC.smul k (ptOf x y i))
    (CM : Hid (∀ w, Mds w → Calls Tryz.prog 39 #[.agg #[.int .u64 (l0 x), .int .u64 (l1 x), .int .u64 (l2 x), .int .u64 (l3 x), .int .u64 (l0 y), .int .u64 (l1 y), .int .u64 (l2 y), .int .u64 (l3 y), .bool i]] w fun e w' => e = .returned (.agg (flat (rowAt f 16)).toArray) ∧ Below w.heap.size w w')) (ha : Num a) (w : World) (hm : Mds w) (hc : Cols w) :
    Calls Tryz.prog 26 #[.agg #[.int .u64 (l0 a), .int .u64 (l1 a), .int .u64 (l2 a), .int .u64 (l3 a)], .agg #[.int .u64 (l0 b), .int .u64 (l1 b), .int .u64 (l2 b), .int .u64 (l3 b)], .agg #[.int .u64 (l0 x), .int .u64 (l1 x), .int .u64 (l2 x), .int .u64 (l3 x), .int .u64 (l0 y), .int .u64 (l1 y), .int .u64 (l2 y), .int .u64 (l3 y), .bool i]] w fun e w' => ∃ x' y' z', EC.Low x' ∧ EC.Low y' ∧ EC.Low z' ∧ (J3 x' y' z').pt = (EC.smul a.toNat EC.gJ.pt).add (EC.smul b.toNat (ptOf x y i)) ∧ e = .returned (.agg #[.int .u64 (l0 x'), .int .u64 (l1 x'), .int .u64 (l2 x'), .int .u64 (l3 x'), .int .u64 (l0 y'), .int .u64 (l1 y'), .int .u64 (l2 y'), .int .u64 (l3 y'), .int .u64 (l0 z'), .int .u64 (l1 z'), .int .u64 (l2 z'), .int .u64 (l3 z')]) ∧ Below w.heap.size w w' := by
  have HQ : Hid (EC.On (ptOf x y i)) := hv.on
  have HF : Hid (∀ k, (f k).Low ∧ (f k).j.pt = EC.smul k (ptOf x y i)) := hf
  have HB : Hid (Num b) := hb
  have HA : Hid (Num a) := ha
  clear hv hf hb ha
  go_enter Tryz.func26, Tryz.ntmps26
  go_wp2_with fail
  refine calls_world (fun W => Below w.heap.size w W ∧ Mds W ∧ Cols W ∧ Nm W w.heap.size a ∧ Nm W (w.heap.size + 1) b ∧ Bk12 W (w.heap.size + 1 + 1 + 1))
    ⟨by repeat (first | with_reducible exact Below.refl _ _ | with_reducible refine Below.alloc ?_ (by first | omega | (simp; done) | (simp; omega)) _), (((hm.alloc _).alloc _).alloc _).alloc _, (((Pts.alloc hc _).alloc _).alloc _).alloc _, (((Cl.new _ rfl rfl).alloc _).alloc _).alloc _, ((Cl.new _ (by simp) rfl).alloc _).alloc _, Bk12.new (by simp)⟩ ?_
  rintro W ⟨B, hD, hC, hA, hB, hR⟩
  have ob : w.heap.size ≤ w.heap.size + 1 := by omega
  have or : w.heap.size ≤ w.heap.size + 1 + 1 + 1 := by omega
  generalize w.heap.size + 1 + 1 + 1 = br at *
  generalize w.heap.size + 1 = bb at *
  with_reducible refine (CM.out _ hD).mono ?_
  rintro e w1 ⟨rfl, hb⟩
  replace B := B.trans (hb.mono B.size)
  replace hD := hD.keep hb; replace hC := Pts.keep hC hb; replace hA := hA.keep hb; replace hB := hB.keep hb; replace hR := hR.keep hb
  clear hb W CM
  have sz : ((flat (rowAt f 16)).toArray).size = 192 := by simp [flat_len, rowAt_len]
  have tr : (w1.alloc (.cells Tryz.zeroCells82 82)).there w1.heap.size 0 ((flat (rowAt f 16)).toArray).size := by rw [sz]; exact (TRow.new rfl).there (loose_new (n := 192) rfl) (by simp) (by simp)
  have oc := all_oneCell_toArray (flat_one (rowAt f 16))
  have rg : TRow ((w1.alloc (.cells Tryz.zeroCells82 82)).setCells w1.heap.size 0 (flat (rowAt f 16))) w1.heap.size (rowAt f 16) := World.rangeAt_setCells_same _ _ _ _ (by simpa using tr)
  have gw : w.heap.size ≤ w1.heap.size := B.size
  have FF : Hid (let V := (w1.alloc (.cells Tryz.zeroCells82 82)).setCells w1.heap.size 0 (flat (rowAt f 16)); Below w.heap.size w V ∧ Mds V ∧ Cols V ∧ Nm V w.heap.size a ∧ Nm V bb b ∧ Bk12 V br ∧ TRow V w1.heap.size (rowAt f 16)) :=
    ⟨below_cells (B.alloc B.size _) gw _ _, (hD.alloc _).cells_put (Nat.ne_of_gt hD.lt) _ _, Pts.cells_put (Pts.alloc hC _) (Nat.ne_of_gt (Cols.lt hC)) _ _, Cl.cells_put (hA.alloc _) (Nat.ne_of_gt (Cl.lt hA (by simp))) _ _, Cl.cells_put (hB.alloc _) (Nat.ne_of_gt (Cl.lt hB (by simp))) _ _, ⟨Cl.cells_put (hR.alloc _).1 (Nat.ne_of_gt hR.lt) _ _, (hR.alloc _).2.cells_put _ _⟩, rg⟩
  clear rg B hD hC hA hB hR
  go_wp2_with (refine wpList_store_mid rfl 82 _ _ rfl w1.heap.size 0 (flat (rowAt f 16)).toArray rfl rfl tr (by rw [sz]; kernel_rfl) oc ?_; refine wpList_world (fun W => Below w.heap.size w W ∧ Mds W ∧ Cols W ∧ Nm W w.heap.size a ∧ Nm W bb b ∧ Bk12 W br ∧ TRow W w1.heap.size (rowAt f 16)) FF.out ?_; clear FF tr oc sz; rintro W ⟨B, hD, hC, hA, hB, hR, hF⟩)
  generalize w1.heap.size = bf at *
  clear gw w1
  refine wp_world (fun W' => Below w.heap.size w W' ∧ Mds W' ∧ Cols W' ∧ Nm W' w.heap.size a ∧ Nm W' bb b ∧ Bk12 W' br ∧ TRow W' bf (rowAt f 16) ∧ TV W' W.heap.size 0 0 0) ⟨B.alloc B.size _, hD.alloc _, Pts.alloc hC _, hA.alloc _, hB.alloc _, hR.alloc _, hF.alloc _, (Bk12.new rfl).tv⟩ ?_
  have os : w.heap.size ≤ W.heap.size := B.size
  have nd : W.heap.size ≠ 2 := Nat.ne_of_gt hD.lt
  have nc : W.heap.size ≠ 0 := Nat.ne_of_gt (Cols.lt hC)
  have na : W.heap.size ≠ w.heap.size := Nat.ne_of_gt (Cl.lt hA (by simp))
  have nb : W.heap.size ≠ bb := Nat.ne_of_gt (Cl.lt hB (by simp))
  have nr : W.heap.size ≠ br := Nat.ne_of_gt hR.lt
  have nf : W.heap.size ≠ bf := Nat.ne_of_gt (hF.lt (by rw [rowAt_len]; decide))
  clear B hD hC hA hB hR hF
  generalize W.heap.size = bs at *
  clear W
  rintro W ⟨B, hD, hC, hA, hB, hR, hF, hS⟩
  go_loopg [9] 256 (fun k iv wr => ∃ n : Nat, k = n ∧ n ≤ 256 ∧ iv = .int .i64 ((n : Int) - 1) ∧ Below w.heap.size w wr ∧ Mds wr ∧ Cols wr ∧ Nm wr w.heap.size a ∧ Nm wr bb b ∧ Bk12 wr br ∧ TRow wr bf (rowAt f 16) ∧ ∃ sx sy sz, EC.Low sx ∧ EC.Low sy ∧ EC.Low sz ∧ (J3 sx sy sz).pt = (EC.smul (aAt a n) EC.gJ.pt).add (EC.smul (bAt b.toNat n) (ptOf x y i)) ∧ TV wr bs sx sy sz)
  case atStart =>
    refine ⟨256, rfl, by decide, rfl, B, hD, hC, hA, hB, hR, hF, 0, 0, 0, zero_low, zero_low, zero_low, ?_, hS⟩
    rw [aAt_far a (by decide), bAt_top (by have := HB.out.1; have := HB.out.2; omega)]
    exact EC.pt_o EC.fp_zero
  case round =>
    clear B hD hC hA hB hR hF hS W
    obtain ⟨n, hk, hn, hiv, B, hD, hC, hA, hB, hR, hF, sx, sy, sz, lx, ly, lz, es, hS⟩ := hrel
    cases n with
    | zero =>
      rw [aAt_zero HA.out, bAt_zero] at es
      have HE : Hid ((J3 sx sy sz).pt = (EC.smul a.toNat EC.gJ.pt).add (EC.smul b.toNat (ptOf x y i))) := es
      have HL : Hid (EC.Low sx ∧ EC.Low sy ∧ EC.Low sz) := ⟨lx, ly, lz⟩
      rw [show (((0 : Nat) : Int) - 1) = -1 by rfl] at hiv
      subst hiv
      clear es lx ly lz hD hC hA hB hF hn
      have gS := hS.1.cells; have gR := hR.cells; have fR := hR.free
      go_wp2
      refine bodyPost_ret (v := .agg #[.int .u64 (l0 sx), .int .u64 (l1 sx), .int .u64 (l2 sx), .int .u64 (l3 sx), .int .u64 (l0 sy), .int .u64 (l1 sy), .int .u64 (l2 sy), .int .u64 (l3 sy), .int .u64 (l0 sz), .int .u64 (l1 sz), .int .u64 (l2 sz), .int .u64 (l3 sz)]) ?_ rfl ⟨sx, sy, sz, HL.out.1, HL.out.2.1, HL.out.2.2, HE.out, rfl, ?_⟩
      · simp [results, Tryz.results26, go_sem, gR]
      · repeat (first | with_reducible exact B | with_reducible refine Below.setCell ?_ or _)
    | succ k =>
      rw [show (((k + 1 : Nat) : Int) - 1) = (k : Int) by omega] at hiv
      subst hiv
      have hk256 : k < 256 := by omega
      have hk0 : (0 : Int) ≤ (k : Int) := by omega
      by_cases h4 : k % 4 = 0
      · have t4 : (k : Int).tmod 4 = 0 := by rw [Int.tmod_eq_emod_of_nonneg hk0]; omega
        by_cases h6 : k < 64
        · have h64 : (k : Int) < 64 := by omega
          obtain ⟨b1, b2, b3, m1, m2, m3, ed, CD⟩ := cdbl_J lx ly lz
          have onS : EC.On (J3 sx sy sz).pt := by rw [es]; exact EC.Pt.on (EC.smul_on EC.gJ_on _) (EC.smul_on HQ.out _)
          have et : Hid ((J3 b1 b2 b3).pt = (J3 sx sy sz).pt.add (J3 sx sy sz).pt) := by show _ = _; rw [ed, EC.jd_pt onS]
          have onT : Hid (EC.On (J3 b1 b2 b3).pt) := by show EC.On _; rw [et.out]; exact EC.Pt.on onS onS
          have CDH : Hid (∀ w, Mds w → Calls Tryz.prog 40 #[.agg #[.int .u64 (l0 sx), .int .u64 (l1 sx), .int .u64 (l2 sx), .int .u64 (l3 sx), .int .u64 (l0 sy), .int .u64 (l1 sy), .int .u64 (l2 sy), .int .u64 (l3 sy), .int .u64 (l0 sz), .int .u64 (l1 sz), .int .u64 (l2 sz), .int .u64 (l3 sz)]] w fun e w' => e = .returned (.agg #[.int .u64 (l0 b1), .int .u64 (l1 b1), .int .u64 (l2 b1), .int .u64 (l3 b1), .int .u64 (l0 b2), .int .u64 (l1 b2), .int .u64 (l2 b2), .int .u64 (l3 b2), .int .u64 (l0 b3), .int .u64 (l1 b3), .int .u64 (l2 b3), .int .u64 (l3 b3)]) ∧ Below w.heap.size w w') := CD
          have LB : Hid (EC.Low b1 ∧ EC.Low b2 ∧ EC.Low b3) := ⟨m1, m2, m3⟩
          have ES : Hid ((J3 sx sy sz).pt = (EC.smul (aAt a (k + 1)) EC.gJ.pt).add (EC.smul (bAt b.toNat (k + 1)) (ptOf x y i))) := es
          clear CD ed onS m1 m2 m3 lx ly lz es
          have gS := hS.1.cells
          go_wp2_with fail
          refine calls_world (fun W => Below w.heap.size w W ∧ Mds W ∧ Cols W ∧ Nm W w.heap.size a ∧ Nm W bb b ∧ Bk12 W br ∧ TRow W bf (rowAt f 16) ∧ TV W bs sx sy sz) ⟨B, hD, hC, hA, hB, hR, hF, hS⟩ ?_
          clear B hD hC hA hB hR hF hS gS
          rintro W ⟨B, hD, hC, hA, hB, hR, hF, hS⟩
          clear wr
          with_reducible refine (CDH.out _ hD).mono ?_
          rintro e w1 ⟨rfl, hb⟩
          replace B := B.trans (hb.mono B.size)
          replace hD := hD.keep hb; replace hC := Pts.keep hC hb; replace hA := hA.keep hb; replace hB := hB.keep hb; replace hR := hR.keep hb; replace hF := hF.keep hb; replace hS := hS.keep hb
          clear hb W CDH
          have gS := hS.1.cells; have fS := hS.free
          go_wp2_with fail
          refine wp_world (fun W => Below w.heap.size w W ∧ Mds W ∧ Cols W ∧ Nm W w.heap.size a ∧ Nm W bb b ∧ Bk12 W br ∧ TRow W bf (rowAt f 16) ∧ TV W bs b1 b2 b3) ⟨below_put B os b1 b2 b3, hD.put nd b1 b2 b3, Pts.put hC nc b1 b2 b3, Cl.put hA na b1 b2 b3, Cl.put hB nb b1 b2 b3, hR.put nr b1 b2 b3, hF.put nf b1 b2 b3, hS.put b1 b2 b3⟩ ?_
          clear B hD hC hA hB hR hF hS gS fS
          rintro W ⟨B, hD, hC, hA, hB, hR, hF, hS⟩
          clear w1
          have hD16 := digN_lt b k
          have gF := hF.grown (i := digN b k) (by rw [rowAt_len]; exact hD16)
          rw [rowAt_get f hD16 hD16] at gF
          have hfd := HF.out (digN b k)
          have eK : Hid (digN b k = b.toNat / 2 ^ k % 16) := digN_is HB.out hk256 h4
          have CG := fun w => cdigit_any b (i := (k : Int)) (by omega) (by omega) w
          simp only [Int.toNat_natCast] at CG
          generalize digN b k = D at *
          obtain ⟨c1, c2, c3, k1, k2, k3, ec, CA⟩ := cadd_J LB.out.1 LB.out.2.1 LB.out.2.2 hfd.1.1 hfd.1.2.1 hfd.1.2.2
          have onF : EC.On (f D).j.pt := by rw [hfd.2]; exact EC.smul_on HQ.out _
          have eu : Hid ((J3 c1 c2 c3).pt = (J3 b1 b2 b3).pt.add (EC.smul D (ptOf x y i))) := by show _ = _; rw [ec, ← hfd.2]; exact EC.ja_pt onT.out onF
          have onU : Hid (EC.On (J3 c1 c2 c3).pt) := by show EC.On _; rw [eu.out]; exact EC.Pt.on onT.out (EC.smul_on HQ.out _)
          have CGH : Hid (∀ w, Calls Tryz.prog 42 #[.agg #[.int .u64 (l0 b), .int .u64 (l1 b), .int .u64 (l2 b), .int .u64 (l3 b)], .int .i64 (k : Int)] w fun e w' => e = .returned (.int .u64 (D : Int)) ∧ Below w.heap.size w w') := CG
          have CAH : Hid (∀ w, Mds w → Calls Tryz.prog 41 #[.agg #[.int .u64 (l0 b1), .int .u64 (l1 b1), .int .u64 (l2 b1), .int .u64 (l3 b1), .int .u64 (l0 b2), .int .u64 (l1 b2), .int .u64 (l2 b2), .int .u64 (l3 b2), .int .u64 (l0 b3), .int .u64 (l1 b3), .int .u64 (l2 b3), .int .u64 (l3 b3)], .agg #[.int .u64 (l0 (f D).x), .int .u64 (l1 (f D).x), .int .u64 (l2 (f D).x), .int .u64 (l3 (f D).x), .int .u64 (l0 (f D).y), .int .u64 (l1 (f D).y), .int .u64 (l2 (f D).y), .int .u64 (l3 (f D).y), .int .u64 (l0 (f D).z), .int .u64 (l1 (f D).z), .int .u64 (l2 (f D).z), .int .u64 (l3 (f D).z)]] w fun e w' => e = .returned (.agg #[.int .u64 (l0 c1), .int .u64 (l1 c1), .int .u64 (l2 c1), .int .u64 (l3 c1), .int .u64 (l0 c2), .int .u64 (l1 c2), .int .u64 (l2 c2), .int .u64 (l3 c2), .int .u64 (l0 c3), .int .u64 (l1 c3), .int .u64 (l2 c3), .int .u64 (l3 c3)]) ∧ Below w.heap.size w w') := CA
          have LC : Hid (EC.Low c1 ∧ EC.Low c2 ∧ EC.Low c3) := ⟨k1, k2, k3⟩
          have eD : Hid (bAt b.toNat k = 2 * bAt b.toNat (k + 1) + D) := by show _ = _; rw [eK.out]; exact bAt_step0 _ h4
          clear CG CA onF ec hfd k1 k2 k3 eK
          have q1 : (0 : Int) ≤ D ∧ (D : Int) < 16 := by omega
          have e2 : ((D : Int)).toNat = D := by omega
          have gS := hS.1.grown; have gB := hB.grown
          have hDg : ∀ d os, Mds (grow (redrawn W d) os) := fun d os => hD.keep (below_regrown W d os)
          refine below_tail 7 (by kernel_rfl) (by kernel_rfl) ?_
          simp only [List.take_succ_cons, List.take_zero, List.drop_succ_cons, List.drop_zero]
          repeat
            first
              | go_big_quiet_skip
              | (go_big_quiet_want; go_big_quiet_op; go_big_quiet_on)
              | (go_big_quiet_want
                 go_big_quiet_op
                 apply Exists.intro
                 refine ⟨fun p => ?_, ?_⟩
                 · (first | (go_at_call 42; with_reducible exact Calls.regrown_of (CGH.out _)) | (go_at_call 41; with_reducible exact Calls.regrown_of (CAH.out _ (hDg p.d p.os))))
                 go_big_quiet_on)
          refine wpQuiet_nil ?_
          rintro w2 ⟨p, rfl⟩
          have hb := below_regrown W p.d p.os
          generalize grow (redrawn W p.d) p.os = w2 at *
          replace B := B.trans (hb.mono B.size)
          replace hD := hD.keep hb; replace hC := Pts.keep hC hb; replace hA := hA.keep hb; replace hB := hB.keep hb; replace hR := hR.keep hb; replace hF := hF.keep hb; replace hS := hS.keep hb
          clear hb gS gB gF hDg CGH CAH W q1 e2 hD16
          have gS := hS.1.cells; have fS := hS.free
          go_wp2_with fail
          refine wp_world (fun W => Below w.heap.size w W ∧ Mds W ∧ Cols W ∧ Nm W w.heap.size a ∧ Nm W bb b ∧ Bk12 W br ∧ TRow W bf (rowAt f 16) ∧ TV W bs c1 c2 c3) ⟨below_put B os c1 c2 c3, hD.put nd c1 c2 c3, Pts.put hC nc c1 c2 c3, Cl.put hA na c1 c2 c3, Cl.put hB nb c1 c2 c3, hR.put nr c1 c2 c3, hF.put nf c1 c2 c3, hS.put c1 c2 c3⟩ ?_
          clear B hD hC hA hB hR hF hS gS fS
          rintro W ⟨B, hD, hC, hA, hB, hR, hF, hS⟩
          clear w2
          have hE16 := colN_lt a k
          have gC := fun d os => Pts.keep hC (below_regrown W d os) (colN a k) hE16
          simp only [Nat.zero_add] at gC
          have hcp := col_pt hE16
          have eA : Hid (aAt a k = 2 * aAt a (k + 1) + EC.colK (colN a k)) := aAt_step a k
          have CG := fun w => ccolumn_any a (i := (k : Int)) (by omega) (by omega) w
          simp only [Int.toNat_natCast] at CG
          generalize colN a k = E at *
          have eP : Hid ((colP.getD E ⟨0, 0, true⟩).pt = ptOf (colP.getD E ⟨0, 0, true⟩).x (colP.getD E ⟨0, 0, true⟩).y (colP.getD E ⟨0, 0, true⟩).i) := rfl
          generalize colP.getD E ⟨0, 0, true⟩ = cq at *
          obtain ⟨cx, cy, ci⟩ := cq
          simp only at gC hcp eP
          obtain ⟨a1, a2, a3, j1, j2, j3, ew, CW⟩ := cwiden_J hcp.1
          obtain ⟨d1, d2, d3, k1, k2, k3, ec, CA⟩ := cadd_J LC.out.1 LC.out.2.1 LC.out.2.2 j1 j2 j3
          have onF : EC.On (J3 a1 a2 a3).pt := by rw [ew]; exact hcp.1.on
          have ev : Hid ((J3 d1 d2 d3).pt = (J3 c1 c2 c3).pt.add (EC.smul (EC.colK E) EC.gJ.pt)) := by show _ = _; rw [ec, EC.ja_pt onU.out onF, ew, ← hcp.2, eP.out]
          have CGH : Hid (∀ w, Calls Tryz.prog 44 #[.agg #[.int .u64 (l0 a), .int .u64 (l1 a), .int .u64 (l2 a), .int .u64 (l3 a)], .int .i64 (k : Int)] w fun e w' => e = .returned (.int .u64 (E : Int)) ∧ Below w.heap.size w w') := CG
          have CWH : Hid (∀ w, Calls Tryz.prog 43 #[.agg #[.int .u64 (l0 cx), .int .u64 (l1 cx), .int .u64 (l2 cx), .int .u64 (l3 cx), .int .u64 (l0 cy), .int .u64 (l1 cy), .int .u64 (l2 cy), .int .u64 (l3 cy), .bool ci]] w fun e w' => e = .returned (.agg #[.int .u64 (l0 a1), .int .u64 (l1 a1), .int .u64 (l2 a1), .int .u64 (l3 a1), .int .u64 (l0 a2), .int .u64 (l1 a2), .int .u64 (l2 a2), .int .u64 (l3 a2), .int .u64 (l0 a3), .int .u64 (l1 a3), .int .u64 (l2 a3), .int .u64 (l3 a3)]) ∧ Below w.heap.size w w') := CW
          have CAH : Hid (∀ w, Mds w → Calls Tryz.prog 41 #[.agg #[.int .u64 (l0 c1), .int .u64 (l1 c1), .int .u64 (l2 c1), .int .u64 (l3 c1), .int .u64 (l0 c2), .int .u64 (l1 c2), .int .u64 (l2 c2), .int .u64 (l3 c2), .int .u64 (l0 c3), .int .u64 (l1 c3), .int .u64 (l2 c3), .int .u64 (l3 c3)], .agg #[.int .u64 (l0 a1), .int .u64 (l1 a1), .int .u64 (l2 a1), .int .u64 (l3 a1), .int .u64 (l0 a2), .int .u64 (l1 a2), .int .u64 (l2 a2), .int .u64 (l3 a2), .int .u64 (l0 a3), .int .u64 (l1 a3), .int .u64 (l2 a3), .int .u64 (l3 a3)]] w fun e w' => e = .returned (.agg #[.int .u64 (l0 d1), .int .u64 (l1 d1), .int .u64 (l2 d1), .int .u64 (l3 d1), .int .u64 (l0 d2), .int .u64 (l1 d2), .int .u64 (l2 d2), .int .u64 (l3 d2), .int .u64 (l0 d3), .int .u64 (l1 d3), .int .u64 (l2 d3), .int .u64 (l3 d3)]) ∧ Below w.heap.size w w') := CA
          have LE : Hid (EC.Low d1 ∧ EC.Low d2 ∧ EC.Low d3) := ⟨k1, k2, k3⟩
          clear CG CW CA onF ec ew hcp k1 k2 k3 j1 j2 j3 eP
          have q1 : (0 : Int) ≤ E ∧ (E : Int) < 16 := by omega
          have e2 : ((E : Int)).toNat = E := by omega
          have gS := hS.1.grown; have gA := hA.grown
          have hDg : ∀ d os, Mds (grow (redrawn W d) os) := fun d os => hD.keep (below_regrown W d os)
          refine below_tail 8 (by kernel_rfl) (by kernel_rfl) ?_
          simp only [List.take_succ_cons, List.take_zero, List.drop_succ_cons, List.drop_zero]
          repeat
            first
              | go_big_quiet_skip
              | (go_big_quiet_want; go_big_quiet_op; go_big_quiet_on)
              | (go_big_quiet_want
                 go_big_quiet_op
                 apply Exists.intro
                 refine ⟨fun p => ?_, ?_⟩
                 · (first | (go_at_call 44; with_reducible exact Calls.regrown_of (CGH.out _)) | (go_at_call 43; with_reducible exact Calls.regrown_of (CWH.out _)) | (go_at_call 41; with_reducible exact Calls.regrown_of (CAH.out _ (hDg p.d p.os))))
                 go_big_quiet_on)
          refine wpQuiet_nil ?_
          rintro w3 ⟨p, rfl⟩
          have hb := below_regrown W p.d p.os
          generalize grow (redrawn W p.d) p.os = w3 at *
          replace B := B.trans (hb.mono B.size)
          replace hD := hD.keep hb; replace hC := Pts.keep hC hb; replace hA := hA.keep hb; replace hB := hB.keep hb; replace hR := hR.keep hb; replace hF := hF.keep hb; replace hS := hS.keep hb
          clear hb gS gA gC hDg CGH CWH CAH W q1 e2 hE16
          have gS := hS.1.cells; have fS := hS.free
          go_wp2_with fail
          go_roundg k
          case measure => have := hk; omega
          case rel =>
            exact ⟨k, rfl, by omega, by go_num, below_put B os d1 d2 d3, hD.put nd d1 d2 d3, Pts.put hC nc d1 d2 d3, Cl.put hA na d1 d2 d3, Cl.put hB nb d1 d2 d3, hR.put nr d1 d2 d3, hF.put nf d1 d2 d3, d1, d2, d3, LE.out.1, LE.out.2.1, LE.out.2.2, round_pt HQ.out ES.out et.out eu.out ev.out eA.out eD.out, hS.put d1 d2 d3⟩
        · have h64 : ¬ (k : Int) < 64 := by omega
          obtain ⟨b1, b2, b3, m1, m2, m3, ed, CD⟩ := cdbl_J lx ly lz
          have onS : EC.On (J3 sx sy sz).pt := by rw [es]; exact EC.Pt.on (EC.smul_on EC.gJ_on _) (EC.smul_on HQ.out _)
          have et : Hid ((J3 b1 b2 b3).pt = (J3 sx sy sz).pt.add (J3 sx sy sz).pt) := by show _ = _; rw [ed, EC.jd_pt onS]
          have onT : Hid (EC.On (J3 b1 b2 b3).pt) := by show EC.On _; rw [et.out]; exact EC.Pt.on onS onS
          have CDH : Hid (∀ w, Mds w → Calls Tryz.prog 40 #[.agg #[.int .u64 (l0 sx), .int .u64 (l1 sx), .int .u64 (l2 sx), .int .u64 (l3 sx), .int .u64 (l0 sy), .int .u64 (l1 sy), .int .u64 (l2 sy), .int .u64 (l3 sy), .int .u64 (l0 sz), .int .u64 (l1 sz), .int .u64 (l2 sz), .int .u64 (l3 sz)]] w fun e w' => e = .returned (.agg #[.int .u64 (l0 b1), .int .u64 (l1 b1), .int .u64 (l2 b1), .int .u64 (l3 b1), .int .u64 (l0 b2), .int .u64 (l1 b2), .int .u64 (l2 b2), .int .u64 (l3 b2), .int .u64 (l0 b3), .int .u64 (l1 b3), .int .u64 (l2 b3), .int .u64 (l3 b3)]) ∧ Below w.heap.size w w') := CD
          have LB : Hid (EC.Low b1 ∧ EC.Low b2 ∧ EC.Low b3) := ⟨m1, m2, m3⟩
          have ES : Hid ((J3 sx sy sz).pt = (EC.smul (aAt a (k + 1)) EC.gJ.pt).add (EC.smul (bAt b.toNat (k + 1)) (ptOf x y i))) := es
          clear CD ed onS m1 m2 m3 lx ly lz es
          have gS := hS.1.cells
          go_wp2_with fail
          refine calls_world (fun W => Below w.heap.size w W ∧ Mds W ∧ Cols W ∧ Nm W w.heap.size a ∧ Nm W bb b ∧ Bk12 W br ∧ TRow W bf (rowAt f 16) ∧ TV W bs sx sy sz) ⟨B, hD, hC, hA, hB, hR, hF, hS⟩ ?_
          clear B hD hC hA hB hR hF hS gS
          rintro W ⟨B, hD, hC, hA, hB, hR, hF, hS⟩
          clear wr
          with_reducible refine (CDH.out _ hD).mono ?_
          rintro e w1 ⟨rfl, hb⟩
          replace B := B.trans (hb.mono B.size)
          replace hD := hD.keep hb; replace hC := Pts.keep hC hb; replace hA := hA.keep hb; replace hB := hB.keep hb; replace hR := hR.keep hb; replace hF := hF.keep hb; replace hS := hS.keep hb
          clear hb W CDH
          have gS := hS.1.cells; have fS := hS.free
          go_wp2_with fail
          refine wp_world (fun W => Below w.heap.size w W ∧ Mds W ∧ Cols W ∧ Nm W w.heap.size a ∧ Nm W bb b ∧ Bk12 W br ∧ TRow W bf (rowAt f 16) ∧ TV W bs b1 b2 b3) ⟨below_put B os b1 b2 b3, hD.put nd b1 b2 b3, Pts.put hC nc b1 b2 b3, Cl.put hA na b1 b2 b3, Cl.put hB nb b1 b2 b3, hR.put nr b1 b2 b3, hF.put nf b1 b2 b3, hS.put b1 b2 b3⟩ ?_
          clear B hD hC hA hB hR hF hS gS fS
          rintro W ⟨B, hD, hC, hA, hB, hR, hF, hS⟩
          clear w1
          have hD16 := digN_lt b k
          have gF := hF.grown (i := digN b k) (by rw [rowAt_len]; exact hD16)
          rw [rowAt_get f hD16 hD16] at gF
          have hfd := HF.out (digN b k)
          have eK : Hid (digN b k = b.toNat / 2 ^ k % 16) := digN_is HB.out hk256 h4
          have CG := fun w => cdigit_any b (i := (k : Int)) (by omega) (by omega) w
          simp only [Int.toNat_natCast] at CG
          generalize digN b k = D at *
          obtain ⟨c1, c2, c3, k1, k2, k3, ec, CA⟩ := cadd_J LB.out.1 LB.out.2.1 LB.out.2.2 hfd.1.1 hfd.1.2.1 hfd.1.2.2
          have onF : EC.On (f D).j.pt := by rw [hfd.2]; exact EC.smul_on HQ.out _
          have eu : Hid ((J3 c1 c2 c3).pt = (J3 b1 b2 b3).pt.add (EC.smul D (ptOf x y i))) := by show _ = _; rw [ec, ← hfd.2]; exact EC.ja_pt onT.out onF
          have onU : Hid (EC.On (J3 c1 c2 c3).pt) := by show EC.On _; rw [eu.out]; exact EC.Pt.on onT.out (EC.smul_on HQ.out _)
          have CGH : Hid (∀ w, Calls Tryz.prog 42 #[.agg #[.int .u64 (l0 b), .int .u64 (l1 b), .int .u64 (l2 b), .int .u64 (l3 b)], .int .i64 (k : Int)] w fun e w' => e = .returned (.int .u64 (D : Int)) ∧ Below w.heap.size w w') := CG
          have CAH : Hid (∀ w, Mds w → Calls Tryz.prog 41 #[.agg #[.int .u64 (l0 b1), .int .u64 (l1 b1), .int .u64 (l2 b1), .int .u64 (l3 b1), .int .u64 (l0 b2), .int .u64 (l1 b2), .int .u64 (l2 b2), .int .u64 (l3 b2), .int .u64 (l0 b3), .int .u64 (l1 b3), .int .u64 (l2 b3), .int .u64 (l3 b3)], .agg #[.int .u64 (l0 (f D).x), .int .u64 (l1 (f D).x), .int .u64 (l2 (f D).x), .int .u64 (l3 (f D).x), .int .u64 (l0 (f D).y), .int .u64 (l1 (f D).y), .int .u64 (l2 (f D).y), .int .u64 (l3 (f D).y), .int .u64 (l0 (f D).z), .int .u64 (l1 (f D).z), .int .u64 (l2 (f D).z), .int .u64 (l3 (f D).z)]] w fun e w' => e = .returned (.agg #[.int .u64 (l0 c1), .int .u64 (l1 c1), .int .u64 (l2 c1), .int .u64 (l3 c1), .int .u64 (l0 c2), .int .u64 (l1 c2), .int .u64 (l2 c2), .int .u64 (l3 c2), .int .u64 (l0 c3), .int .u64 (l1 c3), .int .u64 (l2 c3), .int .u64 (l3 c3)]) ∧ Below w.heap.size w w') := CA
          have LC : Hid (EC.Low c1 ∧ EC.Low c2 ∧ EC.Low c3) := ⟨k1, k2, k3⟩
          have eD : Hid (bAt b.toNat k = 2 * bAt b.toNat (k + 1) + D) := by show _ = _; rw [eK.out]; exact bAt_step0 _ h4
          clear CG CA onF ec hfd k1 k2 k3 eK
          have q1 : (0 : Int) ≤ D ∧ (D : Int) < 16 := by omega
          have e2 : ((D : Int)).toNat = D := by omega
          have gS := hS.1.grown; have gB := hB.grown
          have hDg : ∀ d os, Mds (grow (redrawn W d) os) := fun d os => hD.keep (below_regrown W d os)
          refine below_tail 7 (by kernel_rfl) (by kernel_rfl) ?_
          simp only [List.take_succ_cons, List.take_zero, List.drop_succ_cons, List.drop_zero]
          repeat
            first
              | go_big_quiet_skip
              | (go_big_quiet_want; go_big_quiet_op; go_big_quiet_on)
              | (go_big_quiet_want
                 go_big_quiet_op
                 apply Exists.intro
                 refine ⟨fun p => ?_, ?_⟩
                 · (first | (go_at_call 42; with_reducible exact Calls.regrown_of (CGH.out _)) | (go_at_call 41; with_reducible exact Calls.regrown_of (CAH.out _ (hDg p.d p.os))))
                 go_big_quiet_on)
          refine wpQuiet_nil ?_
          rintro w2 ⟨p, rfl⟩
          have hb := below_regrown W p.d p.os
          generalize grow (redrawn W p.d) p.os = w2 at *
          replace B := B.trans (hb.mono B.size)
          replace hD := hD.keep hb; replace hC := Pts.keep hC hb; replace hA := hA.keep hb; replace hB := hB.keep hb; replace hR := hR.keep hb; replace hF := hF.keep hb; replace hS := hS.keep hb
          clear hb gS gB gF hDg CGH CAH W q1 e2 hD16
          have gS := hS.1.cells; have fS := hS.free
          go_wp2_with fail
          have eA : Hid (aAt a k = 2 * aAt a (k + 1) + 0) := by show _ = _; rw [aAt_far a (by omega), aAt_far a (by omega)]
          have ev : (J3 c1 c2 c3).pt = (J3 c1 c2 c3).pt.add (EC.smul 0 EC.gJ.pt) := (EC.add_o _).symm
          go_roundg k
          case measure => have := hk; omega
          case rel =>
            exact ⟨k, rfl, by omega, by go_num, below_put B os c1 c2 c3, hD.put nd c1 c2 c3, Pts.put hC nc c1 c2 c3, Cl.put hA na c1 c2 c3, Cl.put hB nb c1 c2 c3, hR.put nr c1 c2 c3, hF.put nf c1 c2 c3, c1, c2, c3, LC.out.1, LC.out.2.1, LC.out.2.2, round_pt HQ.out ES.out et.out eu.out ev eA.out eD.out, hS.put c1 c2 c3⟩
      · have t4 : ¬ (k : Int).tmod 4 = 0 := by rw [Int.tmod_eq_emod_of_nonneg hk0]; omega
        by_cases h6 : k < 64
        · have h64 : (k : Int) < 64 := by omega
          obtain ⟨b1, b2, b3, m1, m2, m3, ed, CD⟩ := cdbl_J lx ly lz
          have onS : EC.On (J3 sx sy sz).pt := by rw [es]; exact EC.Pt.on (EC.smul_on EC.gJ_on _) (EC.smul_on HQ.out _)
          have et : Hid ((J3 b1 b2 b3).pt = (J3 sx sy sz).pt.add (J3 sx sy sz).pt) := by show _ = _; rw [ed, EC.jd_pt onS]
          have onT : Hid (EC.On (J3 b1 b2 b3).pt) := by show EC.On _; rw [et.out]; exact EC.Pt.on onS onS
          have CDH : Hid (∀ w, Mds w → Calls Tryz.prog 40 #[.agg #[.int .u64 (l0 sx), .int .u64 (l1 sx), .int .u64 (l2 sx), .int .u64 (l3 sx), .int .u64 (l0 sy), .int .u64 (l1 sy), .int .u64 (l2 sy), .int .u64 (l3 sy), .int .u64 (l0 sz), .int .u64 (l1 sz), .int .u64 (l2 sz), .int .u64 (l3 sz)]] w fun e w' => e = .returned (.agg #[.int .u64 (l0 b1), .int .u64 (l1 b1), .int .u64 (l2 b1), .int .u64 (l3 b1), .int .u64 (l0 b2), .int .u64 (l1 b2), .int .u64 (l2 b2), .int .u64 (l3 b2), .int .u64 (l0 b3), .int .u64 (l1 b3), .int .u64 (l2 b3), .int .u64 (l3 b3)]) ∧ Below w.heap.size w w') := CD
          have LB : Hid (EC.Low b1 ∧ EC.Low b2 ∧ EC.Low b3) := ⟨m1, m2, m3⟩
          have ES : Hid ((J3 sx sy sz).pt = (EC.smul (aAt a (k + 1)) EC.gJ.pt).add (EC.smul (bAt b.toNat (k + 1)) (ptOf x y i))) := es
          clear CD ed onS m1 m2 m3 lx ly lz es
          have gS := hS.1.cells
          go_wp2_with fail
          refine calls_world (fun W => Below w.heap.size w W ∧ Mds W ∧ Cols W ∧ Nm W w.heap.size a ∧ Nm W bb b ∧ Bk12 W br ∧ TRow W bf (rowAt f 16) ∧ TV W bs sx sy sz) ⟨B, hD, hC, hA, hB, hR, hF, hS⟩ ?_
          clear B hD hC hA hB hR hF hS gS
          rintro W ⟨B, hD, hC, hA, hB, hR, hF, hS⟩
          clear wr
          with_reducible refine (CDH.out _ hD).mono ?_
          rintro e w1 ⟨rfl, hb⟩
          replace B := B.trans (hb.mono B.size)
          replace hD := hD.keep hb; replace hC := Pts.keep hC hb; replace hA := hA.keep hb; replace hB := hB.keep hb; replace hR := hR.keep hb; replace hF := hF.keep hb; replace hS := hS.keep hb
          clear hb W CDH
          have gS := hS.1.cells; have fS := hS.free
          go_wp2_with fail
          refine wp_world (fun W => Below w.heap.size w W ∧ Mds W ∧ Cols W ∧ Nm W w.heap.size a ∧ Nm W bb b ∧ Bk12 W br ∧ TRow W bf (rowAt f 16) ∧ TV W bs b1 b2 b3) ⟨below_put B os b1 b2 b3, hD.put nd b1 b2 b3, Pts.put hC nc b1 b2 b3, Cl.put hA na b1 b2 b3, Cl.put hB nb b1 b2 b3, hR.put nr b1 b2 b3, hF.put nf b1 b2 b3, hS.put b1 b2 b3⟩ ?_
          clear B hD hC hA hB hR hF hS gS fS
          rintro W ⟨B, hD, hC, hA, hB, hR, hF, hS⟩
          have eu : Hid ((J3 b1 b2 b3).pt = (J3 b1 b2 b3).pt.add (EC.smul 0 (ptOf x y i))) := (EC.add_o _).symm
          have eD : Hid (bAt b.toNat k = 2 * bAt b.toNat (k + 1) + 0) := bAt_step1 _ h4
          have onU := onT; have LC := LB
          clear w1
          have hE16 := colN_lt a k
          have gC := fun d os => Pts.keep hC (below_regrown W d os) (colN a k) hE16
          simp only [Nat.zero_add] at gC
          have hcp := col_pt hE16
          have eA : Hid (aAt a k = 2 * aAt a (k + 1) + EC.colK (colN a k)) := aAt_step a k
          have CG := fun w => ccolumn_any a (i := (k : Int)) (by omega) (by omega) w
          simp only [Int.toNat_natCast] at CG
          generalize colN a k = E at *
          have eP : Hid ((colP.getD E ⟨0, 0, true⟩).pt = ptOf (colP.getD E ⟨0, 0, true⟩).x (colP.getD E ⟨0, 0, true⟩).y (colP.getD E ⟨0, 0, true⟩).i) := rfl
          generalize colP.getD E ⟨0, 0, true⟩ = cq at *
          obtain ⟨cx, cy, ci⟩ := cq
          simp only at gC hcp eP
          obtain ⟨a1, a2, a3, j1, j2, j3, ew, CW⟩ := cwiden_J hcp.1
          obtain ⟨d1, d2, d3, k1, k2, k3, ec, CA⟩ := cadd_J LC.out.1 LC.out.2.1 LC.out.2.2 j1 j2 j3
          have onF : EC.On (J3 a1 a2 a3).pt := by rw [ew]; exact hcp.1.on
          have ev : Hid ((J3 d1 d2 d3).pt = (J3 b1 b2 b3).pt.add (EC.smul (EC.colK E) EC.gJ.pt)) := by show _ = _; rw [ec, EC.ja_pt onU.out onF, ew, ← hcp.2, eP.out]
          have CGH : Hid (∀ w, Calls Tryz.prog 44 #[.agg #[.int .u64 (l0 a), .int .u64 (l1 a), .int .u64 (l2 a), .int .u64 (l3 a)], .int .i64 (k : Int)] w fun e w' => e = .returned (.int .u64 (E : Int)) ∧ Below w.heap.size w w') := CG
          have CWH : Hid (∀ w, Calls Tryz.prog 43 #[.agg #[.int .u64 (l0 cx), .int .u64 (l1 cx), .int .u64 (l2 cx), .int .u64 (l3 cx), .int .u64 (l0 cy), .int .u64 (l1 cy), .int .u64 (l2 cy), .int .u64 (l3 cy), .bool ci]] w fun e w' => e = .returned (.agg #[.int .u64 (l0 a1), .int .u64 (l1 a1), .int .u64 (l2 a1), .int .u64 (l3 a1), .int .u64 (l0 a2), .int .u64 (l1 a2), .int .u64 (l2 a2), .int .u64 (l3 a2), .int .u64 (l0 a3), .int .u64 (l1 a3), .int .u64 (l2 a3), .int .u64 (l3 a3)]) ∧ Below w.heap.size w w') := CW
          have CAH : Hid (∀ w, Mds w → Calls Tryz.prog 41 #[.agg #[.int .u64 (l0 b1), .int .u64 (l1 b1), .int .u64 (l2 b1), .int .u64 (l3 b1), .int .u64 (l0 b2), .int .u64 (l1 b2), .int .u64 (l2 b2), .int .u64 (l3 b2), .int .u64 (l0 b3), .int .u64 (l1 b3), .int .u64 (l2 b3), .int .u64 (l3 b3)], .agg #[.int .u64 (l0 a1), .int .u64 (l1 a1), .int .u64 (l2 a1), .int .u64 (l3 a1), .int .u64 (l0 a2), .int .u64 (l1 a2), .int .u64 (l2 a2), .int .u64 (l3 a2), .int .u64 (l0 a3), .int .u64 (l1 a3), .int .u64 (l2 a3), .int .u64 (l3 a3)]] w fun e w' => e = .returned (.agg #[.int .u64 (l0 d1), .int .u64 (l1 d1), .int .u64 (l2 d1), .int .u64 (l3 d1), .int .u64 (l0 d2), .int .u64 (l1 d2), .int .u64 (l2 d2), .int .u64 (l3 d2), .int .u64 (l0 d3), .int .u64 (l1 d3), .int .u64 (l2 d3), .int .u64 (l3 d3)]) ∧ Below w.heap.size w w') := CA
          have LE : Hid (EC.Low d1 ∧ EC.Low d2 ∧ EC.Low d3) := ⟨k1, k2, k3⟩
          clear CG CW CA onF ec ew hcp k1 k2 k3 j1 j2 j3 eP
          have q1 : (0 : Int) ≤ E ∧ (E : Int) < 16 := by omega
          have e2 : ((E : Int)).toNat = E := by omega
          have gS := hS.1.grown; have gA := hA.grown
          have hDg : ∀ d os, Mds (grow (redrawn W d) os) := fun d os => hD.keep (below_regrown W d os)
          refine below_tail 8 (by kernel_rfl) (by kernel_rfl) ?_
          simp only [List.take_succ_cons, List.take_zero, List.drop_succ_cons, List.drop_zero]
          repeat
            first
              | go_big_quiet_skip
              | (go_big_quiet_want; go_big_quiet_op; go_big_quiet_on)
              | (go_big_quiet_want
                 go_big_quiet_op
                 apply Exists.intro
                 refine ⟨fun p => ?_, ?_⟩
                 · (first | (go_at_call 44; with_reducible exact Calls.regrown_of (CGH.out _)) | (go_at_call 43; with_reducible exact Calls.regrown_of (CWH.out _)) | (go_at_call 41; with_reducible exact Calls.regrown_of (CAH.out _ (hDg p.d p.os))))
                 go_big_quiet_on)
          refine wpQuiet_nil ?_
          rintro w3 ⟨p, rfl⟩
          have hb := below_regrown W p.d p.os
          generalize grow (redrawn W p.d) p.os = w3 at *
          replace B := B.trans (hb.mono B.size)
          replace hD := hD.keep hb; replace hC := Pts.keep hC hb; replace hA := hA.keep hb; replace hB := hB.keep hb; replace hR := hR.keep hb; replace hF := hF.keep hb; replace hS := hS.keep hb
          clear hb gS gA gC hDg CGH CWH CAH W q1 e2 hE16
          have gS := hS.1.cells; have fS := hS.free
          go_wp2_with fail
          go_roundg k
          case measure => have := hk; omega
          case rel =>
            exact ⟨k, rfl, by omega, by go_num, below_put B os d1 d2 d3, hD.put nd d1 d2 d3, Pts.put hC nc d1 d2 d3, Cl.put hA na d1 d2 d3, Cl.put hB nb d1 d2 d3, hR.put nr d1 d2 d3, hF.put nf d1 d2 d3, d1, d2, d3, LE.out.1, LE.out.2.1, LE.out.2.2, round_pt HQ.out ES.out et.out eu.out ev.out eA.out eD.out, hS.put d1 d2 d3⟩
        · have h64 : ¬ (k : Int) < 64 := by omega
          obtain ⟨b1, b2, b3, m1, m2, m3, ed, CD⟩ := cdbl_J lx ly lz
          have onS : EC.On (J3 sx sy sz).pt := by rw [es]; exact EC.Pt.on (EC.smul_on EC.gJ_on _) (EC.smul_on HQ.out _)
          have et : Hid ((J3 b1 b2 b3).pt = (J3 sx sy sz).pt.add (J3 sx sy sz).pt) := by show _ = _; rw [ed, EC.jd_pt onS]
          have onT : Hid (EC.On (J3 b1 b2 b3).pt) := by show EC.On _; rw [et.out]; exact EC.Pt.on onS onS
          have CDH : Hid (∀ w, Mds w → Calls Tryz.prog 40 #[.agg #[.int .u64 (l0 sx), .int .u64 (l1 sx), .int .u64 (l2 sx), .int .u64 (l3 sx), .int .u64 (l0 sy), .int .u64 (l1 sy), .int .u64 (l2 sy), .int .u64 (l3 sy), .int .u64 (l0 sz), .int .u64 (l1 sz), .int .u64 (l2 sz), .int .u64 (l3 sz)]] w fun e w' => e = .returned (.agg #[.int .u64 (l0 b1), .int .u64 (l1 b1), .int .u64 (l2 b1), .int .u64 (l3 b1), .int .u64 (l0 b2), .int .u64 (l1 b2), .int .u64 (l2 b2), .int .u64 (l3 b2), .int .u64 (l0 b3), .int .u64 (l1 b3), .int .u64 (l2 b3), .int .u64 (l3 b3)]) ∧ Below w.heap.size w w') := CD
          have LB : Hid (EC.Low b1 ∧ EC.Low b2 ∧ EC.Low b3) := ⟨m1, m2, m3⟩
          have ES : Hid ((J3 sx sy sz).pt = (EC.smul (aAt a (k + 1)) EC.gJ.pt).add (EC.smul (bAt b.toNat (k + 1)) (ptOf x y i))) := es
          clear CD ed onS m1 m2 m3 lx ly lz es
          have gS := hS.1.cells
          go_wp2_with fail
          refine calls_world (fun W => Below w.heap.size w W ∧ Mds W ∧ Cols W ∧ Nm W w.heap.size a ∧ Nm W bb b ∧ Bk12 W br ∧ TRow W bf (rowAt f 16) ∧ TV W bs sx sy sz) ⟨B, hD, hC, hA, hB, hR, hF, hS⟩ ?_
          clear B hD hC hA hB hR hF hS gS
          rintro W ⟨B, hD, hC, hA, hB, hR, hF, hS⟩
          clear wr
          with_reducible refine (CDH.out _ hD).mono ?_
          rintro e w1 ⟨rfl, hb⟩
          replace B := B.trans (hb.mono B.size)
          replace hD := hD.keep hb; replace hC := Pts.keep hC hb; replace hA := hA.keep hb; replace hB := hB.keep hb; replace hR := hR.keep hb; replace hF := hF.keep hb; replace hS := hS.keep hb
          clear hb W CDH
          have gS := hS.1.cells; have fS := hS.free
          go_wp2_with fail
          have eu : Hid ((J3 b1 b2 b3).pt = (J3 b1 b2 b3).pt.add (EC.smul 0 (ptOf x y i))) := (EC.add_o _).symm
          have eD : Hid (bAt b.toNat k = 2 * bAt b.toNat (k + 1) + 0) := bAt_step1 _ h4
          have onU := onT; have LC := LB
          have eA : Hid (aAt a k = 2 * aAt a (k + 1) + 0) := by show _ = _; rw [aAt_far a (by omega), aAt_far a (by omega)]
          have ev : (J3 b1 b2 b3).pt = (J3 b1 b2 b3).pt.add (EC.smul 0 EC.gJ.pt) := (EC.add_o _).symm
          go_roundg k
          case measure => have := hk; omega
          case rel =>
            exact ⟨k, rfl, by omega, by go_num, below_put B os b1 b2 b3, hD.put nd b1 b2 b3, Pts.put hC nc b1 b2 b3, Cl.put hA na b1 b2 b3, Cl.put hB nb b1 b2 b3, hR.put nr b1 b2 b3, hF.put nf b1 b2 b3, b1, b2, b3, LC.out.1, LC.out.2.1, LC.out.2.2, round_pt HQ.out ES.out et.out eu.out ev eA.out eD.out, hS.put b1 b2 b3⟩
end Go.Proofs.YtiebnlahhmngcaaGreatDoor

namespace Go.Proofs.YtiebnlahhmngcaaGreatDoor
open Go.RowKit Go.Sort

theorem cblend_any {a b x y : Int} {i : Bool} (ha : Num a) (hb : Num b) (hv : Vd x y i) : Hid (∀ w, Mds w → Cols w → Calls Tryz.prog 26 #[.agg #[.int .u64 (l0 a), .int .u64 (l1 a), .int .u64 (l2 a), .int .u64 (l3 a)], .agg #[.int .u64 (l0 b), .int .u64 (l1 b), .int .u64 (l2 b), .int .u64 (l3 b)], .agg #[.int .u64 (l0 x), .int .u64 (l1 x), .int .u64 (l2 x), .int .u64 (l3 x), .int .u64 (l0 y), .int .u64 (l1 y), .int .u64 (l2 y), .int .u64 (l3 y), .bool i]] w fun e w' => ∃ x' y' z', EC.Low x' ∧ EC.Low y' ∧ EC.Low z' ∧ (J3 x' y' z').pt = (EC.smul a.toNat EC.gJ.pt).add (EC.smul b.toNat (ptOf x y i)) ∧ e = .returned (.agg #[.int .u64 (l0 x'), .int .u64 (l1 x'), .int .u64 (l2 x'), .int .u64 (l3 x'), .int .u64 (l0 y'), .int .u64 (l1 y'), .int .u64 (l2 y'), .int .u64 (l3 y'), .int .u64 (l0 z'), .int .u64 (l1 z'), .int .u64 (l2 z'), .int .u64 (l3 z')]) ∧ Below w.heap.size w w') := fun w hm hc => by
  obtain ⟨t, f, CW, h0, hf⟩ := cmult_seq hv
  exact cblend_walk hb hv (fun k => ⟨(hf k).1, (hf k).2.1⟩) (fun w hm => cmulti_walk CW h0 (fun k w hm => (hf k).2.2 w hm) w hm) ha w hm hc

set_option maxRecDepth 100000 in
set_option maxHeartbeats 4000000 in
theorem cmulg_walk {k x' y' : Int} {j : Bool} {p : EC.Pt} (CB : Hid (∀ w, Mds w → Cols w → Calls Tryz.prog 26 #[.agg #[.int .u64 (l0 k), .int .u64 (l1 k), .int .u64 (l2 k), .int .u64 (l3 k)], .agg #[.int .u64 0, .int .u64 0, .int .u64 0, .int .u64 0], .agg #[.int .u64 0, .int .u64 0, .int .u64 0, .int .u64 0, .int .u64 0, .int .u64 0, .int .u64 0, .int .u64 0, .bool true]] w fun e w' => ∃ x' y' z', EC.Low x' ∧ EC.Low y' ∧ EC.Low z' ∧ (J3 x' y' z').pt = p ∧ e = .returned (.agg #[.int .u64 (l0 x'), .int .u64 (l1 x'), .int .u64 (l2 x'), .int .u64 (l3 x'), .int .u64 (l0 y'), .int .u64 (l1 y'), .int .u64 (l2 y'), .int .u64 (l3 y'), .int .u64 (l0 z'), .int .u64 (l1 z'), .int .u64 (l2 z'), .int .u64 (l3 z')]) ∧ Below w.heap.size w w')) (HJ : Hid (Vd x' y' j ∧ ptOf x' y' j = p)) (w : World) (hm : Mds w) (hc : Cols w) :
    Calls Tryz.prog 14 #[.agg #[.int .u64 (l0 k), .int .u64 (l1 k), .int .u64 (l2 k), .int .u64 (l3 k)]] w fun e w' => e = .returned (.agg #[.int .u64 (l0 x'), .int .u64 (l1 x'), .int .u64 (l2 x'), .int .u64 (l3 x'), .int .u64 (l0 y'), .int .u64 (l1 y'), .int .u64 (l2 y'), .int .u64 (l3 y'), .bool j]) ∧ Below w.heap.size w w' := by
  go_enter Tryz.func14, Tryz.ntmps14
  go_wp2_with fail
  refine calls_world (fun W => Below w.heap.size w W ∧ Mds W ∧ Cols W ∧ Bk9 W (w.heap.size + 1)) ⟨by repeat (first | with_reducible exact Below.refl _ _ | with_reducible refine Below.alloc ?_ (by first | omega | (simp; done) | (simp; omega)) _), (hm.alloc _).alloc _, (Pts.alloc hc _).alloc _, Bk9.new (by simp)⟩ ?_
  rintro W ⟨B, hD, hC, hR⟩
  have o3 : w.heap.size ≤ w.heap.size + 1 := by omega
  generalize w.heap.size + 1 = br at *
  with_reducible refine (CB.out _ hD hC).mono ?_
  rintro e w1 ⟨tx, ty, tz, s1, s2, s3, ep, rfl, hb⟩
  replace B := B.trans (hb.mono B.size)
  replace hD := hD.keep hb; replace hR := hR.keep hb
  clear hb W hC CB
  obtain ⟨px, py, pi, u1, u2, u3, u4, CP⟩ := cpoint_J s1 s2 s3
  have hvd : Vd px py pi := by
    have hon : EC.On (ptOf px py pi) := by rw [u4, ep, ← HJ.out.2]; exact HJ.out.1.on
    cases pi with
    | true => exact u3 rfl
    | false => exact ⟨u1, u2, hon⟩
  obtain ⟨rfl, rfl, rfl⟩ := hvd.inj HJ.out.1 (by rw [u4, ep, HJ.out.2])
  have CPH : Hid (∀ w, Mds w → Calls Tryz.prog 27 #[.agg #[.int .u64 (l0 tx), .int .u64 (l1 tx), .int .u64 (l2 tx), .int .u64 (l3 tx), .int .u64 (l0 ty), .int .u64 (l1 ty), .int .u64 (l2 ty), .int .u64 (l3 ty), .int .u64 (l0 tz), .int .u64 (l1 tz), .int .u64 (l2 tz), .int .u64 (l3 tz)]] w fun e w' => e = .returned (.agg #[.int .u64 (l0 px), .int .u64 (l1 px), .int .u64 (l2 px), .int .u64 (l3 px), .int .u64 (l0 py), .int .u64 (l1 py), .int .u64 (l2 py), .int .u64 (l3 py), .bool pi]) ∧ Below w.heap.size w w') := CP
  clear CP u1 u2 u3 u4 hvd s1 s2 s3 ep
  go_wp2_with fail
  refine calls_world (fun W => Below w.heap.size w W ∧ Mds W ∧ Bk9 W br) ⟨B, hD, hR⟩ ?_
  clear B hD hR
  rintro W ⟨B, hD, hR⟩
  clear w1
  with_reducible refine (CPH.out _ hD).mono ?_
  rintro e w1 ⟨rfl, hb⟩
  replace B := B.trans (hb.mono B.size)
  replace hR := hR.keep hb
  clear hb W hD CPH
  have gR := hR.cells; have fR := hR.free
  go_wp2
  simp [bodyPost, results, Tryz.results14, go_sem, gR]
  repeat (first | with_reducible exact B | with_reducible refine Below.setCell ?_ o3 _)

theorem cmulg_any {k x' y' : Int} {j : Bool} (hk : Num k) (hj : Vd x' y' j) (ej : ptOf x' y' j = EC.smul k.toNat EC.gJ.pt) (w : World) (hm : Mds w) (hc : Cols w) :
    Calls Tryz.prog 14 #[.agg #[.int .u64 (l0 k), .int .u64 (l1 k), .int .u64 (l2 k), .int .u64 (l3 k)]] w fun e w' => e = .returned (.agg #[.int .u64 (l0 x'), .int .u64 (l1 x'), .int .u64 (l2 x'), .int .u64 (l3 x'), .int .u64 (l0 y'), .int .u64 (l1 y'), .int .u64 (l2 y'), .int .u64 (l3 y'), .bool j]) ∧ Below w.heap.size w w' := by
  obtain ⟨z0, z1, z2, z3⟩ := zero_limbs
  have CB := fun w hm hc => (cblend_any (b := 0) (x := 0) (y := 0) (i := true) hk ⟨by decide, by decide⟩ ⟨rfl, rfl⟩).out w hm hc
  simp only [z0, z1, z2, z3] at CB
  exact cmulg_walk CB ⟨hj, by rw [ej]; exact (EC.add_o _).symm⟩ w hm hc
end Go.Proofs.YtiebnlahhmngcaaGreatDoor

namespace Go.Proofs.YtiebnlahhmngcaaGreatDoor
open Go.RowKit Go.Sort

theorem Cols.keep {W w1 : World} (h : Cols W) (hb : Below W.heap.size W w1) : Cols w1 := Pts.keep h hb
theorem Cols.alloc {W : World} (h : Cols W) (ob : Obj) : Cols (W.alloc ob) := Pts.alloc h ob
theorem Nm.lt {W : World} {b : Nat} {n : Int} (h : Nm W b n) : b < W.heap.size := Cl.lt h (by simp)
end Go.Proofs.YtiebnlahhmngcaaGreatDoor
