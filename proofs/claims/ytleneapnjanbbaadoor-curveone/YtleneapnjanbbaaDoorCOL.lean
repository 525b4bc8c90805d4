import Derived.Test.YtleneapnjanbbaaDoorCYB
import Derived.Test.YtleneapnjanbbaaDoorUbA
import Derived.Test.YtleneapnjanbbaaDoorCZL
import Derived.Test.YtleneapnjanbbaaDoorCSumK
import Derived.Test.YtleneapnjanbbaaDoorCLaid
import Derived.Test.YtleneapnjanbbaaDoorCPnt
namespace Go.Proofs.YtleneapnjanbbaaDoor
open Go.RowKit Go.Sort

theorem lnumO_any (v : Int) (w : World) : Calls Tryd.prog 7 #[.int .i64 v] w fun e w' => e = .returned (.int .i64 v) ∧ Below w.heap.size w w' := by
  go_enter Tryd.func7, Tryd.ntmps7
  go_wp2
  simp [bodyPost, results, Tryd.results7, go_sem]
  exact Below.refl _ _
set_option maxRecDepth 100000 in
set_option maxHeartbeats 16000000 in
theorem cone_bad {a : Option Addr} {m c : Nat} {X : List Int} {pe : Int} (ne : ¬ pe = 0) (w : World) (BS : Hid (Calls Tryd.prog 4 #[] w fun e w' => e = .returned (.bool true) ∧ Below w.heap.size w w')) (LE : Hid (∀ W, Below w.heap.size w W → Calls Tryd.prog 6 #[.slice a m c] W fun e w' => e = .returned (.slice (some ⟨W.heap.size, 0, none⟩) m (m + 70)) ∧ Rw8 w' W.heap.size (lentL X) ∧ Below W.heap.size W w')) (PA : Hid (∀ W g, Below w.heap.size w W → Bz W g 0 X → Calls Tryd.prog 5 #[.slice (some ⟨g, 0, none⟩) m (m + 70)] W fun e w' => e = .returned (.tuple #[.agg #[.int .u64 (l0 0), .int .u64 (l1 0), .int .u64 (l2 0), .int .u64 (l3 0), .int .u64 (l0 0), .int .u64 (l1 0), .int .u64 (l2 0), .int .u64 (l3 0), .bool false], .int .i64 pe]) ∧ Below W.heap.size W w')) (NU : Hid (∀ (v : Int) (w : World), Calls Tryd.prog 7 #[.int .i64 v] w fun e w' => e = .returned (.int .i64 v) ∧ Below w.heap.size w w')) :
    Calls Tryd.prog 3 #[.slice a m c] w fun e w' => e = .returned (.bool true) ∧ Below w.heap.size w w' := by
  have k0 : (pe == 0) = false := beq_false_of_ne ne
  have k1 : (pe != 0) = true := bne_iff_ne.2 ne
  have EQ := fun w => eq_pt_yes (x := 0) (y := 0) (i := false) ⟨by decide, by decide⟩ ⟨by decide, by decide⟩ w
  obtain ⟨z0, z1, z2, z3⟩ := zero_limbs
  rw [z0, z1, z2, z3] at EQ
  go_enter Tryd.func3, Tryd.ntmps3
  go_wp2_with fail
  with_reducible refine BS.out.mono ?_
  rintro e w1 ⟨rfl, BB⟩
  go_wp2_with fail
  with_reducible refine (LE.out w1 BB).mono ?_
  rintro e w2 ⟨rfl, rG, hb⟩
  replace BB := BB.trans (hb.mono BB.size)
  clear hb
  go_wp2_with fail
  with_reducible refine (PA.out w2 _ BB (lentL_bz rG)).mono ?_
  rintro e w3 ⟨rfl, hb⟩
  replace BB := BB.trans (hb.mono BB.size)
  clear hb rG
  go_wp2_with fail
  refine calls_world (fun W => Below w.heap.size w W ∧ Pnt W w3.heap.size 0 0 false) ⟨BB.alloc BB.size _, Pnt.new rfl⟩ ?_
  clear BB
  rintro W ⟨BB, hP⟩
  generalize w3.heap.size = b1 at *
  clear w3 w2
  with_reducible refine (NU.out _ W).mono ?_
  rintro e w4 ⟨rfl, hb⟩
  replace BB := BB.trans (hb.mono BB.size)
  replace hP := hP.keep hb
  clear hb
  have gP := hP.cells
  rw [z0, z1, z2, z3] at gP
  go_wp2
  simp [bodyPost, results, Tryd.results3, go_sem]
  exact BB
set_option maxRecDepth 100000 in
set_option maxHeartbeats 16000000 in
theorem cone_33 {a : Option Addr} {m c : Nat} {X : List Int} {px py : Int} (hm : m = 33) (w : World) (BS : Hid (Calls Tryd.prog 4 #[] w fun e w' => e = .returned (.bool true) ∧ Below w.heap.size w w')) (LE : Hid (∀ W, Below w.heap.size w W → Calls Tryd.prog 6 #[.slice a m c] W fun e w' => e = .returned (.slice (some ⟨W.heap.size, 0, none⟩) m (m + 70)) ∧ Rw8 w' W.heap.size (lentL X) ∧ Below W.heap.size W w')) (PA : Hid (∀ W g, Below w.heap.size w W → Bz W g 0 X → Calls Tryd.prog 5 #[.slice (some ⟨g, 0, none⟩) m (m + 70)] W fun e w' => e = .returned (.tuple #[.agg #[.int .u64 (l0 px), .int .u64 (l1 px), .int .u64 (l2 px), .int .u64 (l3 px), .int .u64 (l0 py), .int .u64 (l1 py), .int .u64 (l2 py), .int .u64 (l3 py), .bool false], .int .i64 0]) ∧ Below W.heap.size W w')) (NU : Hid (∀ (v : Int) (w : World), Calls Tryd.prog 7 #[.int .i64 v] w fun e w' => e = .returned (.int .i64 v) ∧ Below w.heap.size w w')) (CP : Hid (∀ W, Below w.heap.size w W → Calls Tryd.prog 8 #[.agg #[.int .u64 (l0 px), .int .u64 (l1 px), .int .u64 (l2 px), .int .u64 (l3 px), .int .u64 (l0 py), .int .u64 (l1 py), .int .u64 (l2 py), .int .u64 (l3 py), .bool false]] W fun e w' => ∃ v, e = .returned (.tuple #[v, .int .i64 0]) ∧ OwnB W.heap.size w' v X ∧ Below W.heap.size W w')) (ON : Hid (∀ W, Below w.heap.size w W → Calls Tryd.prog 10 #[.agg #[.int .u64 (l0 px), .int .u64 (l1 px), .int .u64 (l2 px), .int .u64 (l3 px), .int .u64 (l0 py), .int .u64 (l1 py), .int .u64 (l2 py), .int .u64 (l3 py), .bool false]] W fun e w' => e = .returned (.bool true) ∧ Below W.heap.size W w')) (SA : Hid (∀ W B v, Below w.heap.size w W → OwnB B W v X → Calls Tryd.prog 11 #[v, .slice a m c] W fun e w' => e = .returned (.bool true) ∧ Below W.heap.size W w')) :
    Calls Tryd.prog 3 #[.slice a m c] w fun e w' => e = .returned (.bool true) ∧ Below w.heap.size w w' := by
  subst hm
  go_enter Tryd.func3, Tryd.ntmps3
  go_wp2_with fail
  with_reducible refine BS.out.mono ?_
  rintro e w1 ⟨rfl, BB⟩
  go_wp2_with fail
  with_reducible refine (LE.out w1 BB).mono ?_
  rintro e w2 ⟨rfl, rG, hb⟩
  replace BB := BB.trans (hb.mono BB.size)
  clear hb
  go_wp2_with fail
  with_reducible refine (PA.out w2 _ BB (lentL_bz rG)).mono ?_
  rintro e w3 ⟨rfl, hb⟩
  replace BB := BB.trans (hb.mono BB.size)
  clear hb rG
  go_wp2_with fail
  refine calls_world (fun W => Below w.heap.size w W ∧ Pnt W w3.heap.size px py false) ⟨BB.alloc BB.size _, Pnt.new rfl⟩ ?_
  clear BB
  rintro W ⟨BB, hP⟩
  generalize w3.heap.size = b1 at *
  clear w3 w2
  with_reducible refine (NU.out _ W).mono ?_
  rintro e w4 ⟨rfl, hb⟩
  replace BB := BB.trans (hb.mono BB.size)
  replace hP := hP.keep hb
  clear hb
  have gP := hP.cells
  go_wp2_with fail
  with_reducible refine (CP.out w4 BB).mono ?_
  rintro e w5 ⟨v5, rfl, o5, hb⟩
  replace BB := BB.trans (hb.mono BB.size)
  replace hP := hP.keep hb
  clear hb
  clear gP
  have gP := hP.cells
  go_wp2_with fail
  with_reducible refine (ON.out w5 BB).mono ?_
  rintro e w7 ⟨rfl, hb⟩
  replace BB := BB.trans (hb.mono BB.size)
  replace hP := hP.keep hb
  replace o5 := o5.keep hb
  clear hb
  clear gP
  have gP := hP.cells
  go_wp2_with fail
  with_reducible refine (NU.out _ w7).mono ?_
  rintro e w8 ⟨rfl, hb⟩
  replace BB := BB.trans (hb.mono BB.size)
  replace o5 := o5.keep hb
  clear hb
  clear gP hP
  go_wp2_with fail
  with_reducible refine (SA.out w8 _ _ BB o5).mono ?_
  rintro e w9 ⟨rfl, hb⟩
  replace BB := BB.trans (hb.mono BB.size)
  clear hb
  go_wp2
  simp [bodyPost, results, Tryd.results3, go_sem]
  exact BB
set_option maxRecDepth 100000 in
set_option maxHeartbeats 16000000 in
theorem cone_65 {a : Option Addr} {m c : Nat} {X CL : List Int} {px py : Int} (hm : m = 65) (w : World) (BS : Hid (Calls Tryd.prog 4 #[] w fun e w' => e = .returned (.bool true) ∧ Below w.heap.size w w')) (LE : Hid (∀ W, Below w.heap.size w W → Calls Tryd.prog 6 #[.slice a m c] W fun e w' => e = .returned (.slice (some ⟨W.heap.size, 0, none⟩) m (m + 70)) ∧ Rw8 w' W.heap.size (lentL X) ∧ Below W.heap.size W w')) (PA : Hid (∀ W g, Below w.heap.size w W → Bz W g 0 X → Calls Tryd.prog 5 #[.slice (some ⟨g, 0, none⟩) m (m + 70)] W fun e w' => e = .returned (.tuple #[.agg #[.int .u64 (l0 px), .int .u64 (l1 px), .int .u64 (l2 px), .int .u64 (l3 px), .int .u64 (l0 py), .int .u64 (l1 py), .int .u64 (l2 py), .int .u64 (l3 py), .bool false], .int .i64 0]) ∧ Below W.heap.size W w')) (NU : Hid (∀ (v : Int) (w : World), Calls Tryd.prog 7 #[.int .i64 v] w fun e w' => e = .returned (.int .i64 v) ∧ Below w.heap.size w w')) (CP : Hid (∀ W, Below w.heap.size w W → Calls Tryd.prog 8 #[.agg #[.int .u64 (l0 px), .int .u64 (l1 px), .int .u64 (l2 px), .int .u64 (l3 px), .int .u64 (l0 py), .int .u64 (l1 py), .int .u64 (l2 py), .int .u64 (l3 py), .bool false]] W fun e w' => ∃ v, e = .returned (.tuple #[v, .int .i64 0]) ∧ OwnB W.heap.size w' v CL ∧ Below W.heap.size W w')) (ON : Hid (∀ W, Below w.heap.size w W → Calls Tryd.prog 10 #[.agg #[.int .u64 (l0 px), .int .u64 (l1 px), .int .u64 (l2 px), .int .u64 (l3 px), .int .u64 (l0 py), .int .u64 (l1 py), .int .u64 (l2 py), .int .u64 (l3 py), .bool false]] W fun e w' => e = .returned (.bool true) ∧ Below W.heap.size W w')) (SA : Hid (∀ W B v, Below w.heap.size w W → OwnB B W v X → Calls Tryd.prog 11 #[v, .slice a m c] W fun e w' => e = .returned (.bool true) ∧ Below W.heap.size W w')) (EX : Hid (∀ W, Below w.heap.size w W → Calls Tryd.prog 9 #[.agg #[.int .u64 (l0 px), .int .u64 (l1 px), .int .u64 (l2 px), .int .u64 (l3 px), .int .u64 (l0 py), .int .u64 (l1 py), .int .u64 (l2 py), .int .u64 (l3 py), .bool false]] W fun e w' => ∃ v, e = .returned (.tuple #[v, .int .i64 0]) ∧ OwnB W.heap.size w' v X ∧ Below W.heap.size W w')) :
    Calls Tryd.prog 3 #[.slice a m c] w fun e w' => e = .returned (.bool true) ∧ Below w.heap.size w w' := by
  subst hm
  go_enter Tryd.func3, Tryd.ntmps3
  go_wp2_with fail
  with_reducible refine BS.out.mono ?_
  rintro e w1 ⟨rfl, BB⟩
  go_wp2_with fail
  with_reducible refine (LE.out w1 BB).mono ?_
  rintro e w2 ⟨rfl, rG, hb⟩
  replace BB := BB.trans (hb.mono BB.size)
  clear hb
  go_wp2_with fail
  with_reducible refine (PA.out w2 _ BB (lentL_bz rG)).mono ?_
  rintro e w3 ⟨rfl, hb⟩
  replace BB := BB.trans (hb.mono BB.size)
  clear hb rG
  go_wp2_with fail
  refine calls_world (fun W => Below w.heap.size w W ∧ Pnt W w3.heap.size px py false) ⟨BB.alloc BB.size _, Pnt.new rfl⟩ ?_
  clear BB
  rintro W ⟨BB, hP⟩
  generalize w3.heap.size = b1 at *
  clear w3 w2
  with_reducible refine (NU.out _ W).mono ?_
  rintro e w4 ⟨rfl, hb⟩
  replace BB := BB.trans (hb.mono BB.size)
  replace hP := hP.keep hb
  clear hb
  have gP := hP.cells
  go_wp2_with fail
  with_reducible refine (CP.out w4 BB).mono ?_
  rintro e w5 ⟨v5, rfl, o5, hb⟩
  replace BB := BB.trans (hb.mono BB.size)
  replace hP := hP.keep hb
  clear hb
  clear gP
  have gP := hP.cells
  go_wp2_with fail
  with_reducible refine (EX.out w5 BB).mono ?_
  rintro e w6 ⟨v6, rfl, o6, hb⟩
  replace BB := BB.trans (hb.mono BB.size)
  replace hP := hP.keep hb
  clear hb
  clear gP o5
  have gP := hP.cells
  go_wp2_with fail
  with_reducible refine (ON.out w6 BB).mono ?_
  rintro e w7 ⟨rfl, hb⟩
  replace BB := BB.trans (hb.mono BB.size)
  replace hP := hP.keep hb
  replace o6 := o6.keep hb
  clear hb
  clear gP
  have gP := hP.cells
  go_wp2_with fail
  with_reducible refine (NU.out _ w7).mono ?_
  rintro e w8 ⟨rfl, hb⟩
  replace BB := BB.trans (hb.mono BB.size)
  replace o6 := o6.keep hb
  clear hb
  clear gP hP
  go_wp2_with fail
  with_reducible refine (SA.out w8 _ _ BB o6).mono ?_
  rintro e w9 ⟨rfl, hb⟩
  replace BB := BB.trans (hb.mono BB.size)
  clear hb
  go_wp2
  simp [bodyPost, results, Tryd.results3, go_sem]
  exact BB
theorem cone_any {a : Option Addr} {bb ob c : Nat} {X : List Int} (hm2 : X.length ≤ 140737488351232) (hX : Byts X) (hZ : Az a bb ob X) (w : World) (hm : Mds w) (hc : Cols w) (hz : Bz w bb ob X) :
    Calls Tryd.prog 3 #[.slice a X.length c] w fun e w' => e = .returned (.bool true) ∧ Below w.heap.size w w' := by
  have BS : Hid (Calls Tryd.prog 4 #[] w fun e w' => e = .returned (.bool true) ∧ Below w.heap.size w w') := lbase_any w hm hc.gat
  have LE : Hid (∀ W, Below w.heap.size w W → Calls Tryd.prog 6 #[.slice a X.length c] W fun e w' => e = .returned (.slice (some ⟨W.heap.size, 0, none⟩) X.length (X.length + 70)) ∧ Rw8 w' W.heap.size (lentL X) ∧ Below W.heap.size W w') := fun W B => lent5_any (by omega) hZ W (hz.keep B)
  have PA : Hid (∀ W g, Below w.heap.size w W → Bz W g 0 X → Calls Tryd.prog 5 #[.slice (some ⟨g, 0, none⟩) X.length (X.length + 70)] W fun e w' => e = .returned (.tuple #[.agg #[.int .u64 (l0 (pK X).1), .int .u64 (l1 (pK X).1), .int .u64 (l2 (pK X).1), .int .u64 (l3 (pK X).1), .int .u64 (l0 (pK X).2.1), .int .u64 (l1 (pK X).2.1), .int .u64 (l2 (pK X).2.1), .int .u64 (l3 (pK X).2.1), .bool false], .int .i64 (pK X).2.2]) ∧ Below W.heap.size W w') := fun W g B h2 => parse_all hX (by omega) W (hm.keep B) h2
  have NU : Hid (∀ (v : Int) (w : World), Calls Tryd.prog 7 #[.int .i64 v] w fun e w' => e = .returned (.int .i64 v) ∧ Below w.heap.size w w') := fun v w => lnumO_any v w
  by_cases h : (pK X).2.2 = 0
  · obtain ⟨v, hb⟩ := pK_good hX h
    rw [h] at PA
    have e0 : cpE (pK X).1 (pK X).2.1 false = 0 := by unfold cpE; rw [if_pos v]; rfl
    have nx := v.low.1.num
    have ny := v.low.2.num
    have CP : Hid (∀ W, Below w.heap.size w W → Calls Tryd.prog 8 #[.agg #[.int .u64 (l0 (pK X).1), .int .u64 (l1 (pK X).1), .int .u64 (l2 (pK X).1), .int .u64 (l3 (pK X).1), .int .u64 (l0 (pK X).2.1), .int .u64 (l1 (pK X).2.1), .int .u64 (l2 (pK X).2.1), .int .u64 (l3 (pK X).2.1), .bool false]] W fun e w' => ∃ u, e = .returned (.tuple #[u, .int .i64 0]) ∧ OwnB W.heap.size w' u (cpL (pK X).1 (pK X).2.1 false) ∧ Below W.heap.size W w') := fun W B => by have k := compress_all (i := false) nx ny W (hm.keep B); rw [e0] at k; exact k
    have EX : Hid (∀ W, Below w.heap.size w W → Calls Tryd.prog 9 #[.agg #[.int .u64 (l0 (pK X).1), .int .u64 (l1 (pK X).1), .int .u64 (l2 (pK X).1), .int .u64 (l3 (pK X).1), .int .u64 (l0 (pK X).2.1), .int .u64 (l1 (pK X).2.1), .int .u64 (l2 (pK X).2.1), .int .u64 (l3 (pK X).2.1), .bool false]] W fun e w' => ∃ u, e = .returned (.tuple #[u, .int .i64 0]) ∧ OwnB W.heap.size w' u (exL (pK X).1 (pK X).2.1 false) ∧ Below W.heap.size W w') := fun W B => by have k := expand_all (i := false) nx ny W (hm.keep B); rw [e0] at k; exact k
    have ON : Hid (∀ W, Below w.heap.size w W → Calls Tryd.prog 10 #[.agg #[.int .u64 (l0 (pK X).1), .int .u64 (l1 (pK X).1), .int .u64 (l2 (pK X).1), .int .u64 (l3 (pK X).1), .int .u64 (l0 (pK X).2.1), .int .u64 (l1 (pK X).2.1), .int .u64 (l2 (pK X).2.1), .int .u64 (l3 (pK X).2.1), .bool false]] W fun e w' => e = .returned (.bool true) ∧ Below W.heap.size W w') := fun W B => (con_yes v).out W (hm.keep B)
    have SA : Hid (∀ W B u, Below w.heap.size w W → OwnB B W u X → Calls Tryd.prog 11 #[u, .slice a X.length c] W fun e w' => e = .returned (.bool true) ∧ Below W.heap.size W w') := fun W B u hB ho => by
      obtain ⟨a1, g1, c1, rfl, _, z1, y1, _⟩ := ho.lies
      have k := same5_any (c := c1) (c' := c) (by omega) z1 hZ W y1 (hz.keep hB)
      rw [decide_eq_true rfl] at k
      exact k
    rcases hb with ⟨hl, e⟩ | ⟨hl, e⟩
    · rw [e] at CP
      exact cone_33 hl w BS LE PA NU CP ON SA
    · rw [e] at EX
      exact cone_65 hl w BS LE PA NU CP ON SA EX
  · obtain ⟨e1, e2⟩ := pK_bad h
    rw [e1, e2] at PA
    exact cone_bad h w BS LE PA NU
end Go.Proofs.YtleneapnjanbbaaDoor
