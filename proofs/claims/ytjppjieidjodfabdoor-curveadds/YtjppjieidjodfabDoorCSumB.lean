import Derived.Test.YtjppjieidjodfabDoorCSumK
import Derived.Test.YtjppjieidjodfabDoorCRPlus
import Derived.Test.YtjppjieidjodfabDoorCCols
namespace Go.Proofs.YtjppjieidjodfabDoor
open Go.RowKit Go.Sort

theorem sumP_onm {L : List PP} {m : Nat} (hV : ∀ i, i < m → Vd (L.getD i ⟨0, 0, true⟩).x (L.getD i ⟨0, 0, true⟩).y (L.getD i ⟨0, 0, true⟩).i) : ∀ i, i ≤ m → EC.On (sumP L i)
  | 0, _ => EC.on_o
  | i + 1, h => EC.Pt.on (sumP_onm hV i (by omega)) (hV i (by omega)).on

set_option maxRecDepth 100000 in
set_option maxHeartbeats 8000000 in
theorem csum_bad {L : List PP} {m : Nat} (hl : L.length ≤ 65536) (hmL : m < L.length) (hV : ∀ i, i < m → Vd (L.getD i ⟨0, 0, true⟩).x (L.getD i ⟨0, 0, true⟩).y (L.getD i ⟨0, 0, true⟩).i) (hN : ∀ w, Mds w → Calls Tryd.prog 25 #[.agg #[.int .u64 (l0 (L.getD m ⟨0, 0, true⟩).x), .int .u64 (l1 (L.getD m ⟨0, 0, true⟩).x), .int .u64 (l2 (L.getD m ⟨0, 0, true⟩).x), .int .u64 (l3 (L.getD m ⟨0, 0, true⟩).x), .int .u64 (l0 (L.getD m ⟨0, 0, true⟩).y), .int .u64 (l1 (L.getD m ⟨0, 0, true⟩).y), .int .u64 (l2 (L.getD m ⟨0, 0, true⟩).y), .int .u64 (l3 (L.getD m ⟨0, 0, true⟩).y), .bool (L.getD m ⟨0, 0, true⟩).i]] w fun e w' => e = .returned (.bool false) ∧ Below w.heap.size w w')
    {a : Option Addr} {g o cap : Nat} (ha : L = [] ∨ a = some ⟨g, o, none⟩) (w : World) (hm : Mds w) (hI : Pts w g o L) (hg : g < w.heap.size) :
    Calls Tryd.prog 12 #[.slice a L.length cap] w fun e w' => e = .returned (.tuple #[.agg #[.int .u64 (l0 0), .int .u64 (l1 0), .int .u64 (l2 0), .int .u64 (l3 0), .int .u64 (l0 0), .int .u64 (l1 0), .int .u64 (l2 0), .int .u64 (l3 0), .bool false], .int .i64 50]) ∧ Below w.heap.size w w' := by
  have HL : Hid (L.length ≤ 65536) := hl
  have HA : Hid (L = [] ∨ a = some ⟨g, o, none⟩) := ha
  have HV : Hid (∀ i, i < m → Vd (L.getD i ⟨0, 0, true⟩).x (L.getD i ⟨0, 0, true⟩).y (L.getD i ⟨0, 0, true⟩).i) := hV
  have HN : Hid (∀ w, Mds w → Calls Tryd.prog 25 #[.agg #[.int .u64 (l0 (L.getD m ⟨0, 0, true⟩).x), .int .u64 (l1 (L.getD m ⟨0, 0, true⟩).x), .int .u64 (l2 (L.getD m ⟨0, 0, true⟩).x), .int .u64 (l3 (L.getD m ⟨0, 0, true⟩).x), .int .u64 (l0 (L.getD m ⟨0, 0, true⟩).y), .int .u64 (l1 (L.getD m ⟨0, 0, true⟩).y), .int .u64 (l2 (L.getD m ⟨0, 0, true⟩).y), .int .u64 (l3 (L.getD m ⟨0, 0, true⟩).y), .bool (L.getD m ⟨0, 0, true⟩).i]] w fun e w' => e = .returned (.bool false) ∧ Below w.heap.size w w') := hN
  have HML : Hid (m < L.length) := hmL
  clear ha hV hl hN hmL
  obtain ⟨z0, z1, z2, z3⟩ := zero_limbs
  rw [z0, z1, z2, z3]
  clear z0 z1 z2 z3
  go_enter Tryd.func12, Tryd.ntmps12
  go_wp2_with fail
  refine wp_world (fun W => Below w.heap.size w W ∧ Mds W ∧ Pts W g o L ∧ Bk9 W w.heap.size ∧ TV W (w.heap.size + 1) 0 0 0) ⟨by repeat (first | with_reducible exact Below.refl _ _ | with_reducible refine Below.alloc ?_ (by first | omega | (simp; done) | (simp; omega)) _), (hm.alloc _).alloc _, (hI.alloc _).alloc _, (Bk9.new rfl).alloc _, (Bk12.new (by simp)).tv⟩ ?_
  rintro W ⟨B, hD, hI, hR, hS⟩
  have o1 : w.heap.size ≤ w.heap.size + 1 := by omega
  have n1 : w.heap.size + 1 ≠ w.heap.size := by omega
  have ng : w.heap.size + 1 ≠ g := by omega
  have nd : w.heap.size + 1 ≠ 1 := by have := hm.lt; omega
  generalize w.heap.size + 1 = bs at *
  go_loopg [9] L.length (fun k iv wr => ∃ i : Nat, k = L.length - i ∧ i ≤ m ∧ iv = .int .i64 (i : Int) ∧ Below w.heap.size w wr ∧ Mds wr ∧ Pts wr g o L ∧ Bk9 wr w.heap.size ∧ ∃ x y z, EC.Low x ∧ EC.Low y ∧ EC.Low z ∧ (J3 x y z).pt = sumP L i ∧ TV wr bs x y z)
  case atStart => exact ⟨0, rfl, Nat.zero_le _, rfl, B, hD, hI, hR, 0, 0, 0, ⟨by decide, by decide⟩, ⟨by decide, by decide⟩, ⟨by decide, by decide⟩, EC.pt_o EC.fp_zero, hS⟩
  case round =>
    clear B hD hI hR hS W
    obtain ⟨i, hk, hi, rfl, B, hD, hI, hR, x, y, z, lx, ly, lz, es, hS⟩ := hrel
    have HK : Hid (gk = L.length - i ∧ i ≤ m) := ⟨hk, hi⟩
    clear hk hi
    by_cases hz : i = m
    · subst hz
      have hlt : i < L.length := HML.out
      obtain rfl : a = some ⟨g, o, none⟩ := by
        rcases HA.out with h | h
        · rw [h] at hlt; simp at hlt
        · exact h
      have gI := hI i hlt
      generalize (L.getD i ⟨0, 0, true⟩) = pq at *
      obtain ⟨qx, qy, qi⟩ := pq
      simp only at gI HN
      clear es lx ly lz HV
      go_wp2_with fail
      refine calls_world (fun W => Below w.heap.size w W ∧ Mds W ∧ Bk9 W w.heap.size) ⟨B.alloc B.size _, hD.alloc _, hR.alloc _⟩ ?_
      clear B hD hI hR hS gI
      rintro W ⟨B, hD, hR⟩
      with_reducible refine (HN.out _ hD).mono ?_
      rintro e w1 ⟨rfl, hb⟩
      replace B := B.trans (hb.mono B.size)
      replace hR := hR.keep hb
      clear hb hD W
      have o3 : w.heap.size ≤ w.heap.size := Nat.le_refl _
      have gR := hR.cells; have fR := hR.free
      go_wp2
      simp [bodyPost, results, Tryd.results12, go_sem, gR]
      repeat (first | with_reducible exact B | with_reducible refine Below.setCell ?_ o3 _)
    · have him : i < m := by have := HK.out.2; omega
      have hlt : i < L.length := by have := HML.out; omega
      obtain rfl : a = some ⟨g, o, none⟩ := by
        rcases HA.out with h | h
        · rw [h] at hlt; simp at hlt
        · exact h
      have gI := hI i hlt
      have vq := HV.out i him
      have es2 : Hid (sumP L (i + 1) = (sumP L i).add (L.getD i ⟨0, 0, true⟩).pt ∧ EC.On (sumP L i)) := ⟨rfl, sumP_onm HV.out i (by omega)⟩
      have eq : Hid ((L.getD i ⟨0, 0, true⟩).pt = ptOf (L.getD i ⟨0, 0, true⟩).x (L.getD i ⟨0, 0, true⟩).y (L.getD i ⟨0, 0, true⟩).i) := rfl
      generalize (L.getD i ⟨0, 0, true⟩) = pq at gI vq es2 eq
      obtain ⟨qx, qy, qi⟩ := pq
      simp only at gI vq eq
      obtain ⟨a1, a2, a3, k1, k2, k3, ew, CW⟩ := cwiden_J vq
      obtain ⟨b1, b2, b3, m1, m2, m3, ea, CA⟩ := cadd_J lx ly lz k1 k2 k3
      have on1 : EC.On (J3 x y z).pt := by rw [es]; exact es2.out.2
      have on2 : EC.On (J3 a1 a2 a3).pt := by rw [ew]; exact vq.on
      have eb : Hid ((J3 b1 b2 b3).pt = sumP L (i + 1)) := by
        show (J3 b1 b2 b3).pt = sumP L (i + 1)
        rw [ea, EC.ja_pt on1 on2, es, ew, es2.out.1, eq.out]
      have CO : Hid (∀ w, Mds w → Calls Tryd.prog 25 #[.agg #[.int .u64 (l0 qx), .int .u64 (l1 qx), .int .u64 (l2 qx), .int .u64 (l3 qx), .int .u64 (l0 qy), .int .u64 (l1 qy), .int .u64 (l2 qy), .int .u64 (l3 qy), .bool qi]] w fun e w' => e = .returned (.bool true) ∧ Below w.heap.size w w') := fun w hm => by
        have := con_any (i := qi) vq.low.1.num vq.low.2.num w hm
        rw [decide_eq_true vq] at this; exact this
      have CWH : Hid (∀ w, Calls Tryd.prog 44 #[.agg #[.int .u64 (l0 qx), .int .u64 (l1 qx), .int .u64 (l2 qx), .int .u64 (l3 qx), .int .u64 (l0 qy), .int .u64 (l1 qy), .int .u64 (l2 qy), .int .u64 (l3 qy), .bool qi]] w fun e w' => e = .returned (.agg #[.int .u64 (l0 a1), .int .u64 (l1 a1), .int .u64 (l2 a1), .int .u64 (l3 a1), .int .u64 (l0 a2), .int .u64 (l1 a2), .int .u64 (l2 a2), .int .u64 (l3 a2), .int .u64 (l0 a3), .int .u64 (l1 a3), .int .u64 (l2 a3), .int .u64 (l3 a3)]) ∧ Below w.heap.size w w') := CW
      have CAH : Hid (∀ w, Mds w → Calls Tryd.prog 43 #[.agg #[.int .u64 (l0 x), .int .u64 (l1 x), .int .u64 (l2 x), .int .u64 (l3 x), .int .u64 (l0 y), .int .u64 (l1 y), .int .u64 (l2 y), .int .u64 (l3 y), .int .u64 (l0 z), .int .u64 (l1 z), .int .u64 (l2 z), .int .u64 (l3 z)], .agg #[.int .u64 (l0 a1), .int .u64 (l1 a1), .int .u64 (l2 a1), .int .u64 (l3 a1), .int .u64 (l0 a2), .int .u64 (l1 a2), .int .u64 (l2 a2), .int .u64 (l3 a2), .int .u64 (l0 a3), .int .u64 (l1 a3), .int .u64 (l2 a3), .int .u64 (l3 a3)]] w fun e w' => e = .returned (.agg #[.int .u64 (l0 b1), .int .u64 (l1 b1), .int .u64 (l2 b1), .int .u64 (l3 b1), .int .u64 (l0 b2), .int .u64 (l1 b2), .int .u64 (l2 b2), .int .u64 (l3 b2), .int .u64 (l0 b3), .int .u64 (l1 b3), .int .u64 (l2 b3), .int .u64 (l3 b3)]) ∧ Below w.heap.size w w') := CA
      have HM : Hid (EC.Low b1 ∧ EC.Low b2 ∧ EC.Low b3) := ⟨m1, m2, m3⟩
      clear CW CA on1 on2 ea ew es es2 eq vq lx ly lz k1 k2 k3 m1 m2 m3 hz
      go_wp2_with fail
      refine calls_world (fun W => Below w.heap.size w W ∧ Mds W ∧ Pts W g o L ∧ Bk9 W w.heap.size ∧ TV W bs x y z ∧ Pnt W wr.heap.size qx qy qi) ⟨B.alloc B.size _, hD.alloc _, hI.alloc _, hR.alloc _, hS.alloc _, Pnt.new rfl⟩ ?_
      have np : wr.heap.size ≠ bs := by have := hS.1.lt; omega
      clear B hD hI hR hS gI
      rintro W ⟨B, hD, hI, hR, hS, hP⟩
      generalize wr.heap.size = bp at *
      with_reducible refine (CO.out _ hD).mono ?_
      rintro e w1 ⟨rfl, hb⟩
      replace B := B.trans (hb.mono B.size)
      replace hD := hD.keep hb; replace hI := hI.keep hb; replace hR := hR.keep hb; replace hS := hS.keep hb; replace hP := hP.keep hb
      clear hb W CO
      go_wp2_with fail
      refine wp_world (fun W => Below w.heap.size w W ∧ Mds W ∧ Pts W g o L ∧ Bk9 W w.heap.size ∧ TV W bs x y z ∧ Pnt W bp qx qy qi) ⟨B, hD, hI, hR, hS, hP⟩ ?_
      clear B hD hI hR hS hP
      rintro W ⟨B, hD, hI, hR, hS, hP⟩
      clear w1
      have gS := hS.1.grown
      have gP := hP.grown
      have hDg : ∀ d os, Mds (grow (redrawn W d) os) := fun d os => hD.keep (below_regrown W d os)
      refine below_tail 4 (by kernel_rfl) (by kernel_rfl) ?_
      simp only [List.take_succ_cons, List.take_zero, List.drop_succ_cons, List.drop_zero]
      repeat
        first
          | go_big_quiet_skip
          | (go_big_quiet_want; go_big_quiet_op; go_big_quiet_on)
          | (go_big_quiet_want
             go_big_quiet_op
             apply Exists.intro
             refine ⟨fun p => ?_, ?_⟩
             · (first | (go_at_call 44; with_reducible exact Calls.regrown_of (CWH.out _)) | (go_at_call 43; with_reducible exact Calls.regrown_of (CAH.out _ (hDg p.d p.os))))
             go_big_quiet_on)
      refine wpQuiet_nil ?_
      rintro w2 ⟨p, rfl⟩
      have hb := below_regrown W p.d p.os
      generalize grow (redrawn W p.d) p.os = w2 at *
      replace B := B.trans (hb.mono B.size)
      replace hD := hD.keep hb; replace hI := hI.keep hb; replace hR := hR.keep hb; replace hS := hS.keep hb
      clear hb gS gP hDg hP W
      have gS := hS.1.cells; have fS := hS.free
      have hi6 : (i : Int) < 65536 := by have := HL.out; omega
      go_wp2
      go_roundg (L.length - (i + 1))
      case measure => have := HK.out.1; omega
      case rel => exact ⟨i + 1, rfl, him, by go_num, below_put B o1 b1 b2 b3, hD.put nd b1 b2 b3, hI.put ng b1 b2 b3, hR.put n1 b1 b2 b3, b1, b2, b3, HM.out.1, HM.out.2.1, HM.out.2.2, eb.out, hS.put b1 b2 b3⟩
end Go.Proofs.YtjppjieidjodfabDoor

namespace Go.Proofs.YtjppjieidjodfabDoor
open Go.RowKit Go.Sort

set_option maxRecDepth 100000 in
set_option maxHeartbeats 4000000 in
theorem cadd2_gen {x y x2 y2 x' y' e0 : Int} {i i2 j : Bool} (C : Hid (∀ w b, Mds w → Pts w b 0 [⟨x, y, i⟩, ⟨x2, y2, i2⟩] → b < w.heap.size → Calls Tryd.prog 12 #[.slice (some ⟨b, 0, none⟩) 2 2] w fun e w' => e = .returned (.tuple #[.agg #[.int .u64 (l0 x'), .int .u64 (l1 x'), .int .u64 (l2 x'), .int .u64 (l3 x'), .int .u64 (l0 y'), .int .u64 (l1 y'), .int .u64 (l2 y'), .int .u64 (l3 y'), .bool j], .int .i64 e0]) ∧ Below w.heap.size w w')) (w : World) (hm : Mds w) :
    Calls Tryd.prog 19 #[.agg #[.int .u64 (l0 x), .int .u64 (l1 x), .int .u64 (l2 x), .int .u64 (l3 x), .int .u64 (l0 y), .int .u64 (l1 y), .int .u64 (l2 y), .int .u64 (l3 y), .bool i], .agg #[.int .u64 (l0 x2), .int .u64 (l1 x2), .int .u64 (l2 x2), .int .u64 (l3 x2), .int .u64 (l0 y2), .int .u64 (l1 y2), .int .u64 (l2 y2), .int .u64 (l3 y2), .bool i2]] w fun e w' => e = .returned (.tuple #[.agg #[.int .u64 (l0 x'), .int .u64 (l1 x'), .int .u64 (l2 x'), .int .u64 (l3 x'), .int .u64 (l0 y'), .int .u64 (l1 y'), .int .u64 (l2 y'), .int .u64 (l3 y'), .bool j], .int .i64 e0]) ∧ Below w.heap.size w w' := by
  go_enter Tryd.func19, Tryd.ntmps19
  go_wp2_with fail
  refine calls_world (fun W => Below w.heap.size w W ∧ Mds W ∧ Bk9 W (w.heap.size + 1 + 1) ∧ Pts W (w.heap.size + 1 + 1 + 1) 0 [⟨x, y, i⟩, ⟨x2, y2, i2⟩]) ⟨by repeat (first | with_reducible exact Below.refl _ _ | with_reducible refine Below.alloc ?_ (by first | omega | (simp; done) | (simp; omega)) _), (((hm.alloc _).alloc _).alloc _).alloc _, (Bk9.new (by simp)).alloc _, pts2 (Cl.new _ (by simp) rfl)⟩ ?_
  rintro W ⟨B, hD, hR, hI⟩
  have o3 : w.heap.size ≤ w.heap.size + 1 + 1 := by omega
  have lb : w.heap.size + 1 + 1 + 1 < W.heap.size := World.block_lt_of_cell? W ⟨w.heap.size + 1 + 1 + 1, 0 + 0 * 9, none⟩ (hI 0 (by simp)).1
  generalize w.heap.size + 1 + 1 + 1 = bl at *
  generalize w.heap.size + 1 + 1 = br at *
  with_reducible refine (C.out _ _ hD hI lb).mono ?_
  rintro e w1 ⟨rfl, hb⟩
  replace B := B.trans (hb.mono B.size)
  replace hR := hR.keep hb
  clear hb hD hI lb W
  have gR := hR.cells; have fR := hR.free
  go_wp2
  simp [bodyPost, results, Tryd.results19, go_sem, gR]
  repeat (first | with_reducible exact B | with_reducible refine Below.setCell ?_ o3 _)

theorem zero_num : Num 0 := ⟨by decide, by decide⟩
theorem add_both {x y x2 y2 : Int} {i i2 : Bool} (hx : Num x) (hy : Num y) (hx2 : Num x2) (hy2 : Num y2) : ∃ X Y j ee, Num X ∧ Num Y ∧ Hid (∀ w, Mds w → Calls Tryd.prog 19 #[.agg #[.int .u64 (l0 x), .int .u64 (l1 x), .int .u64 (l2 x), .int .u64 (l3 x), .int .u64 (l0 y), .int .u64 (l1 y), .int .u64 (l2 y), .int .u64 (l3 y), .bool i], .agg #[.int .u64 (l0 x2), .int .u64 (l1 x2), .int .u64 (l2 x2), .int .u64 (l3 x2), .int .u64 (l0 y2), .int .u64 (l1 y2), .int .u64 (l2 y2), .int .u64 (l3 y2), .bool i2]] w fun e w' => e = .returned (.tuple #[.agg #[.int .u64 (l0 X), .int .u64 (l1 X), .int .u64 (l2 X), .int .u64 (l3 X), .int .u64 (l0 Y), .int .u64 (l1 Y), .int .u64 (l2 Y), .int .u64 (l3 Y), .bool j], .int .i64 ee]) ∧ Below w.heap.size w w') ∧ Hid (∀ w, Calls Tryd.prog 20 #[.agg #[.int .u64 (l0 x), .int .u64 (l1 x), .int .u64 (l2 x), .int .u64 (l3 x), .int .u64 (l0 y), .int .u64 (l1 y), .int .u64 (l2 y), .int .u64 (l3 y), .bool i], .agg #[.int .u64 (l0 x2), .int .u64 (l1 x2), .int .u64 (l2 x2), .int .u64 (l3 x2), .int .u64 (l0 y2), .int .u64 (l1 y2), .int .u64 (l2 y2), .int .u64 (l3 y2), .bool i2]] w fun e w' => e = .returned (.tuple #[.agg #[.int .u64 (l0 X), .int .u64 (l1 X), .int .u64 (l2 X), .int .u64 (l3 X), .int .u64 (l0 Y), .int .u64 (l1 Y), .int .u64 (l2 Y), .int .u64 (l3 Y), .bool j], .int .i64 ee]) ∧ Below w.heap.size w w') := by
  by_cases hp : Vd x y i
  · by_cases hq : Vd x2 y2 i2
    · obtain ⟨X, Y, j, hj, ej⟩ := rep_pt (EC.Pt.on hp.on hq.on)
      exact ⟨X, Y, j, 0, hj.low.1.num, hj.low.2.num, fun w hm => cadd2_any hp hq hj ej w hm, fun w => r5add_walk (r5on_yes hp) (r5on_yes hq) (r5plus_any hp hq hj ej) w⟩
    · refine ⟨0, 0, false, 50, zero_num, zero_num, fun w hm => cadd2_gen (fun w b hm hI hb => csum_bad (L := [⟨x, y, i⟩, ⟨x2, y2, i2⟩]) (m := 1) (by simp) (by simp) (fun k hk => ?_) (con_no hx2 hy2 hq).out (.inr rfl) w hm hI hb) w hm, fun w => r5add_bad1 (r5on_yes hp) (r5on_no hx2 hy2 hq) w⟩
      obtain rfl : k = 0 := by omega
      exact hp
  · exact ⟨0, 0, false, 50, zero_num, zero_num, fun w hm => cadd2_gen (fun w b hm hI hb => csum_bad (L := [⟨x, y, i⟩, ⟨x2, y2, i2⟩]) (m := 0) (by simp) (by simp) (fun k hk => by omega) (con_no hx hy hp).out (.inr rfl) w hm hI hb) w hm, fun w => r5add_bad0 (r5on_no hx hy hp) w⟩
theorem dbl_both {x y : Int} {i : Bool} (hx : Num x) (hy : Num y) : ∃ X Y j ee, Num X ∧ Num Y ∧ Hid (∀ w, Mds w → Calls Tryd.prog 21 #[.agg #[.int .u64 (l0 x), .int .u64 (l1 x), .int .u64 (l2 x), .int .u64 (l3 x), .int .u64 (l0 y), .int .u64 (l1 y), .int .u64 (l2 y), .int .u64 (l3 y), .bool i]] w fun e w' => e = .returned (.tuple #[.agg #[.int .u64 (l0 X), .int .u64 (l1 X), .int .u64 (l2 X), .int .u64 (l3 X), .int .u64 (l0 Y), .int .u64 (l1 Y), .int .u64 (l2 Y), .int .u64 (l3 Y), .bool j], .int .i64 ee]) ∧ Below w.heap.size w w') ∧ Hid (∀ w, Calls Tryd.prog 22 #[.agg #[.int .u64 (l0 x), .int .u64 (l1 x), .int .u64 (l2 x), .int .u64 (l3 x), .int .u64 (l0 y), .int .u64 (l1 y), .int .u64 (l2 y), .int .u64 (l3 y), .bool i]] w fun e w' => e = .returned (.tuple #[.agg #[.int .u64 (l0 X), .int .u64 (l1 X), .int .u64 (l2 X), .int .u64 (l3 X), .int .u64 (l0 Y), .int .u64 (l1 Y), .int .u64 (l2 Y), .int .u64 (l3 Y), .bool j], .int .i64 ee]) ∧ Below w.heap.size w w') := by
  by_cases hp : Vd x y i
  · obtain ⟨X, Y, j, hj, ej⟩ := rep_pt (EC.Pt.on hp.on hp.on)
    exact ⟨X, Y, j, 0, hj.low.1.num, hj.low.2.num, fun w hm => cdouble_any hp hj ej w hm, fun w => r5double_walk (fun w => r5add_walk (r5on_yes hp) (r5on_yes hp) (r5plus_any hp hp hj ej) w) w⟩
  · exact ⟨0, 0, false, 50, zero_num, zero_num, fun w hm => cdouble_bad (con_no hx hy hp) w hm, fun w => r5double_walk (fun w => r5add_bad0 (r5on_no hx hy hp) w) w⟩
theorem neg_both {x y : Int} {i : Bool} (hx : Num x) (hy : Num y) : ∃ X Y j ee, Num X ∧ Num Y ∧ Hid (∀ w, Mds w → Calls Tryd.prog 23 #[.agg #[.int .u64 (l0 x), .int .u64 (l1 x), .int .u64 (l2 x), .int .u64 (l3 x), .int .u64 (l0 y), .int .u64 (l1 y), .int .u64 (l2 y), .int .u64 (l3 y), .bool i]] w fun e w' => e = .returned (.tuple #[.agg #[.int .u64 (l0 X), .int .u64 (l1 X), .int .u64 (l2 X), .int .u64 (l3 X), .int .u64 (l0 Y), .int .u64 (l1 Y), .int .u64 (l2 Y), .int .u64 (l3 Y), .bool j], .int .i64 ee]) ∧ Below w.heap.size w w') ∧ Hid (∀ w, Calls Tryd.prog 24 #[.agg #[.int .u64 (l0 x), .int .u64 (l1 x), .int .u64 (l2 x), .int .u64 (l3 x), .int .u64 (l0 y), .int .u64 (l1 y), .int .u64 (l2 y), .int .u64 (l3 y), .bool i]] w fun e w' => e = .returned (.tuple #[.agg #[.int .u64 (l0 X), .int .u64 (l1 X), .int .u64 (l2 X), .int .u64 (l3 X), .int .u64 (l0 Y), .int .u64 (l1 Y), .int .u64 (l2 Y), .int .u64 (l3 Y), .bool j], .int .i64 ee]) ∧ Below w.heap.size w w') := by
  by_cases hp : Vd x y i
  · obtain ⟨_, _, CN⟩ := cneg_any hp
    exact ⟨_, _, _, 0, hx, modN_Num fit_p _, CN, fun w => r5negp_walk (r5on_yes hp) (r5neg_gen hp) w⟩
  · exact ⟨0, 0, false, 50, zero_num, zero_num, fun w hm => cneg_bad (con_no hx hy hp) w hm, fun w => r5negp_bad (r5on_no hx hy hp) w⟩

set_option maxRecDepth 100000 in
set_option maxHeartbeats 16000000 in
theorem cadds_walk {x y x2 y2 X1 Y1 X2 Y2 X3 Y3 gx gy e1 e2 e3 : Int} {i i2 j1 j2 j3 gi v1 v2 : Bool} (CA : Hid (∀ w, Mds w → Calls Tryd.prog 19 #[.agg #[.int .u64 (l0 x), .int .u64 (l1 x), .int .u64 (l2 x), .int .u64 (l3 x), .int .u64 (l0 y), .int .u64 (l1 y), .int .u64 (l2 y), .int .u64 (l3 y), .bool i], .agg #[.int .u64 (l0 x2), .int .u64 (l1 x2), .int .u64 (l2 x2), .int .u64 (l3 x2), .int .u64 (l0 y2), .int .u64 (l1 y2), .int .u64 (l2 y2), .int .u64 (l3 y2), .bool i2]] w fun e w' => e = .returned (.tuple #[.agg #[.int .u64 (l0 X1), .int .u64 (l1 X1), .int .u64 (l2 X1), .int .u64 (l3 X1), .int .u64 (l0 Y1), .int .u64 (l1 Y1), .int .u64 (l2 Y1), .int .u64 (l3 Y1), .bool j1], .int .i64 e1]) ∧ Below w.heap.size w w')) (RA : Hid (∀ w, Calls Tryd.prog 20 #[.agg #[.int .u64 (l0 x), .int .u64 (l1 x), .int .u64 (l2 x), .int .u64 (l3 x), .int .u64 (l0 y), .int .u64 (l1 y), .int .u64 (l2 y), .int .u64 (l3 y), .bool i], .agg #[.int .u64 (l0 x2), .int .u64 (l1 x2), .int .u64 (l2 x2), .int .u64 (l3 x2), .int .u64 (l0 y2), .int .u64 (l1 y2), .int .u64 (l2 y2), .int .u64 (l3 y2), .bool i2]] w fun e w' => e = .returned (.tuple #[.agg #[.int .u64 (l0 X1), .int .u64 (l1 X1), .int .u64 (l2 X1), .int .u64 (l3 X1), .int .u64 (l0 Y1), .int .u64 (l1 Y1), .int .u64 (l2 Y1), .int .u64 (l3 Y1), .bool j1], .int .i64 e1]) ∧ Below w.heap.size w w')) (CD : Hid (∀ w, Mds w → Calls Tryd.prog 21 #[.agg #[.int .u64 (l0 x), .int .u64 (l1 x), .int .u64 (l2 x), .int .u64 (l3 x), .int .u64 (l0 y), .int .u64 (l1 y), .int .u64 (l2 y), .int .u64 (l3 y), .bool i]] w fun e w' => e = .returned (.tuple #[.agg #[.int .u64 (l0 X2), .int .u64 (l1 X2), .int .u64 (l2 X2), .int .u64 (l3 X2), .int .u64 (l0 Y2), .int .u64 (l1 Y2), .int .u64 (l2 Y2), .int .u64 (l3 Y2), .bool j2], .int .i64 e2]) ∧ Below w.heap.size w w')) (RD : Hid (∀ w, Calls Tryd.prog 22 #[.agg #[.int .u64 (l0 x), .int .u64 (l1 x), .int .u64 (l2 x), .int .u64 (l3 x), .int .u64 (l0 y), .int .u64 (l1 y), .int .u64 (l2 y), .int .u64 (l3 y), .bool i]] w fun e w' => e = .returned (.tuple #[.agg #[.int .u64 (l0 X2), .int .u64 (l1 X2), .int .u64 (l2 X2), .int .u64 (l3 X2), .int .u64 (l0 Y2), .int .u64 (l1 Y2), .int .u64 (l2 Y2), .int .u64 (l3 Y2), .bool j2], .int .i64 e2]) ∧ Below w.heap.size w w'))
    (CN : Hid (∀ w, Mds w → Calls Tryd.prog 23 #[.agg #[.int .u64 (l0 x), .int .u64 (l1 x), .int .u64 (l2 x), .int .u64 (l3 x), .int .u64 (l0 y), .int .u64 (l1 y), .int .u64 (l2 y), .int .u64 (l3 y), .bool i]] w fun e w' => e = .returned (.tuple #[.agg #[.int .u64 (l0 X3), .int .u64 (l1 X3), .int .u64 (l2 X3), .int .u64 (l3 X3), .int .u64 (l0 Y3), .int .u64 (l1 Y3), .int .u64 (l2 Y3), .int .u64 (l3 Y3), .bool j3], .int .i64 e3]) ∧ Below w.heap.size w w')) (RN : Hid (∀ w, Calls Tryd.prog 24 #[.agg #[.int .u64 (l0 x), .int .u64 (l1 x), .int .u64 (l2 x), .int .u64 (l3 x), .int .u64 (l0 y), .int .u64 (l1 y), .int .u64 (l2 y), .int .u64 (l3 y), .bool i]] w fun e w' => e = .returned (.tuple #[.agg #[.int .u64 (l0 X3), .int .u64 (l1 X3), .int .u64 (l2 X3), .int .u64 (l3 X3), .int .u64 (l0 Y3), .int .u64 (l1 Y3), .int .u64 (l2 Y3), .int .u64 (l3 Y3), .bool j3], .int .i64 e3]) ∧ Below w.heap.size w w')) (K1 : Hid (∀ w, Calls Tryd.prog 11 #[.int .i64 e1] w fun e w' => e = .returned (.int .i64 e1) ∧ Below w.heap.size w w')) (K2 : Hid (∀ w, Calls Tryd.prog 11 #[.int .i64 e2] w fun e w' => e = .returned (.int .i64 e2) ∧ Below w.heap.size w w')) (K3 : Hid (∀ w, Calls Tryd.prog 11 #[.int .i64 e3] w fun e w' => e = .returned (.int .i64 e3) ∧ Below w.heap.size w w')) (E1 : ∀ w, (Op.equalIn 10000 26 (.agg #[.int .u64 (l0 X1), .int .u64 (l1 X1), .int .u64 (l2 X1), .int .u64 (l3 X1), .int .u64 (l0 Y1), .int .u64 (l1 Y1), .int .u64 (l2 Y1), .int .u64 (l3 Y1), .bool j1]) (.agg #[.int .u64 (l0 X1), .int .u64 (l1 X1), .int .u64 (l2 X1), .int .u64 (l3 X1), .int .u64 (l0 Y1), .int .u64 (l1 Y1), .int .u64 (l2 Y1), .int .u64 (l3 Y1), .bool j1])).run Tryd.prog w = .ok true w) (E2 : ∀ w, (Op.equalIn 10000 26 (.agg #[.int .u64 (l0 X2), .int .u64 (l1 X2), .int .u64 (l2 X2), .int .u64 (l3 X2), .int .u64 (l0 Y2), .int .u64 (l1 Y2), .int .u64 (l2 Y2), .int .u64 (l3 Y2), .bool j2]) (.agg #[.int .u64 (l0 X2), .int .u64 (l1 X2), .int .u64 (l2 X2), .int .u64 (l3 X2), .int .u64 (l0 Y2), .int .u64 (l1 Y2), .int .u64 (l2 Y2), .int .u64 (l3 Y2), .bool j2])).run Tryd.prog w = .ok true w) (E3 : ∀ w, (Op.equalIn 10000 26 (.agg #[.int .u64 (l0 X3), .int .u64 (l1 X3), .int .u64 (l2 X3), .int .u64 (l3 X3), .int .u64 (l0 Y3), .int .u64 (l1 Y3), .int .u64 (l2 Y3), .int .u64 (l3 Y3), .bool j3]) (.agg #[.int .u64 (l0 X3), .int .u64 (l1 X3), .int .u64 (l2 X3), .int .u64 (l3 X3), .int .u64 (l0 Y3), .int .u64 (l1 Y3), .int .u64 (l2 Y3), .int .u64 (l3 Y3), .bool j3])).run Tryd.prog w = .ok true w)
    (P1 : Hid (∀ w, Mds w → Calls Tryd.prog 25 #[.agg #[.int .u64 (l0 x), .int .u64 (l1 x), .int .u64 (l2 x), .int .u64 (l3 x), .int .u64 (l0 y), .int .u64 (l1 y), .int .u64 (l2 y), .int .u64 (l3 y), .bool i]] w fun e w' => e = .returned (.bool v1) ∧ Below w.heap.size w w')) (P2 : Hid (∀ w, Mds w → Calls Tryd.prog 25 #[.agg #[.int .u64 (l0 x2), .int .u64 (l1 x2), .int .u64 (l2 x2), .int .u64 (l3 x2), .int .u64 (l0 y2), .int .u64 (l1 y2), .int .u64 (l2 y2), .int .u64 (l3 y2), .bool i2]] w fun e w' => e = .returned (.bool v2) ∧ Below w.heap.size w w')) (Q1 : Hid (∀ w, Calls Tryd.prog 26 #[.agg #[.int .u64 (l0 x), .int .u64 (l1 x), .int .u64 (l2 x), .int .u64 (l3 x), .int .u64 (l0 y), .int .u64 (l1 y), .int .u64 (l2 y), .int .u64 (l3 y), .bool i]] w fun e w' => e = .returned (.bool v1) ∧ Below w.heap.size w w')) (Q2 : Hid (∀ w, Calls Tryd.prog 26 #[.agg #[.int .u64 (l0 x2), .int .u64 (l1 x2), .int .u64 (l2 x2), .int .u64 (l3 x2), .int .u64 (l0 y2), .int .u64 (l1 y2), .int .u64 (l2 y2), .int .u64 (l3 y2), .bool i2]] w fun e w' => e = .returned (.bool v2) ∧ Below w.heap.size w w'))
    (G1 : Hid (∀ w, Cols w → Calls Tryd.prog 27 #[] w fun e w' => e = .returned (.agg #[.int .u64 (l0 gx), .int .u64 (l1 gx), .int .u64 (l2 gx), .int .u64 (l3 gx), .int .u64 (l0 gy), .int .u64 (l1 gy), .int .u64 (l2 gy), .int .u64 (l3 gy), .bool gi]) ∧ Below w.heap.size w w')) (G2 : Hid (∀ w, Calls Tryd.prog 28 #[] w fun e w' => e = .returned (.agg #[.int .u64 (l0 gx), .int .u64 (l1 gx), .int .u64 (l2 gx), .int .u64 (l3 gx), .int .u64 (l0 gy), .int .u64 (l1 gy), .int .u64 (l2 gy), .int .u64 (l3 gy), .bool gi]) ∧ Below w.heap.size w w')) (Eg : ∀ w, (Op.equalIn 10000 26 (.agg #[.int .u64 (l0 gx), .int .u64 (l1 gx), .int .u64 (l2 gx), .int .u64 (l3 gx), .int .u64 (l0 gy), .int .u64 (l1 gy), .int .u64 (l2 gy), .int .u64 (l3 gy), .bool gi]) (.agg #[.int .u64 (l0 gx), .int .u64 (l1 gx), .int .u64 (l2 gx), .int .u64 (l3 gx), .int .u64 (l0 gy), .int .u64 (l1 gy), .int .u64 (l2 gy), .int .u64 (l3 gy), .bool gi])).run Tryd.prog w = .ok true w) (w : World) (hm : Mds w) (hc : Cols w) :
    Calls Tryd.prog 6 #[.agg #[.int .u64 (l0 x), .int .u64 (l1 x), .int .u64 (l2 x), .int .u64 (l3 x), .int .u64 (l0 y), .int .u64 (l1 y), .int .u64 (l2 y), .int .u64 (l3 y), .bool i], .agg #[.int .u64 (l0 x2), .int .u64 (l1 x2), .int .u64 (l2 x2), .int .u64 (l3 x2), .int .u64 (l0 y2), .int .u64 (l1 y2), .int .u64 (l2 y2), .int .u64 (l3 y2), .bool i2]] w fun e w' => e = .returned (.bool true) ∧ Below w.heap.size w w' := by
  go_enter Tryd.func6, Tryd.ntmps6
  go_wp2_with fail
  refine calls_world (fun W => Below w.heap.size w W ∧ Mds W ∧ Cols W ∧ Pnt W w.heap.size x y i ∧ Pnt W (w.heap.size + 1) x2 y2 i2) ⟨by repeat (first | with_reducible exact Below.refl _ _ | with_reducible refine Below.alloc ?_ (by first | omega | (simp; done) | (simp; omega)) _), (hm.alloc _).alloc _, (Cols.alloc hc _).alloc _, (Pnt.new rfl).alloc _, Pnt.new (by simp)⟩ ?_
  rintro W ⟨B, hD, hO, hP, hQ⟩
  generalize w.heap.size + 1 = bq at *
  with_reducible refine (CA.out _ hD).mono ?_
  rintro e w1 ⟨rfl, hb⟩
  replace B := B.trans (hb.mono B.size)
  replace hD := hD.keep hb; replace hO := hO.keep hb; replace hP := hP.keep hb; replace hQ := hQ.keep hb
  clear hb W
  have ghP := fun o => (hP.alloc o).cells
  have ghQ := fun o => (hQ.alloc o).cells
  go_wp2_with fail
  refine calls_world (fun W => Below w.heap.size w W ∧ Mds W ∧ Cols W ∧ Pnt W w.heap.size x y i ∧ Pnt W bq x2 y2 i2 ∧ Pnt W w1.heap.size X1 Y1 j1) ⟨B.alloc B.size _, hD.alloc _, hO.alloc _, hP.alloc _, hQ.alloc _, Pnt.new rfl⟩ ?_
  clear B hD hO hP hQ ghP ghQ
  rintro W ⟨B, hD, hO, hP, hQ, hA⟩
  generalize w1.heap.size = ba at *
  with_reducible refine (RA.out _).mono ?_
  rintro e w2 ⟨rfl, hb⟩
  replace B := B.trans (hb.mono B.size)
  replace hD := hD.keep hb; replace hO := hO.keep hb; replace hP := hP.keep hb; replace hQ := hQ.keep hb; replace hA := hA.keep hb
  clear hb W
  have ghP := fun o => (hP.alloc o).cells
  go_wp2_with fail
  refine calls_world (fun W => Below w.heap.size w W ∧ Mds W ∧ Cols W ∧ Pnt W w.heap.size x y i ∧ Pnt W bq x2 y2 i2 ∧ Pnt W ba X1 Y1 j1 ∧ Pnt W w2.heap.size X1 Y1 j1) ⟨B.alloc B.size _, hD.alloc _, hO.alloc _, hP.alloc _, hQ.alloc _, hA.alloc _, Pnt.new rfl⟩ ?_
  clear B hD hO hP hQ hA ghP
  rintro W ⟨B, hD, hO, hP, hQ, hA, hB⟩
  generalize w2.heap.size = bb at *
  with_reducible refine (CD.out _ hD).mono ?_
  rintro e w3 ⟨rfl, hb⟩
  replace B := B.trans (hb.mono B.size)
  replace hD := hD.keep hb; replace hO := hO.keep hb; replace hP := hP.keep hb; replace hQ := hQ.keep hb; replace hA := hA.keep hb; replace hB := hB.keep hb
  clear hb W
  have ghP := fun o => (hP.alloc o).cells
  go_wp2_with fail
  refine calls_world (fun W => Below w.heap.size w W ∧ Mds W ∧ Cols W ∧ Pnt W w.heap.size x y i ∧ Pnt W bq x2 y2 i2 ∧ Pnt W ba X1 Y1 j1 ∧ Pnt W bb X1 Y1 j1 ∧ Pnt W w3.heap.size X2 Y2 j2) ⟨B.alloc B.size _, hD.alloc _, hO.alloc _, hP.alloc _, hQ.alloc _, hA.alloc _, hB.alloc _, Pnt.new rfl⟩ ?_
  clear B hD hO hP hQ hA hB ghP
  rintro W ⟨B, hD, hO, hP, hQ, hA, hB, hC⟩
  generalize w3.heap.size = bc at *
  with_reducible refine (RD.out _).mono ?_
  rintro e w4 ⟨rfl, hb⟩
  replace B := B.trans (hb.mono B.size)
  replace hD := hD.keep hb; replace hO := hO.keep hb; replace hP := hP.keep hb; replace hQ := hQ.keep hb; replace hA := hA.keep hb; replace hB := hB.keep hb; replace hC := hC.keep hb
  clear hb W
  have ghP := fun o => (hP.alloc o).cells
  go_wp2_with fail
  refine calls_world (fun W => Below w.heap.size w W ∧ Mds W ∧ Cols W ∧ Pnt W w.heap.size x y i ∧ Pnt W bq x2 y2 i2 ∧ Pnt W ba X1 Y1 j1 ∧ Pnt W bb X1 Y1 j1 ∧ Pnt W bc X2 Y2 j2 ∧ Pnt W w4.heap.size X2 Y2 j2) ⟨B.alloc B.size _, hD.alloc _, hO.alloc _, hP.alloc _, hQ.alloc _, hA.alloc _, hB.alloc _, hC.alloc _, Pnt.new rfl⟩ ?_
  clear B hD hO hP hQ hA hB hC ghP
  rintro W ⟨B, hD, hO, hP, hQ, hA, hB, hC, hd⟩
  generalize w4.heap.size = bd at *
  with_reducible refine (CN.out _ hD).mono ?_
  rintro e w5 ⟨rfl, hb⟩
  replace B := B.trans (hb.mono B.size)
  replace hD := hD.keep hb; replace hO := hO.keep hb; replace hP := hP.keep hb; replace hQ := hQ.keep hb; replace hA := hA.keep hb; replace hB := hB.keep hb; replace hC := hC.keep hb; replace hd := hd.keep hb
  clear hb W
  have ghP := fun o => (hP.alloc o).cells
  go_wp2_with fail
  refine calls_world (fun W => Below w.heap.size w W ∧ Mds W ∧ Cols W ∧ Pnt W w.heap.size x y i ∧ Pnt W bq x2 y2 i2 ∧ Pnt W ba X1 Y1 j1 ∧ Pnt W bb X1 Y1 j1 ∧ Pnt W bc X2 Y2 j2 ∧ Pnt W bd X2 Y2 j2 ∧ Pnt W w5.heap.size X3 Y3 j3) ⟨B.alloc B.size _, hD.alloc _, hO.alloc _, hP.alloc _, hQ.alloc _, hA.alloc _, hB.alloc _, hC.alloc _, hd.alloc _, Pnt.new rfl⟩ ?_
  clear B hD hO hP hQ hA hB hC hd ghP
  rintro W ⟨B, hD, hO, hP, hQ, hA, hB, hC, hd, hN⟩
  generalize w5.heap.size = bn at *
  with_reducible refine (RN.out _).mono ?_
  rintro e w6 ⟨rfl, hb⟩
  replace B := B.trans (hb.mono B.size)
  replace hD := hD.keep hb; replace hO := hO.keep hb; replace hP := hP.keep hb; replace hQ := hQ.keep hb; replace hA := hA.keep hb; replace hB := hB.keep hb; replace hC := hC.keep hb; replace hd := hd.keep hb; replace hN := hN.keep hb
  clear hb W
  have ghA := fun o => (hA.alloc o).cells
  have ghB := fun o => (hB.alloc o).cells
  go_wp2_with fail
  refine calls_world (fun W => Below w.heap.size w W ∧ Mds W ∧ Cols W ∧ Pnt W w.heap.size x y i ∧ Pnt W bq x2 y2 i2 ∧ Pnt W ba X1 Y1 j1 ∧ Pnt W bb X1 Y1 j1 ∧ Pnt W bc X2 Y2 j2 ∧ Pnt W bd X2 Y2 j2 ∧ Pnt W bn X3 Y3 j3 ∧ Pnt W w6.heap.size X3 Y3 j3) ⟨B.alloc B.size _, hD.alloc _, hO.alloc _, hP.alloc _, hQ.alloc _, hA.alloc _, hB.alloc _, hC.alloc _, hd.alloc _, hN.alloc _, Pnt.new rfl⟩ ?_
  clear B hD hO hP hQ hA hB hC hd hN ghA ghB
  rintro W ⟨B, hD, hO, hP, hQ, hA, hB, hC, hd, hN, hM⟩
  generalize w6.heap.size = bm at *
  with_reducible refine (K1.out _).mono ?_
  rintro e w7 ⟨rfl, hb⟩
  replace B := B.trans (hb.mono B.size)
  replace hD := hD.keep hb; replace hO := hO.keep hb; replace hP := hP.keep hb; replace hQ := hQ.keep hb; replace hA := hA.keep hb; replace hB := hB.keep hb; replace hC := hC.keep hb; replace hd := hd.keep hb; replace hN := hN.keep hb; replace hM := hM.keep hb
  clear hb W
  have ghC := hC.cells
  have ghd := hd.cells
  go_wp2_with fail
  refine calls_world (fun W => Below w.heap.size w W ∧ Mds W ∧ Cols W ∧ Pnt W w.heap.size x y i ∧ Pnt W bq x2 y2 i2 ∧ Pnt W ba X1 Y1 j1 ∧ Pnt W bb X1 Y1 j1 ∧ Pnt W bc X2 Y2 j2 ∧ Pnt W bd X2 Y2 j2 ∧ Pnt W bn X3 Y3 j3 ∧ Pnt W bm X3 Y3 j3) ⟨B, hD, hO, hP, hQ, hA, hB, hC, hd, hN, hM⟩ ?_
  clear B hD hO hP hQ hA hB hC hd hN hM ghC ghd
  rintro W ⟨B, hD, hO, hP, hQ, hA, hB, hC, hd, hN, hM⟩
  with_reducible refine (K2.out _).mono ?_
  rintro e w8 ⟨rfl, hb⟩
  replace B := B.trans (hb.mono B.size)
  replace hD := hD.keep hb; replace hO := hO.keep hb; replace hP := hP.keep hb; replace hQ := hQ.keep hb; replace hA := hA.keep hb; replace hB := hB.keep hb; replace hC := hC.keep hb; replace hd := hd.keep hb; replace hN := hN.keep hb; replace hM := hM.keep hb
  clear hb W
  have ghN := hN.cells
  have ghM := hM.cells
  go_wp2_with fail
  refine calls_world (fun W => Below w.heap.size w W ∧ Mds W ∧ Cols W ∧ Pnt W w.heap.size x y i ∧ Pnt W bq x2 y2 i2 ∧ Pnt W ba X1 Y1 j1 ∧ Pnt W bb X1 Y1 j1 ∧ Pnt W bc X2 Y2 j2 ∧ Pnt W bd X2 Y2 j2 ∧ Pnt W bn X3 Y3 j3 ∧ Pnt W bm X3 Y3 j3) ⟨B, hD, hO, hP, hQ, hA, hB, hC, hd, hN, hM⟩ ?_
  clear B hD hO hP hQ hA hB hC hd hN hM ghN ghM
  rintro W ⟨B, hD, hO, hP, hQ, hA, hB, hC, hd, hN, hM⟩
  with_reducible refine (K3.out _).mono ?_
  rintro e w9 ⟨rfl, hb⟩
  replace B := B.trans (hb.mono B.size)
  replace hD := hD.keep hb; replace hO := hO.keep hb; replace hP := hP.keep hb; replace hQ := hQ.keep hb; replace hA := hA.keep hb; replace hB := hB.keep hb; replace hC := hC.keep hb; replace hd := hd.keep hb; replace hN := hN.keep hb; replace hM := hM.keep hb
  clear hb W
  go_wp2_with fail
  refine wp_world (fun W => Below w.heap.size w W ∧ Mds W ∧ Cols W ∧ Pnt W w.heap.size x y i ∧ Pnt W bq x2 y2 i2 ∧ Pnt W ba X1 Y1 j1 ∧ Pnt W bb X1 Y1 j1 ∧ Pnt W bc X2 Y2 j2 ∧ Pnt W bd X2 Y2 j2 ∧ Pnt W bn X3 Y3 j3 ∧ Pnt W bm X3 Y3 j3) ⟨B, hD, hO, hP, hQ, hA, hB, hC, hd, hN, hM⟩ ?_
  clear B hD hO hP hQ hA hB hC hd hN hM 
  rintro W ⟨B, hD, hO, hP, hQ, hA, hB, hC, hd, hN, hM⟩
  have ghP := hP.grown
  have ghQ := hQ.grown
  have hDg : ∀ d os, Mds (grow (redrawn W d) os) := fun d os => hD.keep (below_regrown W d os)
  have hOg : ∀ d os, Cols (grow (redrawn W d) os) := fun d os => hO.keep (below_regrown W d os)
  refine wp_region_quiet_below (by kernel_rfl) (by kernel_rfl) ?_
  repeat
    first
      | go_big_quiet_skip
      | (go_big_quiet_want; go_big_quiet_op; go_big_quiet_on)
      | (go_big_quiet_want
         go_big_quiet_op
         apply Exists.intro
         refine ⟨fun p => ?_, ?_⟩
         · (first | (go_at_call 25; with_reducible exact Calls.regrown_of (P1.out _ (hDg p.d p.os))) | (go_at_call 25; with_reducible exact Calls.regrown_of (P2.out _ (hDg p.d p.os))) | (go_at_call 26; with_reducible exact Calls.regrown_of (Q1.out _)) | (go_at_call 26; with_reducible exact Calls.regrown_of (Q2.out _)) | (go_at_call 27; with_reducible exact Calls.regrown_of (G1.out _ (hOg p.d p.os))) | (go_at_call 28; with_reducible exact Calls.regrown_of (G2.out _)))
         go_big_quiet_on)
  refine wpQuiet_nil ?_
  rintro w10 ⟨p, rfl⟩
  have hb := below_regrown W p.d p.os
  generalize grow (redrawn W p.d) p.os = w10 at *
  replace B := B.trans (hb.mono B.size)
  replace hD := hD.keep hb; replace hO := hO.keep hb; replace hP := hP.keep hb; replace hQ := hQ.keep hb; replace hA := hA.keep hb; replace hB := hB.keep hb; replace hC := hC.keep hb; replace hd := hd.keep hb; replace hN := hN.keep hb; replace hM := hM.keep hb
  clear hb W ghP ghQ hDg hOg
  clear hD hO hP hQ hA hB hC hd hN hM
  go_wp2
  simp [bodyPost, results, Tryd.results6, go_sem]
  exact B
theorem cadds_any {x y x2 y2 : Int} {i i2 : Bool} (hx : Num x) (hy : Num y) (hx2 : Num x2) (hy2 : Num y2) (w : World) (hm : Mds w) (hc : Cols w) :
    Calls Tryd.prog 6 #[.agg #[.int .u64 (l0 x), .int .u64 (l1 x), .int .u64 (l2 x), .int .u64 (l3 x), .int .u64 (l0 y), .int .u64 (l1 y), .int .u64 (l2 y), .int .u64 (l3 y), .bool i], .agg #[.int .u64 (l0 x2), .int .u64 (l1 x2), .int .u64 (l2 x2), .int .u64 (l3 x2), .int .u64 (l0 y2), .int .u64 (l1 y2), .int .u64 (l2 y2), .int .u64 (l3 y2), .bool i2]] w fun e w' => e = .returned (.bool true) ∧ Below w.heap.size w w' := by
  obtain ⟨X1, Y1, j1, e1, a1, a2, CA, RA⟩ := add_both (i := i) (i2 := i2) hx hy hx2 hy2
  obtain ⟨X2, Y2, j2, e2, b1, b2, CD, RD⟩ := dbl_both (i := i) hx hy
  obtain ⟨X3, Y3, j3, e3, c1, c2, CN, RN⟩ := neg_both (i := i) hx hy
  exact cadds_walk CA RA CD RD CN RN (fun w => lnum5_any e1 w) (fun w => lnum5_any e2 w) (fun w => lnum5_any e3 w) (eq_pt_num a1 a2) (eq_pt_num b1 b2) (eq_pt_num c1 c2)
    (fun w hm => con_any hx hy w hm) (fun w hm => con_any hx2 hy2 w hm) (fun w => r5on_any hx hy w) (fun w => r5on_any hx2 hy2 w) (fun w hc => cg_any w hc.gat) (fun w => r5g_any w) (eq_pt_self g_valid) w hm hc
end Go.Proofs.YtjppjieidjodfabDoor
