import Derived.Test.YtgedkdkaddcmmaaDoorCSumK
import Derived.Test.YtgedkdkaddcmmaaDoorQAlloc
import Derived.Test.YtgedkdkaddcmmaaDoorCLift
import Derived.Test.YtgedkdkaddcmmaaDoorFRootAny
namespace Go.Proofs.YtgedkdkaddcmmaaDoor
open Go.RowKit Go.Sort

def gX : Int := 55066263022277343669578718895168534326250603453777594175500187360389116729240
def gY : Int := 32670510020758816978083085130507043184471273380659243275938904335757337482424
end Go.Proofs.YtgedkdkaddcmmaaDoor

namespace Go.Proofs.YtgedkdkaddcmmaaDoor
open Go.RowKit Go.Sort
theorem fp_cast (u : EC.F) : EC.fp (u.val : Int) = u := by
  apply Fin.ext
  rw [EC.fp_val]
  have := u.isLt
  omega
/-- Every point has its value. -/
theorem rep_pt {p : EC.Pt} (h : EC.On p) : ∃ x y i, Vd x y i ∧ ptOf x y i = p := by
  cases p with
  | o => exact ⟨0, 0, true, ⟨rfl, rfl⟩, rfl⟩
  | a u v =>
    have e : ptOf (u.val : Int) (v.val : Int) false = .a u v := by
      show EC.Pt.a _ _ = _
      rw [fp_cast, fp_cast]
    exact ⟨u.val, v.val, false, ⟨EC.fp_low u, EC.fp_low v, by rw [e]; exact h⟩, e⟩
theorem con_no {x y : Int} {i : Bool} (hx : Num x) (hy : Num y) (h : ¬ Vd x y i) : Hid (∀ w, Mds w → Calls Tryd.prog 7 #[.agg #[.int .u64 (l0 x), .int .u64 (l1 x), .int .u64 (l2 x), .int .u64 (l3 x), .int .u64 (l0 y), .int .u64 (l1 y), .int .u64 (l2 y), .int .u64 (l3 y), .bool i]] w fun e w' => e = .returned (.bool false) ∧ Below w.heap.size w w') := fun w hm => by
  have := con_any (i := i) hx hy w hm
  rw [decide_eq_false h] at this; exact this
end Go.Proofs.YtgedkdkaddcmmaaDoor

namespace Go.Proofs.YtgedkdkaddcmmaaDoor
open Go.RowKit Go.Sort

end Go.Proofs.YtgedkdkaddcmmaaDoor

namespace Go.Proofs.YtgedkdkaddcmmaaDoor
open Go.RowKit Go.Sort

def put9 (W : World) (b : Nat) (x y : Int) (i : Bool) : World := (((((((((W.setCell ⟨b, 0, none⟩ (.int .u64 (l0 x))).setCell ⟨b, 1, none⟩ (.int .u64 (l1 x))).setCell ⟨b, 2, none⟩ (.int .u64 (l2 x))).setCell ⟨b, 3, none⟩ (.int .u64 (l3 x))).setCell ⟨b, 4, none⟩ (.int .u64 (l0 y))).setCell ⟨b, 5, none⟩ (.int .u64 (l1 y))).setCell ⟨b, 6, none⟩ (.int .u64 (l2 y))).setCell ⟨b, 7, none⟩ (.int .u64 (l3 y))).setCell ⟨b, 8, none⟩ (.bool i))
theorem Bk9.put9 {W : World} {b : Nat} (h : Bk9 W b) (x y : Int) (i : Bool) : Pnt (Go.Proofs.YtgedkdkaddcmmaaDoor.put9 W b x y i) b x y i := by
  obtain ⟨a0, a1, a2, a3, a4, a5, a6, a7, a8⟩ := h.cells
  intro k hk
  have hk' : k < 9 := by simpa using hk
  have hc : k = 0 ∨ k = 1 ∨ k = 2 ∨ k = 3 ∨ k = 4 ∨ k = 5 ∨ k = 6 ∨ k = 7 ∨ k = 8 := by omega
  unfold Go.Proofs.YtgedkdkaddcmmaaDoor.put9
  rcases hc with rfl | rfl | rfl | rfl | rfl | rfl | rfl | rfl | rfl <;> simp [go_sem, a0, a1, a2, a3, a4, a5, a6, a7, a8]
theorem Pnt.put9 {W : World} {b b' : Nat} {x y x' y' : Int} {i j : Bool} (h : Pnt W b x y i) (ne : b' ≠ b) : Pnt (Go.Proofs.YtgedkdkaddcmmaaDoor.put9 W b' x' y' j) b x y i := by
  unfold Go.Proofs.YtgedkdkaddcmmaaDoor.put9
  exact Cl.set (Cl.set (Cl.set (Cl.set (Cl.set (Cl.set (Cl.set (Cl.set (Cl.set (h) ne _) ne _) ne _) ne _) ne _) ne _) ne _) ne _) ne _
theorem Mds.put9 {W : World} {b' : Nat} {x' y' : Int} {j : Bool} (h : Mds W) (ne : b' ≠ 0) : Mds (Go.Proofs.YtgedkdkaddcmmaaDoor.put9 W b' x' y' j) := by
  unfold Go.Proofs.YtgedkdkaddcmmaaDoor.put9
  exact (((((((((h.set ne _).set ne _).set ne _).set ne _).set ne _).set ne _).set ne _).set ne _).set ne _)
theorem below_put9 {W w : World} {n b : Nat} {x' y' : Int} {j : Bool} (h : Below n w W) (hb : n ≤ b) : Below n w (put9 W b x' y' j) := by
  unfold put9
  exact (((((((((h.setCell hb _).setCell hb _).setCell hb _).setCell hb _).setCell hb _).setCell hb _).setCell hb _).setCell hb _).setCell hb _)

end Go.Proofs.YtgedkdkaddcmmaaDoor

namespace Go.Proofs.YtgedkdkaddcmmaaDoor
open Go.RowKit Go.Sort

set_option maxRecDepth 100000 in
set_option maxHeartbeats 4000000 in
theorem r5times_walk {n x r : Int} (C1 : Hid (∀ w, Calls Tryd.prog 44 #[.int .u64 n] w fun e w' => e = .returned (.agg #[.int .u64 (l0 n), .int .u64 (l1 n), .int .u64 (l2 n), .int .u64 (l3 n)]) ∧ Below w.heap.size w w')) (C2 : Hid (∀ w, Calls Tryd.prog 25 #[.agg #[.int .u64 (l0 n), .int .u64 (l1 n), .int .u64 (l2 n), .int .u64 (l3 n)], .agg #[.int .u64 (l0 x), .int .u64 (l1 x), .int .u64 (l2 x), .int .u64 (l3 x)]] w fun e w' => e = .returned (.agg #[.int .u64 (l0 r), .int .u64 (l1 r), .int .u64 (l2 r), .int .u64 (l3 r)]) ∧ Below w.heap.size w w')) (w : World) :
    Calls Tryd.prog 29 #[.int .u64 n, .agg #[.int .u64 (l0 x), .int .u64 (l1 x), .int .u64 (l2 x), .int .u64 (l3 x)]] w fun e w' => e = .returned (.agg #[.int .u64 (l0 r), .int .u64 (l1 r), .int .u64 (l2 r), .int .u64 (l3 r)]) ∧ Below w.heap.size w w' := by
  go_enter Tryd.func29, Tryd.ntmps29
  go_wp2_with fail
  refine wp_world (fun W => Below w.heap.size w W ∧ Hold W w.heap.size x ∧ Blank W (w.heap.size + 1)) ⟨by repeat (first | with_reducible exact Below.refl _ _ | with_reducible refine Below.alloc ?_ (by first | omega | (simp; done) | (simp; omega)) _), (Hold.new _ _ _).alloc _, Blank.new (by simp)⟩ ?_
  rintro W ⟨B, hX, hR⟩
  have o3 : w.heap.size ≤ w.heap.size + 1 := by omega
  generalize w.heap.size + 1 = br at *
  have ghX := hX.grown
  refine below_tail 4 (by kernel_rfl) (by kernel_rfl) ?_
  simp only [List.take_succ_cons, List.take_zero, List.drop_succ_cons, List.drop_zero]
  repeat
    first
      | go_big_quiet_skip
      | (go_big_quiet_want; go_big_quiet_op; go_big_quiet_on)
      | (go_big_quiet_want
         go_big_quiet_op
         apply Exists.intro
         refine ⟨fun p => ?_, ?_⟩
         · (first | (go_at_call 44; with_reducible exact Calls.regrown_of (C1.out _)) | (go_at_call 25; with_reducible exact Calls.regrown_of (C2.out _)))
         go_big_quiet_on)
  refine wpQuiet_nil ?_
  rintro w1 ⟨p, rfl⟩
  have hb := below_regrown W p.d p.os
  generalize grow (redrawn W p.d) p.os = w1 at *
  replace B := B.trans (hb.mono B.size)
  replace hX := hX.keep hb; replace hR := hR.keep hb
  clear hb W ghX 
  clear hX
  have gR := hR.1.all4; have fR := hR.2.all4
  go_wp2
  simp [bodyPost, results, Tryd.results29, go_sem, *]
  repeat (first | with_reducible exact B | with_reducible refine Below.setCell ?_ o3 _)

theorem r5times_any {n x : Int} (hn : Word n) (hx : Num x) (w : World) : Calls Tryd.prog 29 #[.int .u64 n, .agg #[.int .u64 (l0 x), .int .u64 (l1 x), .int .u64 (l2 x), .int .u64 (l3 x)]] w fun e w' => e = .returned (.agg #[.int .u64 (l0 (modN pN (n * x))), .int .u64 (l1 (modN pN (n * x))), .int .u64 (l2 (modN pN (n * x))), .int .u64 (l3 (modN pN (n * x)))]) ∧ Below w.heap.size w w' :=
  r5times_walk (fun w => rfrom_any hn w) (fun w => r5mul_any ⟨hn.1, by have := hn.2; omega⟩ hx w) w
end Go.Proofs.YtgedkdkaddcmmaaDoor

namespace Go.Proofs.YtgedkdkaddcmmaaDoor
open Go.RowKit Go.Sort

set_option maxHeartbeats 1000000 in
theorem r5identity_any (w : World) : Calls Tryd.prog 12 #[] w fun e w' => e = .returned (.agg #[.int .u64 (l0 0), .int .u64 (l1 0), .int .u64 (l2 0), .int .u64 (l3 0), .int .u64 (l0 0), .int .u64 (l1 0), .int .u64 (l2 0), .int .u64 (l3 0), .bool true]) ∧ Below w.heap.size w w' := by
  obtain ⟨z0, z1, z2, z3⟩ := zero_limbs
  rw [z0, z1, z2, z3]
  go_enter Tryd.func12, Tryd.ntmps12
  go_wp2
  simp [bodyPost, results, Tryd.results12, go_sem]
  repeat (first | with_reducible exact Below.refl _ _ | with_reducible refine Below.alloc ?_ (by first | omega | (simp; done) | (simp; omega)) _ | with_reducible refine Below.setCell ?_ (by first | omega | (simp; done) | (simp; omega)) _)
end Go.Proofs.YtgedkdkaddcmmaaDoor

namespace Go.Proofs.YtgedkdkaddcmmaaDoor
open Go.RowKit Go.Sort

theorem sumP_onm {L : List PP} {m : Nat} (hV : ∀ i, i < m → Vd (L.getD i ⟨0, 0, true⟩).x (L.getD i ⟨0, 0, true⟩).y (L.getD i ⟨0, 0, true⟩).i) : ∀ i, i ≤ m → EC.On (sumP L i)
  | 0, _ => EC.on_o
  | i + 1, h => EC.Pt.on (sumP_onm hV i (by omega)) (hV i (by omega)).on

set_option maxRecDepth 100000 in
set_option maxHeartbeats 8000000 in
theorem csum_bad {L : List PP} {m : Nat} (hl : L.length ≤ 2000000000000) (hmL : m < L.length) (hV : ∀ i, i < m → Vd (L.getD i ⟨0, 0, true⟩).x (L.getD i ⟨0, 0, true⟩).y (L.getD i ⟨0, 0, true⟩).i) (hN : ∀ w, Mds w → Calls Tryd.prog 7 #[.agg #[.int .u64 (l0 (L.getD m ⟨0, 0, true⟩).x), .int .u64 (l1 (L.getD m ⟨0, 0, true⟩).x), .int .u64 (l2 (L.getD m ⟨0, 0, true⟩).x), .int .u64 (l3 (L.getD m ⟨0, 0, true⟩).x), .int .u64 (l0 (L.getD m ⟨0, 0, true⟩).y), .int .u64 (l1 (L.getD m ⟨0, 0, true⟩).y), .int .u64 (l2 (L.getD m ⟨0, 0, true⟩).y), .int .u64 (l3 (L.getD m ⟨0, 0, true⟩).y), .bool (L.getD m ⟨0, 0, true⟩).i]] w fun e w' => e = .returned (.bool false) ∧ Below w.heap.size w w')
    {a : Option Addr} {g o cap : Nat} (ha : L = [] ∨ a = some ⟨g, o, none⟩) (w : World) (hm : Mds w) (hI : Pts w g o L) (hg : g < w.heap.size) :
    Calls Tryd.prog 4 #[.slice a L.length cap] w fun e w' => e = .returned (.tuple #[.agg #[.int .u64 (l0 0), .int .u64 (l1 0), .int .u64 (l2 0), .int .u64 (l3 0), .int .u64 (l0 0), .int .u64 (l1 0), .int .u64 (l2 0), .int .u64 (l3 0), .bool false], .int .i64 50]) ∧ Below w.heap.size w w' := by
  have HL : Hid (L.length ≤ 2000000000000) := hl
  have HA : Hid (L = [] ∨ a = some ⟨g, o, none⟩) := ha
  have HV : Hid (∀ i, i < m → Vd (L.getD i ⟨0, 0, true⟩).x (L.getD i ⟨0, 0, true⟩).y (L.getD i ⟨0, 0, true⟩).i) := hV
  have HN : Hid (∀ w, Mds w → Calls Tryd.prog 7 #[.agg #[.int .u64 (l0 (L.getD m ⟨0, 0, true⟩).x), .int .u64 (l1 (L.getD m ⟨0, 0, true⟩).x), .int .u64 (l2 (L.getD m ⟨0, 0, true⟩).x), .int .u64 (l3 (L.getD m ⟨0, 0, true⟩).x), .int .u64 (l0 (L.getD m ⟨0, 0, true⟩).y), .int .u64 (l1 (L.getD m ⟨0, 0, true⟩).y), .int .u64 (l2 (L.getD m ⟨0, 0, true⟩).y), .int .u64 (l3 (L.getD m ⟨0, 0, true⟩).y), .bool (L.getD m ⟨0, 0, true⟩).i]] w fun e w' => e = .returned (.bool false) ∧ Below w.heap.size w w') := hN
  have HML : Hid (m < L.length) := hmL
  clear ha hV hl hN hmL
  obtain ⟨z0, z1, z2, z3⟩ := zero_limbs
  rw [z0, z1, z2, z3]
  clear z0 z1 z2 z3
  go_enter Tryd.func4, Tryd.ntmps4
  go_wp2_with fail
  refine wp_world (fun W => Below w.heap.size w W ∧ Mds W ∧ Pts W g o L ∧ Bk9 W w.heap.size ∧ TV W (w.heap.size + 1) 0 0 0) ⟨by repeat (first | with_reducible exact Below.refl _ _ | with_reducible refine Below.alloc ?_ (by first | omega | (simp; done) | (simp; omega)) _), (hm.alloc _).alloc _, (hI.alloc _).alloc _, (Bk9.new rfl).alloc _, (Bk12.new (by simp)).tv⟩ ?_
  rintro W ⟨B, hD, hI, hR, hS⟩
  have o1 : w.heap.size ≤ w.heap.size + 1 := by omega
  have n1 : w.heap.size + 1 ≠ w.heap.size := by omega
  have ng : w.heap.size + 1 ≠ g := by omega
  have nd : w.heap.size + 1 ≠ 0 := by have := hm.lt; omega
  generalize w.heap.size + 1 = bs at *
  go_loopg [9] L.length (fun k iv wr => ∃ i : Nat, k = L.length - i ∧ i ≤ m ∧ iv = .int .i64 (i : Int) ∧ Below w.heap.size w wr ∧ Mds wr ∧ Pts wr g o L ∧ Bk9 wr w.heap.size ∧ ∃ x y z, EC.Low x ∧ EC.Low y ∧ EC.Low z ∧ (J3 x y z).pt = sumP L i ∧ TV wr bs x y z)
  case atStart => exact ⟨0, rfl, Nat.zero_le _, rfl, B, hD, hI, hR, 0, 0, 0, ⟨by decide, by decide⟩, ⟨by decide, by decide⟩, ⟨by decide, by decide⟩, EC.pt_o EC.fp_zero, hS⟩
  case round =>
    clear B hD hI hR hS W
    obtain ⟨i, hk, hi, rfl, B, hD, hI, hR, x, y, z, lx, ly, lz, es, hS⟩ := hrel
    have HK : Hid (gk = L.length - i ∧ i ≤ m) := ⟨hk, hi⟩
    clear hk hi
    by_cases hz : i = m
    · subst hz
      have hlt : i < L.length := HML.out
      obtain rfl : a = some ⟨g, o, none⟩ := by
        rcases HA.out with h | h
        · rw [h] at hlt; simp at hlt
        · exact h
      have gI := hI i hlt
      generalize (L.getD i ⟨0, 0, true⟩) = pq at *
      obtain ⟨qx, qy, qi⟩ := pq
      simp only at gI HN
      clear es lx ly lz HV
      go_wp2_with fail
      refine calls_world (fun W => Below w.heap.size w W ∧ Mds W ∧ Bk9 W w.heap.size) ⟨B.alloc B.size _, hD.alloc _, hR.alloc _⟩ ?_
      clear B hD hI hR hS gI
      rintro W ⟨B, hD, hR⟩
      with_reducible refine (HN.out _ hD).mono ?_
      rintro e w1 ⟨rfl, hb⟩
      replace B := B.trans (hb.mono B.size)
      replace hR := hR.keep hb
      clear hb hD W
      have o3 : w.heap.size ≤ w.heap.size := Nat.le_refl _
      have gR := hR.cells; have fR := hR.free
      go_wp2
      simp [bodyPost, results, Tryd.results4, go_sem, gR]
      repeat (first | with_reducible exact B | with_reducible refine Below.setCell ?_ o3 _)
    · have him : i < m := by have := HK.out.2; omega
      have hlt : i < L.length := by have := HML.out; omega
      obtain rfl : a = some ⟨g, o, none⟩ := by
        rcases HA.out with h | h
        · rw [h] at hlt; simp at hlt
        · exact h
      have gI := hI i hlt
      have vq := HV.out i him
      have es2 : Hid (sumP L (i + 1) = (sumP L i).add (L.getD i ⟨0, 0, true⟩).pt ∧ EC.On (sumP L i)) := ⟨rfl, sumP_onm HV.out i (by omega)⟩
      have eq : Hid ((L.getD i ⟨0, 0, true⟩).pt = ptOf (L.getD i ⟨0, 0, true⟩).x (L.getD i ⟨0, 0, true⟩).y (L.getD i ⟨0, 0, true⟩).i) := rfl
      generalize (L.getD i ⟨0, 0, true⟩) = pq at gI vq es2 eq
      obtain ⟨qx, qy, qi⟩ := pq
      simp only at gI vq eq
      obtain ⟨a1, a2, a3, k1, k2, k3, ew, CW⟩ := cwiden_J vq
      obtain ⟨b1, b2, b3, m1, m2, m3, ea, CA⟩ := cadd_J lx ly lz k1 k2 k3
      have on1 : EC.On (J3 x y z).pt := by rw [es]; exact es2.out.2
      have on2 : EC.On (J3 a1 a2 a3).pt := by rw [ew]; exact vq.on
      have eb : Hid ((J3 b1 b2 b3).pt = sumP L (i + 1)) := by
        show (J3 b1 b2 b3).pt = sumP L (i + 1)
        rw [ea, EC.ja_pt on1 on2, es, ew, es2.out.1, eq.out]
      have CO : Hid (∀ w, Mds w → Calls Tryd.prog 7 #[.agg #[.int .u64 (l0 qx), .int .u64 (l1 qx), .int .u64 (l2 qx), .int .u64 (l3 qx), .int .u64 (l0 qy), .int .u64 (l1 qy), .int .u64 (l2 qy), .int .u64 (l3 qy), .bool qi]] w fun e w' => e = .returned (.bool true) ∧ Below w.heap.size w w') := fun w hm => by
        have := con_any (i := qi) vq.low.1.num vq.low.2.num w hm
        rw [decide_eq_true vq] at this; exact this
      have CWH : Hid (∀ w, Calls Tryd.prog 9 #[.agg #[.int .u64 (l0 qx), .int .u64 (l1 qx), .int .u64 (l2 qx), .int .u64 (l3 qx), .int .u64 (l0 qy), .int .u64 (l1 qy), .int .u64 (l2 qy), .int .u64 (l3 qy), .bool qi]] w fun e w' => e = .returned (.agg #[.int .u64 (l0 a1), .int .u64 (l1 a1), .int .u64 (l2 a1), .int .u64 (l3 a1), .int .u64 (l0 a2), .int .u64 (l1 a2), .int .u64 (l2 a2), .int .u64 (l3 a2), .int .u64 (l0 a3), .int .u64 (l1 a3), .int .u64 (l2 a3), .int .u64 (l3 a3)]) ∧ Below w.heap.size w w') := CW
      have CAH : Hid (∀ w, Mds w → Calls Tryd.prog 8 #[.agg #[.int .u64 (l0 x), .int .u64 (l1 x), .int .u64 (l2 x), .int .u64 (l3 x), .int .u64 (l0 y), .int .u64 (l1 y), .int .u64 (l2 y), .int .u64 (l3 y), .int .u64 (l0 z), .int .u64 (l1 z), .int .u64 (l2 z), .int .u64 (l3 z)], .agg #[.int .u64 (l0 a1), .int .u64 (l1 a1), .int .u64 (l2 a1), .int .u64 (l3 a1), .int .u64 (l0 a2), .int .u64 (l1 a2), .int .u64 (l2 a2), .int .u64 (l3 a2), .int .u64 (l0 a3), .int .u64 (l1 a3), .int .u64 (l2 a3), .int .u64 (l3 a3)]] w fun e w' => e = .returned (.agg #[.int .u64 (l0 b1), .int .u64 (l1 b1), .int .u64 (l2 b1), .int .u64 (l3 b1), .int .u64 (l0 b2), .int .u64 (l1 b2), .int .u64 (l2 b2), .int .u64 (l3 b2), .int .u64 (l0 b3), .int .u64 (l1 b3), .int .u64 (l2 b3), .int .u64 (l3 b3)]) ∧ Below w.heap.size w w') := CA
      have HM : Hid (EC.Low b1 ∧ EC.Low b2 ∧ EC.Low b3) := ⟨m1, m2, m3⟩
      clear CW CA on1 on2 ea ew es es2 eq vq lx ly lz k1 k2 k3 m1 m2 m3 hz
      go_wp2_with fail
      refine calls_world (fun W => Below w.heap.size w W ∧ Mds W ∧ Pts W g o L ∧ Bk9 W w.heap.size ∧ TV W bs x y z ∧ Pnt W wr.heap.size qx qy qi) ⟨B.alloc B.size _, hD.alloc _, hI.alloc _, hR.alloc _, hS.alloc _, Pnt.new rfl⟩ ?_
      have np : wr.heap.size ≠ bs := by have := hS.1.lt; omega
      clear B hD hI hR hS gI
      rintro W ⟨B, hD, hI, hR, hS, hP⟩
      generalize wr.heap.size = bp at *
      with_reducible refine (CO.out _ hD).mono ?_
      rintro e w1 ⟨rfl, hb⟩
      replace B := B.trans (hb.mono B.size)
      replace hD := hD.keep hb; replace hI := hI.keep hb; replace hR := hR.keep hb; replace hS := hS.keep hb; replace hP := hP.keep hb
      clear hb W CO
      go_wp2_with fail
      refine wp_world (fun W => Below w.heap.size w W ∧ Mds W ∧ Pts W g o L ∧ Bk9 W w.heap.size ∧ TV W bs x y z ∧ Pnt W bp qx qy qi) ⟨B, hD, hI, hR, hS, hP⟩ ?_
      clear B hD hI hR hS hP
      rintro W ⟨B, hD, hI, hR, hS, hP⟩
      clear w1
      have gS := hS.1.grown
      have gP := hP.grown
      have hDg : ∀ d os, Mds (grow (redrawn W d) os) := fun d os => hD.keep (below_regrown W d os)
      refine below_tail 4 (by kernel_rfl) (by kernel_rfl) ?_
      simp only [List.take_succ_cons, List.take_zero, List.drop_succ_cons, List.drop_zero]
      repeat
        first
          | go_big_quiet_skip
          | (go_big_quiet_want; go_big_quiet_op; go_big_quiet_on)
          | (go_big_quiet_want
             go_big_quiet_op
             apply Exists.intro
             refine ⟨fun p => ?_, ?_⟩
             · (first | (go_at_call 9; with_reducible exact Calls.regrown_of (CWH.out _)) | (go_at_call 8; with_reducible exact Calls.regrown_of (CAH.out _ (hDg p.d p.os))))
             go_big_quiet_on)
      refine wpQuiet_nil ?_
      rintro w2 ⟨p, rfl⟩
      have hb := below_regrown W p.d p.os
      generalize grow (redrawn W p.d) p.os = w2 at *
      replace B := B.trans (hb.mono B.size)
      replace hD := hD.keep hb; replace hI := hI.keep hb; replace hR := hR.keep hb; replace hS := hS.keep hb
      clear hb gS gP hDg hP W
      have gS := hS.1.cells; have fS := hS.free
      have hi6 : (i : Int) < 2000000000000 := by have := HL.out; omega
      go_wp2
      go_roundg (L.length - (i + 1))
      case measure => have := HK.out.1; omega
      case rel => exact ⟨i + 1, rfl, him, by go_num, below_put B o1 b1 b2 b3, hD.put nd b1 b2 b3, hI.put ng b1 b2 b3, hR.put n1 b1 b2 b3, b1, b2, b3, HM.out.1, HM.out.2.1, HM.out.2.2, eb.out, hS.put b1 b2 b3⟩
end Go.Proofs.YtgedkdkaddcmmaaDoor
