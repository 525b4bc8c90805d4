import Derived.Test.YtgedkdkaddcmmaaDoorCPt
import Derived.Test.YtgedkdkaddcmmaaDoorFList
namespace Go.Proofs.YtgedkdkaddcmmaaDoor
open Go.RowKit Go.Sort

/-- A value of type Point. -/
structure PP where
  x : Int
  y : Int
  i : Bool
def PP.pt (q : PP) : EC.Pt := ptOf q.x q.y q.i
/-- Points in a row, from a cell on. -/
def Pts (W : World) (b o : Nat) (L : List PP) : Prop := ∀ i, i < L.length → W.cell? ⟨b, o + i * 9, none⟩ = some (.int .u64 (l0 (L.getD i ⟨0, 0, true⟩).x)) ∧ W.cell? ⟨b, o + i * 9 + 1, none⟩ = some (.int .u64 (l1 (L.getD i ⟨0, 0, true⟩).x)) ∧ W.cell? ⟨b, o + i * 9 + 2, none⟩ = some (.int .u64 (l2 (L.getD i ⟨0, 0, true⟩).x)) ∧ W.cell? ⟨b, o + i * 9 + 3, none⟩ = some (.int .u64 (l3 (L.getD i ⟨0, 0, true⟩).x)) ∧ W.cell? ⟨b, o + i * 9 + 4, none⟩ = some (.int .u64 (l0 (L.getD i ⟨0, 0, true⟩).y)) ∧ W.cell? ⟨b, o + i * 9 + 5, none⟩ = some (.int .u64 (l1 (L.getD i ⟨0, 0, true⟩).y)) ∧ W.cell? ⟨b, o + i * 9 + 6, none⟩ = some (.int .u64 (l2 (L.getD i ⟨0, 0, true⟩).y)) ∧ W.cell? ⟨b, o + i * 9 + 7, none⟩ = some (.int .u64 (l3 (L.getD i ⟨0, 0, true⟩).y)) ∧ W.cell? ⟨b, o + i * 9 + 8, none⟩ = some (.bool (L.getD i ⟨0, 0, true⟩).i)
theorem Pts.keep {W w1 : World} {b o : Nat} {L : List PP} (h : Pts W b o L) (hb : Below W.heap.size W w1) : Pts w1 b o L := fun i hi => by
  obtain ⟨a0, a1, a2, a3, a4, a5, a6, a7, a8⟩ := h i hi
  exact ⟨cell_keep hb a0, cell_keep hb a1, cell_keep hb a2, cell_keep hb a3, cell_keep hb a4, cell_keep hb a5, cell_keep hb a6, cell_keep hb a7, cell_keep hb a8⟩
theorem Pts.alloc {W : World} {b o : Nat} {L : List PP} (h : Pts W b o L) (ob : Obj) : Pts (W.alloc ob) b o L := h.keep ((Below.refl _ _).alloc (Nat.le_refl _) ob)
theorem Pts.set {W : World} {b o b' k : Nat} {L : List PP} (h : Pts W b o L) (ne : b' ≠ b) (v : Value) : Pts (W.setCell ⟨b', k, none⟩ v) b o L := fun i hi => by
  obtain ⟨a0, a1, a2, a3, a4, a5, a6, a7, a8⟩ := h i hi
  exact ⟨cell_far a0 ne, cell_far a1 ne, cell_far a2 ne, cell_far a3 ne, cell_far a4 ne, cell_far a5 ne, cell_far a6 ne, cell_far a7 ne, cell_far a8 ne⟩
/-- Three numbers in a block that may be written. -/
def TV (W : World) (b : Nat) (x y z : Int) : Prop := Thr W b x y z ∧ Loose W b 12
theorem TV.keep {W w1 : World} {b : Nat} {x y z : Int} (h : TV W b x y z) (hb : Below W.heap.size W w1) : TV w1 b x y z := ⟨h.1.keep hb, h.2.keep hb h.1.lt⟩
theorem TV.alloc {W : World} {b : Nat} {x y z : Int} (h : TV W b x y z) (ob : Obj) : TV (W.alloc ob) b x y z := h.keep ((Below.refl _ _).alloc (Nat.le_refl _) ob)
theorem TV.free {W : World} {b : Nat} {x y z : Int} (h : TV W b x y z) : W.frozen? ⟨b, 0, none⟩ = false ∧ W.frozen? ⟨b, 1, none⟩ = false ∧ W.frozen? ⟨b, 2, none⟩ = false ∧ W.frozen? ⟨b, 3, none⟩ = false ∧ W.frozen? ⟨b, 4, none⟩ = false ∧ W.frozen? ⟨b, 5, none⟩ = false ∧ W.frozen? ⟨b, 6, none⟩ = false ∧ W.frozen? ⟨b, 7, none⟩ = false ∧ W.frozen? ⟨b, 8, none⟩ = false ∧ W.frozen? ⟨b, 9, none⟩ = false ∧ W.frozen? ⟨b, 10, none⟩ = false ∧ W.frozen? ⟨b, 11, none⟩ = false := ⟨h.2 0 (by decide), h.2 1 (by decide), h.2 2 (by decide), h.2 3 (by decide), h.2 4 (by decide), h.2 5 (by decide), h.2 6 (by decide), h.2 7 (by decide), h.2 8 (by decide), h.2 9 (by decide), h.2 10 (by decide), h.2 11 (by decide)⟩
def put12 (W : World) (b : Nat) (x' y' z' : Int) : World := ((((((((((((W.setCell ⟨b, 0, none⟩ (.int .u64 (l0 x'))).setCell ⟨b, 1, none⟩ (.int .u64 (l1 x'))).setCell ⟨b, 2, none⟩ (.int .u64 (l2 x'))).setCell ⟨b, 3, none⟩ (.int .u64 (l3 x'))).setCell ⟨b, 4, none⟩ (.int .u64 (l0 y'))).setCell ⟨b, 5, none⟩ (.int .u64 (l1 y'))).setCell ⟨b, 6, none⟩ (.int .u64 (l2 y'))).setCell ⟨b, 7, none⟩ (.int .u64 (l3 y'))).setCell ⟨b, 8, none⟩ (.int .u64 (l0 z'))).setCell ⟨b, 9, none⟩ (.int .u64 (l1 z'))).setCell ⟨b, 10, none⟩ (.int .u64 (l2 z'))).setCell ⟨b, 11, none⟩ (.int .u64 (l3 z')))
theorem TV.put {W : World} {b : Nat} {x y z : Int} (h : TV W b x y z) (x' y' z' : Int) : TV (put12 W b x' y' z') b x' y' z' := by
  have hl : ∀ k, k < 12 → ∀ (W' : World), Loose W' b 12 → True := fun _ _ _ _ => trivial
  clear hl
  refine ⟨?_, ?_⟩
  · obtain ⟨a0, a1, a2, a3, a4, a5, a6, a7, a8, a9, a10, a11⟩ := h.1.cells
    intro k hk
    have hk' : k < 12 := by simpa using hk
    have hc : k = 0 ∨ k = 1 ∨ k = 2 ∨ k = 3 ∨ k = 4 ∨ k = 5 ∨ k = 6 ∨ k = 7 ∨ k = 8 ∨ k = 9 ∨ k = 10 ∨ k = 11 := by omega
    unfold put12
    rcases hc with rfl | rfl | rfl | rfl | rfl | rfl | rfl | rfl | rfl | rfl | rfl | rfl <;> simp [go_sem, a0, a1, a2, a3, a4, a5, a6, a7, a8, a9, a10, a11]
  · unfold put12
    exact ((((((((((((h.2.set _ _).set _ _).set _ _).set _ _).set _ _).set _ _).set _ _).set _ _).set _ _).set _ _).set _ _).set _ _)
theorem Cl.put {W : World} {b b' : Nat} {l : List Value} (h : Cl W b l) (ne : b' ≠ b) (x' y' z' : Int) : Cl (put12 W b' x' y' z') b l := by
  unfold put12
  exact ((((((((((((h.set ne _).set ne _).set ne _).set ne _).set ne _).set ne _).set ne _).set ne _).set ne _).set ne _).set ne _).set ne _)
theorem Bk9.put {W : World} {b b' : Nat} (h : Bk9 W b) (ne : b' ≠ b) (x' y' z' : Int) : Bk9 (put12 W b' x' y' z') b := ⟨h.1.put ne x' y' z', by unfold put12; exact ((((((((((((h.2.set _ _).set _ _).set _ _).set _ _).set _ _).set _ _).set _ _).set _ _).set _ _).set _ _).set _ _).set _ _)⟩
theorem Mds.put {W : World} {b' : Nat} (h : Mds W) (ne : b' ≠ 0) (x' y' z' : Int) : Mds (put12 W b' x' y' z') := by
  unfold put12
  exact ((((((((((((h.set ne _).set ne _).set ne _).set ne _).set ne _).set ne _).set ne _).set ne _).set ne _).set ne _).set ne _).set ne _)
theorem Pts.put {W : World} {b o b' : Nat} {L : List PP} (h : Pts W b o L) (ne : b' ≠ b) (x' y' z' : Int) : Pts (put12 W b' x' y' z') b o L := by
  unfold put12
  exact ((((((((((((h.set ne _).set ne _).set ne _).set ne _).set ne _).set ne _).set ne _).set ne _).set ne _).set ne _).set ne _).set ne _)
theorem below_put {W w : World} {n b : Nat} (h : Below n w W) (hb : n ≤ b) (x' y' z' : Int) : Below n w (put12 W b x' y' z') := by
  unfold put12
  exact ((((((((((((h.setCell hb _).setCell hb _).setCell hb _).setCell hb _).setCell hb _).setCell hb _).setCell hb _).setCell hb _).setCell hb _).setCell hb _).setCell hb _).setCell hb _)

/-- The sum of the first of them. -/
def sumP (L : List PP) : Nat → EC.Pt
  | 0 => .o
  | i + 1 => (sumP L i).add (L.getD i ⟨0, 0, true⟩).pt
theorem sumP_on {L : List PP} (hV : ∀ i, i < L.length → Vd (L.getD i ⟨0, 0, true⟩).x (L.getD i ⟨0, 0, true⟩).y (L.getD i ⟨0, 0, true⟩).i) : ∀ i, i ≤ L.length → EC.On (sumP L i)
  | 0, _ => EC.on_o
  | i + 1, h => EC.Pt.on (sumP_on hV i (by omega)) (hV i (by omega)).on
end Go.Proofs.YtgedkdkaddcmmaaDoor

namespace Go.Proofs.YtgedkdkaddcmmaaDoor
open Go.RowKit Go.Sort

theorem Bk12.tv {W : World} {b : Nat} (h : Bk12 W b) : TV W b 0 0 0 := by
  obtain ⟨z0, z1, z2, z3⟩ := zero_limbs
  refine ⟨?_, h.2⟩
  unfold Thr
  rw [z0, z1, z2, z3]
  exact h.1

set_option maxRecDepth 100000 in
set_option maxHeartbeats 8000000 in
theorem csum_any {L : List PP} (hl : L.length ≤ 2000000000000) (hV : ∀ i, i < L.length → Vd (L.getD i ⟨0, 0, true⟩).x (L.getD i ⟨0, 0, true⟩).y (L.getD i ⟨0, 0, true⟩).i) {x' y' : Int} {j : Bool} (hj : Vd x' y' j) (ej : ptOf x' y' j = sumP L L.length)
    {a : Option Addr} {g o cap : Nat} (ha : L = [] ∨ a = some ⟨g, o, none⟩) (w : World) (hm : Mds w) (hI : Pts w g o L) (hg : g < w.heap.size) :
    Calls Tryd.prog 4 #[.slice a L.length cap] w fun e w' => e = .returned (.tuple #[.agg #[.int .u64 (l0 x'), .int .u64 (l1 x'), .int .u64 (l2 x'), .int .u64 (l3 x'), .int .u64 (l0 y'), .int .u64 (l1 y'), .int .u64 (l2 y'), .int .u64 (l3 y'), .bool j], .int .i64 0]) ∧ Below w.heap.size w w' := by
  have HL : Hid (L.length ≤ 2000000000000) := hl
  have HA : Hid (L = [] ∨ a = some ⟨g, o, none⟩) := ha
  have HV : Hid (∀ i, i < L.length → Vd (L.getD i ⟨0, 0, true⟩).x (L.getD i ⟨0, 0, true⟩).y (L.getD i ⟨0, 0, true⟩).i) := hV
  have HJ : Hid (Vd x' y' j ∧ ptOf x' y' j = sumP L L.length) := ⟨hj, ej⟩
  clear ha hV hl hj ej
  go_enter Tryd.func4, Tryd.ntmps4
  go_wp2_with fail
  refine wp_world (fun W => Below w.heap.size w W ∧ Mds W ∧ Pts W g o L ∧ Bk9 W w.heap.size ∧ TV W (w.heap.size + 1) 0 0 0) ⟨by repeat (first | with_reducible exact Below.refl _ _ | with_reducible refine Below.alloc ?_ (by first | omega | (simp; done) | (simp; omega)) _), (hm.alloc _).alloc _, (hI.alloc _).alloc _, (Bk9.new rfl).alloc _, (Bk12.new (by simp)).tv⟩ ?_
  rintro W ⟨B, hD, hI, hR, hS⟩
  have o1 : w.heap.size ≤ w.heap.size + 1 := by omega
  have n1 : w.heap.size + 1 ≠ w.heap.size := by omega
  have ng : w.heap.size + 1 ≠ g := by omega
  have nd : w.heap.size + 1 ≠ 0 := by have := hm.lt; omega
  generalize w.heap.size + 1 = bs at *
  go_loopg [9] L.length (fun k iv wr => ∃ i : Nat, k = L.length - i ∧ i ≤ L.length ∧ iv = .int .i64 (i : Int) ∧ Below w.heap.size w wr ∧ Mds wr ∧ Pts wr g o L ∧ Bk9 wr w.heap.size ∧ ∃ x y z, EC.Low x ∧ EC.Low y ∧ EC.Low z ∧ (J3 x y z).pt = sumP L i ∧ TV wr bs x y z)
  case atStart => exact ⟨0, rfl, Nat.zero_le _, rfl, B, hD, hI, hR, 0, 0, 0, ⟨by decide, by decide⟩, ⟨by decide, by decide⟩, ⟨by decide, by decide⟩, EC.pt_o EC.fp_zero, hS⟩
  case round =>
    clear B hD hI hR hS W
    obtain ⟨i, hk, hi, rfl, B, hD, hI, hR, x, y, z, lx, ly, lz, es, hS⟩ := hrel
    have HK : Hid (gk = L.length - i ∧ i ≤ L.length) := ⟨hk, hi⟩
    clear hk hi
    by_cases hz : i = L.length
    · have hzl : ¬ i < L.length := by omega
      have HZ : Hid (i = L.length) := hz
      clear hz
      obtain ⟨px, py, pi, u1, u2, u3, u4, CP⟩ := cpoint_J lx ly lz
      have hon : EC.On (ptOf px py pi) := by rw [u4, es, HZ.out]; exact sumP_on HV.out _ (Nat.le_refl _)
      have hvd : Vd px py pi := by
        cases pi with
        | true => exact u3 rfl
        | false => exact ⟨u1, u2, hon⟩
      obtain ⟨rfl, rfl, rfl⟩ := hvd.inj HJ.out.1 (by rw [u4, es, HZ.out]; exact HJ.out.2.symm)
      have CPH : Hid (∀ w, Mds w → Calls Tryd.prog 10 #[.agg #[.int .u64 (l0 x), .int .u64 (l1 x), .int .u64 (l2 x), .int .u64 (l3 x), .int .u64 (l0 y), .int .u64 (l1 y), .int .u64 (l2 y), .int .u64 (l3 y), .int .u64 (l0 z), .int .u64 (l1 z), .int .u64 (l2 z), .int .u64 (l3 z)]] w fun e w' => e = .returned (.agg #[.int .u64 (l0 px), .int .u64 (l1 px), .int .u64 (l2 px), .int .u64 (l3 px), .int .u64 (l0 py), .int .u64 (l1 py), .int .u64 (l2 py), .int .u64 (l3 py), .bool pi]) ∧ Below w.heap.size w w') := CP
      clear CP u1 u2 u3 u4 hon hvd lx ly lz es
      have gS := hS.1.cells
      go_wp2_with fail
      refine calls_world (fun W => Below w.heap.size w W ∧ Mds W ∧ Bk9 W w.heap.size) ⟨B, hD, hR⟩ ?_
      clear B hD hR hI hS gS
      rintro W ⟨B, hD, hR⟩
      with_reducible refine (CPH.out _ hD).mono ?_
      rintro e w1 ⟨rfl, hb⟩
      replace B := B.trans (hb.mono B.size)
      replace hR := hR.keep hb
      clear hb hD W
      have o3 : w.heap.size ≤ w.heap.size := Nat.le_refl _
      have gR := hR.cells; have fR := hR.free
      go_wp2
      simp [bodyPost, results, Tryd.results4, go_sem, gR]
      repeat (first | with_reducible exact B | with_reducible refine Below.setCell ?_ o3 _)
    · have hlt : i < L.length := by have := HK.out.2; omega
      obtain rfl : a = some ⟨g, o, none⟩ := by
        rcases HA.out with h | h
        · rw [h] at hlt; simp at hlt
        · exact h
      have gI := hI i hlt
      have vq := HV.out i hlt
      have es2 : Hid (sumP L (i + 1) = (sumP L i).add (L.getD i ⟨0, 0, true⟩).pt ∧ EC.On (sumP L i)) := ⟨rfl, sumP_on HV.out i (by omega)⟩
      have eq : Hid ((L.getD i ⟨0, 0, true⟩).pt = ptOf (L.getD i ⟨0, 0, true⟩).x (L.getD i ⟨0, 0, true⟩).y (L.getD i ⟨0, 0, true⟩).i) := rfl
      generalize (L.getD i ⟨0, 0, true⟩) = pq at gI vq es2 eq
      obtain ⟨qx, qy, qi⟩ := pq
      simp only at gI vq eq
      obtain ⟨a1, a2, a3, k1, k2, k3, ew, CW⟩ := cwiden_J vq
      obtain ⟨b1, b2, b3, m1, m2, m3, ea, CA⟩ := cadd_J lx ly lz k1 k2 k3
      have on1 : EC.On (J3 x y z).pt := by rw [es]; exact es2.out.2
      have on2 : EC.On (J3 a1 a2 a3).pt := by rw [ew]; exact vq.on
      have eb : Hid ((J3 b1 b2 b3).pt = sumP L (i + 1)) := by
        show (J3 b1 b2 b3).pt = sumP L (i + 1)
        rw [ea, EC.ja_pt on1 on2, es, ew, es2.out.1, eq.out]
      have CO : Hid (∀ w, Mds w → Calls Tryd.prog 7 #[.agg #[.int .u64 (l0 qx), .int .u64 (l1 qx), .int .u64 (l2 qx), .int .u64 (l3 qx), .int .u64 (l0 qy), .int .u64 (l1 qy), .int .u64 (l2 qy), .int .u64 (l3 qy), .bool qi]] w fun e w' => e = .returned (.bool true) ∧ Below w.heap.size w w') := fun w hm => by
        have := con_any (i := qi) vq.low.1.num vq.low.2.num w hm
        rw [decide_eq_true vq] at this; exact this
      have CWH : Hid (∀ w, Calls Tryd.prog 9 #[.agg #[.int .u64 (l0 qx), .int .u64 (l1 qx), .int .u64 (l2 qx), .int .u64 (l3 qx), .int .u64 (l0 qy), .int .u64 (l1 qy), .int .u64 (l2 qy), .int .u64 (l3 qy), .bool qi]] w fun e w' => e = .returned (.agg #[.int .u64 (l0 a1), .int .u64 (l1 a1), .int .u64 (l2 a1), .int .u64 (l3 a1), .int .u64 (l0 a2), .int .u64 (l1 a2), .int .u64 (l2 a2), .int .u64 (l3 a2), .int .u64 (l0 a3), .int .u64 (l1 a3), .int .u64 (l2 a3), .int .u64 (l3 a3)]) ∧ Below w.heap.size w w') := CW
      have CAH : Hid (∀ w, Mds w → Calls Tryd.prog 8 #[.agg #[.int .u64 (l0 x), .int .u64 (l1 x), .int .u64 (l2 x), .int .u64 (l3 x), .int .u64 (l0 y), .int .u64 (l1 y), .int .u64 (l2 y), .int .u64 (l3 y), .int .u64 (l0 z), .int .u64 (l1 z), .int .u64 (l2 z), .int .u64 (l3 z)], .agg #[.int .u64 (l0 a1), .int .u64 (l1 a1), .int .u64 (l2 a1), .int .u64 (l3 a1), .int .u64 (l0 a2), .int .u64 (l1 a2), .int .u64 (l2 a2), .int .u64 (l3 a2), .int .u64 (l0 a3), .int .u64 (l1 a3), .int .u64 (l2 a3), .int .u64 (l3 a3)]] w fun e w' => e = .returned (.agg #[.int .u64 (l0 b1), .int .u64 (l1 b1), .int .u64 (l2 b1), .int .u64 (l3 b1), .int .u64 (l0 b2), .int .u64 (l1 b2), .int .u64 (l2 b2), .int .u64 (l3 b2), .int .u64 (l0 b3), .int .u64 (l1 b3), .int .u64 (l2 b3), .int .u64 (l3 b3)]) ∧ Below w.heap.size w w') := CA
      have HM : Hid (EC.Low b1 ∧ EC.Low b2 ∧ EC.Low b3) := ⟨m1, m2, m3⟩
      clear CW CA on1 on2 ea ew es es2 eq vq lx ly lz k1 k2 k3 m1 m2 m3 hz
      go_wp2_with fail
      refine calls_world (fun W => Below w.heap.size w W ∧ Mds W ∧ Pts W g o L ∧ Bk9 W w.heap.size ∧ TV W bs x y z ∧ Pnt W wr.heap.size qx qy qi) ⟨B.alloc B.size _, hD.alloc _, hI.alloc _, hR.alloc _, hS.alloc _, Pnt.new rfl⟩ ?_
      have np : wr.heap.size ≠ bs := by have := hS.1.lt; omega
      clear B hD hI hR hS gI
      rintro W ⟨B, hD, hI, hR, hS, hP⟩
      generalize wr.heap.size = bp at *
      with_reducible refine (CO.out _ hD).mono ?_
      rintro e w1 ⟨rfl, hb⟩
      replace B := B.trans (hb.mono B.size)
      replace hD := hD.keep hb; replace hI := hI.keep hb; replace hR := hR.keep hb; replace hS := hS.keep hb; replace hP := hP.keep hb
      clear hb W CO
      go_wp2_with fail
      refine wp_world (fun W => Below w.heap.size w W ∧ Mds W ∧ Pts W g o L ∧ Bk9 W w.heap.size ∧ TV W bs x y z ∧ Pnt W bp qx qy qi) ⟨B, hD, hI, hR, hS, hP⟩ ?_
      clear B hD hI hR hS hP
      rintro W ⟨B, hD, hI, hR, hS, hP⟩
      clear w1
      have gS := hS.1.grown
      have gP := hP.grown
      have hDg : ∀ d os, Mds (grow (redrawn W d) os) := fun d os => hD.keep (below_regrown W d os)
      refine below_tail 4 (by kernel_rfl) (by kernel_rfl) ?_
      simp only [List.take_succ_cons, List.take_zero, List.drop_succ_cons, List.drop_zero]
      repeat
        first
          | go_big_quiet_skip
          | (go_big_quiet_want; go_big_quiet_op; go_big_quiet_on)
          | (go_big_quiet_want
             go_big_quiet_op
             apply Exists.intro
             refine ⟨fun p => ?_, ?_⟩
             · (first | (go_at_call 9; with_reducible exact Calls.regrown_of (CWH.out _)) | (go_at_call 8; with_reducible exact Calls.regrown_of (CAH.out _ (hDg p.d p.os))))
             go_big_quiet_on)
      refine wpQuiet_nil ?_
      rintro w2 ⟨p, rfl⟩
      have hb := below_regrown W p.d p.os
      generalize grow (redrawn W p.d) p.os = w2 at *
      replace B := B.trans (hb.mono B.size)
      replace hD := hD.keep hb; replace hI := hI.keep hb; replace hR := hR.keep hb; replace hS := hS.keep hb
      clear hb gS gP hDg hP W
      have gS := hS.1.cells; have fS := hS.free
      have hi6 : (i : Int) < 2000000000000 := by have := HL.out; omega
      go_wp2
      go_roundg (L.length - (i + 1))
      case measure => have := HK.out.1; omega
      case rel => exact ⟨i + 1, rfl, hlt, by go_num, below_put B o1 b1 b2 b3, hD.put nd b1 b2 b3, hI.put ng b1 b2 b3, hR.put n1 b1 b2 b3, b1, b2, b3, HM.out.1, HM.out.2.1, HM.out.2.2, eb.out, hS.put b1 b2 b3⟩
end Go.Proofs.YtgedkdkaddcmmaaDoor
