import Derived.Test.YtjhongkmempepaaGreatDoorCBlend
import Derived.Test.YtjhongkmempepaaGreatDoorCSumK
import Derived.Test.YtjhongkmempepaaGreatDoorQAlloc
import Derived.Test.YtjhongkmempepaaGreatDoorCRJ
import Derived.Test.YtjhongkmempepaaGreatDoorRefBit
namespace Go.Proofs.YtjhongkmempepaaGreatDoor
open Go.RowKit Go.Sort

theorem Cols.keep {W w1 : World} (h : Cols W) (hb : Below W.heap.size W w1) : Cols w1 := Pts.keep h hb
theorem Cols.alloc {W : World} (h : Cols W) (ob : Obj) : Cols (W.alloc ob) := Pts.alloc h ob
theorem Cols.put9 {W : World} {b' : Nat} {x' y' : Int} {j : Bool} (h : Cols W) (ne : b' ≠ 0) : Cols (Go.Proofs.YtjhongkmempepaaGreatDoor.put9 W b' x' y' j) := by
  unfold Go.Proofs.YtjhongkmempepaaGreatDoor.put9
  exact Pts.set (Pts.set (Pts.set (Pts.set (Pts.set (Pts.set (Pts.set (Pts.set (Pts.set h ne _) ne _) ne _) ne _) ne _) ne _) ne _) ne _) ne _
theorem Nm.lt {W : World} {b : Nat} {n : Int} (h : Nm W b n) : b < W.heap.size := Cl.lt h (by simp)
theorem Nm.put9 {W : World} {b b' : Nat} {n x' y' : Int} {j : Bool} (h : Nm W b n) (ne : b' ≠ b) : Nm (Go.Proofs.YtjhongkmempepaaGreatDoor.put9 W b' x' y' j) b n := by
  unfold Go.Proofs.YtjhongkmempepaaGreatDoor.put9
  exact Cl.set (Cl.set (Cl.set (Cl.set (Cl.set (Cl.set (Cl.set (Cl.set (Cl.set h ne _) ne _) ne _) ne _) ne _) ne _) ne _) ne _) ne _
def put4 (W : World) (b : Nat) (n : Int) : World := (((W.setCell ⟨b, 0, none⟩ (.int .u64 (l0 n))).setCell ⟨b, 1, none⟩ (.int .u64 (l1 n))).setCell ⟨b, 2, none⟩ (.int .u64 (l2 n))).setCell ⟨b, 3, none⟩ (.int .u64 (l3 n))
theorem Blank.put4 {W : World} {b : Nat} (h : Blank W b) (n : Int) : Nm (Go.Proofs.YtjhongkmempepaaGreatDoor.put4 W b n) b n := by
  obtain ⟨a0, a1, a2, a3⟩ := h.1.all4
  intro k hk
  have hk' : k < 4 := by simpa using hk
  have hc : k = 0 ∨ k = 1 ∨ k = 2 ∨ k = 3 := by omega
  unfold Go.Proofs.YtjhongkmempepaaGreatDoor.put4
  rcases hc with rfl | rfl | rfl | rfl <;> simp [go_sem, a0, a1, a2, a3]
theorem Pnt.put4 {W : World} {b b' : Nat} {x y n : Int} {i : Bool} (h : Pnt W b x y i) (ne : b' ≠ b) : Pnt (Go.Proofs.YtjhongkmempepaaGreatDoor.put4 W b' n) b x y i := by
  unfold Go.Proofs.YtjhongkmempepaaGreatDoor.put4
  exact Cl.set (Cl.set (Cl.set (Cl.set h ne _) ne _) ne _) ne _
theorem Nm.put4 {W : World} {b b' : Nat} {m n : Int} (h : Nm W b m) (ne : b' ≠ b) : Nm (Go.Proofs.YtjhongkmempepaaGreatDoor.put4 W b' n) b m := by
  unfold Go.Proofs.YtjhongkmempepaaGreatDoor.put4
  exact Cl.set (Cl.set (Cl.set (Cl.set h ne _) ne _) ne _) ne _
theorem Mds.put4 {W : World} {b' : Nat} {n : Int} (h : Mds W) (ne : b' ≠ 1) : Mds (Go.Proofs.YtjhongkmempepaaGreatDoor.put4 W b' n) := by
  unfold Go.Proofs.YtjhongkmempepaaGreatDoor.put4
  exact (((h.set ne _).set ne _).set ne _).set ne _
theorem Cols.put4 {W : World} {b' : Nat} {n : Int} (h : Cols W) (ne : b' ≠ 0) : Cols (Go.Proofs.YtjhongkmempepaaGreatDoor.put4 W b' n) := by
  unfold Go.Proofs.YtjhongkmempepaaGreatDoor.put4
  exact Pts.set (Pts.set (Pts.set (Pts.set h ne _) ne _) ne _) ne _
theorem alloc_pt (dst : Option Tmp) (pos : String) (ty : TypeId) (ρ : Operand → Value) (w : World) : (execOp ρ { dst := dst, op := Op.alloc 37, type := ty, pos := pos, after := #[], guard := none }).run Tryz.prog w = .ok (.value (.pointer (some ⟨w.heap.size, 0, none⟩))) (w.alloc (.cells #[.int .u64 0, .int .u64 0, .int .u64 0, .int .u64 0, .int .u64 0, .int .u64 0, .int .u64 0, .int .u64 0, .bool false] 37)) := by
  simp [execOp, go_sem]
end Go.Proofs.YtjhongkmempepaaGreatDoor

namespace Go.Proofs.YtjhongkmempepaaGreatDoor
open Go.RowKit Go.Sort

abbrev OnT := {t : T3 // t.Low ∧ EC.On t.j.pt}
def stepD (TW : OnT → OnT) (s : OnT) : OnT := if s.1.z = 0 then s else TW s
def stepB (b : Int) (TW BO : OnT → OnT) (k : Nat) (s : OnT) : OnT := if bitN b (k : Int) = 1 then BO (stepD TW s) else stepD TW s
def zeroT : OnT := ⟨⟨0, 0, 0⟩, ⟨zero_low, zero_low, zero_low⟩, by rw [show (T3.j ⟨0, 0, 0⟩).pt = .o from EC.pt_o EC.fp_zero]; exact EC.on_o⟩
/-- The sum when so many bits have been looked at. -/
def seqT (b : Int) (TW BO : OnT → OnT) : Nat → OnT
  | 0 => zeroT
  | j + 1 => stepB b TW BO (255 - j) (seqT b TW BO j)
def stT (b : Int) (TW BO : OnT → OnT) (n : Nat) : OnT := seqT b TW BO (256 - n)
theorem stT_step (b : Int) (TW BO : OnT → OnT) {k : Nat} (hk : k < 256) : stT b TW BO k = stepB b TW BO k (stT b TW BO (k + 1)) := by
  unfold stT
  rw [show 256 - k = (256 - (k + 1)) + 1 by omega]
  show stepB b TW BO (255 - (256 - (k + 1))) _ = _
  rw [show 255 - (256 - (k + 1)) = k by omega]
theorem bit_nat {b : Int} (hb : Num b) {k : Nat} (hk : k < 256) : bitN b (k : Int) = ((b.toNat / 2 ^ k % 2 : Nat) : Int) := by
  unfold bitN
  rw [if_neg (by omega)]
  obtain ⟨n, rfl⟩ := Int.eq_ofNat_of_zero_le hb.1
  simp
theorem stT_pt {b : Int} {TW BO : OnT → OnT} {p : EC.Pt} (hp : EC.On p) (hb : Num b) (hT : ∀ s, (TW s).1.j.pt = s.1.j.pt.add s.1.j.pt) (hB : ∀ s, (BO s).1.j.pt = s.1.j.pt.add p) : ∀ m, m ≤ 256 → (stT b TW BO (256 - m)).1.j.pt = EC.smul (b.toNat / 2 ^ (256 - m)) p
  | 0, _ => by
    rw [show b.toNat / 2 ^ (256 - 0) = 0 from Nat.div_eq_of_lt (by have := hb.2; have := hb.1; omega)]
    exact EC.pt_o EC.fp_zero
  | m + 1, hm => by
    have ih := stT_pt hp hb hT hB m (by omega)
    obtain ⟨k, hk⟩ : ∃ k, k = 256 - (m + 1) := ⟨_, rfl⟩
    rw [← hk, stT_step b TW BO (by omega), show k + 1 = 256 - m by omega]
    have hd : (stepD TW (stT b TW BO (256 - m))).1.j.pt = EC.smul (2 * (b.toNat / 2 ^ (256 - m))) p := by
      unfold stepD
      split
      · next hz =>
        have e0 : (stT b TW BO (256 - m)).1.j.pt = .o := EC.pt_o (by show EC.fp _ = 0; rw [hz, EC.fp_zero])
        rw [e0] at ih
        rw [e0, show 2 * (b.toNat / 2 ^ (256 - m)) = b.toNat / 2 ^ (256 - m) + b.toNat / 2 ^ (256 - m) by omega, EC.smul_add hp, ← ih]
        rfl
      · rw [hT, ih, ← EC.smul_add hp]
        congr 1; omega
    have hh := half_pow b.toNat k
    rw [show k + 1 = 256 - m by omega] at hh
    unfold stepB
    rw [bit_nat hb (by omega)]
    split
    · next h1 =>
      rw [hB, hd, hh, show b.toNat / 2 ^ k % 2 = 1 by omega]
      rfl
    · next h1 =>
      rw [hd, hh, show b.toNat / 2 ^ k % 2 = 0 by omega]
      rfl

set_option maxRecDepth 100000 in
set_option maxHeartbeats 16000000 in
theorem r5multiple_walk {b x y : Int} {i : Bool} {t : T3} {TW BO : OnT → OnT} (hb0 : Num b) (CTh : Hid (∀ w, Calls Tryz.prog 113 #[.agg #[.int .u64 (l0 x), .int .u64 (l1 x), .int .u64 (l2 x), .int .u64 (l3 x), .int .u64 (l0 y), .int .u64 (l1 y), .int .u64 (l2 y), .int .u64 (l3 y), .bool i]] w fun e w' => e = .returned (.agg #[.int .u64 (l0 t.x), .int .u64 (l1 t.x), .int .u64 (l2 t.x), .int .u64 (l3 t.x), .int .u64 (l0 t.y), .int .u64 (l1 t.y), .int .u64 (l2 t.y), .int .u64 (l3 t.y), .int .u64 (l0 t.z), .int .u64 (l1 t.z), .int .u64 (l2 t.z), .int .u64 (l3 t.z)]) ∧ Below w.heap.size w w')) (CTw : Hid (∀ s : OnT, ∀ w, Calls Tryz.prog 111 #[.agg #[.int .u64 (l0 s.1.x), .int .u64 (l1 s.1.x), .int .u64 (l2 s.1.x), .int .u64 (l3 s.1.x), .int .u64 (l0 s.1.y), .int .u64 (l1 s.1.y), .int .u64 (l2 s.1.y), .int .u64 (l3 s.1.y), .int .u64 (l0 s.1.z), .int .u64 (l1 s.1.z), .int .u64 (l2 s.1.z), .int .u64 (l3 s.1.z)]] w fun e w' => e = .returned (.agg #[.int .u64 (l0 (TW s).1.x), .int .u64 (l1 (TW s).1.x), .int .u64 (l2 (TW s).1.x), .int .u64 (l3 (TW s).1.x), .int .u64 (l0 (TW s).1.y), .int .u64 (l1 (TW s).1.y), .int .u64 (l2 (TW s).1.y), .int .u64 (l3 (TW s).1.y), .int .u64 (l0 (TW s).1.z), .int .u64 (l1 (TW s).1.z), .int .u64 (l2 (TW s).1.z), .int .u64 (l3 (TW s).1.z)]) ∧ Below w.heap.size w w'))
    (CBo : Hid (∀ s : OnT, ∀ w, Calls Tryz.prog 68 #[.agg #[.int .u64 (l0 s.1.x), .int .u64 (l1 s.1.x), .int .u64 (l2 s.1.x), .int .u64 (l3 s.1.x), .int .u64 (l0 s.1.y), .int .u64 (l1 s.1.y), .int .u64 (l2 s.1.y), .int .u64 (l3 s.1.y), .int .u64 (l0 s.1.z), .int .u64 (l1 s.1.z), .int .u64 (l2 s.1.z), .int .u64 (l3 s.1.z)], .agg #[.int .u64 (l0 t.x), .int .u64 (l1 t.x), .int .u64 (l2 t.x), .int .u64 (l3 t.x), .int .u64 (l0 t.y), .int .u64 (l1 t.y), .int .u64 (l2 t.y), .int .u64 (l3 t.y), .int .u64 (l0 t.z), .int .u64 (l1 t.z), .int .u64 (l2 t.z), .int .u64 (l3 t.z)]] w fun e w' => e = .returned (.agg #[.int .u64 (l0 (BO s).1.x), .int .u64 (l1 (BO s).1.x), .int .u64 (l2 (BO s).1.x), .int .u64 (l3 (BO s).1.x), .int .u64 (l0 (BO s).1.y), .int .u64 (l1 (BO s).1.y), .int .u64 (l2 (BO s).1.y), .int .u64 (l3 (BO s).1.y), .int .u64 (l0 (BO s).1.z), .int .u64 (l1 (BO s).1.z), .int .u64 (l2 (BO s).1.z), .int .u64 (l3 (BO s).1.z)]) ∧ Below w.heap.size w w')) (w : World) :
    Calls Tryz.prog 69 #[.agg #[.int .u64 (l0 b), .int .u64 (l1 b), .int .u64 (l2 b), .int .u64 (l3 b)], .agg #[.int .u64 (l0 x), .int .u64 (l1 x), .int .u64 (l2 x), .int .u64 (l3 x), .int .u64 (l0 y), .int .u64 (l1 y), .int .u64 (l2 y), .int .u64 (l3 y), .bool i]] w fun e w' => e = .returned (.agg #[.int .u64 (l0 (stT b TW BO 0).1.x), .int .u64 (l1 (stT b TW BO 0).1.x), .int .u64 (l2 (stT b TW BO 0).1.x), .int .u64 (l3 (stT b TW BO 0).1.x), .int .u64 (l0 (stT b TW BO 0).1.y), .int .u64 (l1 (stT b TW BO 0).1.y), .int .u64 (l2 (stT b TW BO 0).1.y), .int .u64 (l3 (stT b TW BO 0).1.y), .int .u64 (l0 (stT b TW BO 0).1.z), .int .u64 (l1 (stT b TW BO 0).1.z), .int .u64 (l2 (stT b TW BO 0).1.z), .int .u64 (l3 (stT b TW BO 0).1.z)]) ∧ Below w.heap.size w w' := by
  have HB : Hid (Num b) := hb0
  clear hb0
  go_enter Tryz.func69, Tryz.ntmps69
  go_wp2_with fail
  refine calls_world (fun W => Below w.heap.size w W ∧ Nm W w.heap.size b ∧ Bk12 W (w.heap.size + 1 + 1)) ⟨by repeat (first | with_reducible exact Below.refl _ _ | with_reducible refine Below.alloc ?_ (by first | omega | (simp; done) | (simp; omega)) _), Nm.alloc (Nm.alloc (Cl.new _ rfl rfl) _) _, Bk12.new (by simp)⟩ ?_
  rintro W ⟨B, hK, hR⟩
  have or : w.heap.size ≤ w.heap.size + 1 + 1 := by omega
  generalize w.heap.size + 1 + 1 = br at *
  with_reducible refine (CTh.out _).mono ?_
  rintro e w1 ⟨rfl, hb⟩
  replace B := B.trans (hb.mono B.size)
  replace hK := hK.keep hb; replace hR := hR.keep hb
  clear hb W CTh
  go_wp2_with fail
  refine wp_world (fun W => Below w.heap.size w W ∧ Nm W w.heap.size b ∧ Bk12 W br ∧ Thr W w1.heap.size t.x t.y t.z ∧ TV W (w1.heap.size + 1) 0 0 0)
    ⟨(B.alloc B.size _).alloc (by have := B.size; simp; omega) _, (hK.alloc _).alloc _, (hR.alloc _).alloc _, (Thr.new rfl).alloc _, (Bk12.new (by simp)).tv⟩ ?_
  have os : w.heap.size ≤ w1.heap.size + 1 := by have := B.size; omega
  have nk : w1.heap.size + 1 ≠ w.heap.size := by have := B.size; omega
  have nr : w1.heap.size + 1 ≠ br := by have := hR.lt; omega
  have nt : w1.heap.size + 1 ≠ w1.heap.size := by omega
  clear B hK hR
  generalize w1.heap.size + 1 = bs at *
  generalize w1.heap.size = bt at *
  clear w1
  rintro W ⟨B, hK, hR, hT, hS⟩
  go_loopg [7] 256 (fun k iv wr => ∃ n : Nat, k = n ∧ n ≤ 256 ∧ iv = .int .i64 ((n : Int) - 1) ∧ Below w.heap.size w wr ∧ Nm wr w.heap.size b ∧ Bk12 wr br ∧ Thr wr bt t.x t.y t.z ∧ TV wr bs (stT b TW BO n).1.x (stT b TW BO n).1.y (stT b TW BO n).1.z)
  case atStart => exact ⟨256, rfl, by decide, rfl, B, hK, hR, hT, hS⟩
  case round =>
    clear B hK hR hT hS W
    obtain ⟨n, hk, hn, hiv, B, hK, hR, hT, hS⟩ := hrel
    cases n with
    | zero =>
      rw [show (((0 : Nat) : Int) - 1) = -1 by rfl] at hiv
      subst hiv
      have gS := hS.1.cells; have gR := hR.cells; have fR := hR.free
      clear hK hT hn hS
      generalize h0 : stT b TW BO 0 = s0 at *
      go_wp2
      refine bodyPost_ret (v := .agg #[.int .u64 (l0 s0.1.x), .int .u64 (l1 s0.1.x), .int .u64 (l2 s0.1.x), .int .u64 (l3 s0.1.x), .int .u64 (l0 s0.1.y), .int .u64 (l1 s0.1.y), .int .u64 (l2 s0.1.y), .int .u64 (l3 s0.1.y), .int .u64 (l0 s0.1.z), .int .u64 (l1 s0.1.z), .int .u64 (l2 s0.1.z), .int .u64 (l3 s0.1.z)]) ?_ rfl ⟨by rw [← h0], ?_⟩
      · simp [results, Tryz.results69, go_sem, gR]
      · repeat (first | with_reducible exact B | with_reducible refine Below.setCell ?_ or _)
    | succ k =>
      rw [show (((k + 1 : Nat) : Int) - 1) = (k : Int) by omega] at hiv
      subst hiv
      have hk256 : k < 256 := by omega
      have hst := stT_step b TW BO hk256
      have hk0 : (0 : Int) ≤ (k : Int) := by omega
      have CBt : Hid (∀ w, Calls Tryz.prog 114 #[.agg #[.int .u64 (l0 b), .int .u64 (l1 b), .int .u64 (l2 b), .int .u64 (l3 b)], .int .i64 (k : Int)] w fun e w' => e = .returned (.int .i64 (bitN b (k : Int))) ∧ Below w.heap.size w w') := fun w => rbit_any HB.out w
      generalize stT b TW BO (k + 1) = s at *
      have gS := hS.1.cells; have fS := hS.free
      by_cases hz : s.1.z = 0
      · have Ez := eqz s.2.1.2.2.num (decide_eq_true hz)
        have hst : stT b TW BO k = if bitN b (k : Int) = 1 then BO s else s := by rw [hst]; unfold stepB stepD; rw [if_pos hz]
        clear hz
        have gK := hK.cells
        go_wp2_with fail
        refine calls_world (fun W => Below w.heap.size w W ∧ Nm W w.heap.size b ∧ Bk12 W br ∧ Thr W bt t.x t.y t.z ∧ TV W bs s.1.x s.1.y s.1.z) ⟨B, hK, hR, hT, hS⟩ ?_
        clear B hK hR hT hS gS fS gK
        rintro W ⟨B, hK, hR, hT, hS⟩
        with_reducible refine (CBt.out _).mono ?_
        rintro e w3 ⟨rfl, hb⟩
        replace B := B.trans (hb.mono B.size)
        replace hK := hK.keep hb; replace hR := hR.keep hb; replace hT := hT.keep hb; replace hS := hS.keep hb
        clear hb W
        have gS := hS.1.cells; have fS := hS.free
        by_cases h1 : bitN b (k : Int) = 1
        · rw [if_pos h1] at hst
          have gT := hT.cells
          go_wp2_with fail
          refine calls_world (fun W => Below w.heap.size w W ∧ Nm W w.heap.size b ∧ Bk12 W br ∧ Thr W bt t.x t.y t.z ∧ TV W bs s.1.x s.1.y s.1.z) ⟨B, hK, hR, hT, hS⟩ ?_
          clear B hK hR hT hS gS fS gT
          rintro W ⟨B, hK, hR, hT, hS⟩
          with_reducible refine (CBo.out s _).mono ?_
          rintro e w4 ⟨rfl, hb⟩
          replace B := B.trans (hb.mono B.size)
          replace hK := hK.keep hb; replace hR := hR.keep hb; replace hT := hT.keep hb; replace hS := hS.keep hb
          clear hb W
          have gS := hS.1.cells; have fS := hS.free
          go_wp2_with fail
          go_roundg k
          case measure => have := hk; omega
          case rel =>
            refine ⟨k, rfl, by omega, by go_num, below_put B os (BO (s)).1.x (BO (s)).1.y (BO (s)).1.z, Cl.put hK nk (BO (s)).1.x (BO (s)).1.y (BO (s)).1.z, hR.put nr (BO (s)).1.x (BO (s)).1.y (BO (s)).1.z, Cl.put hT nt (BO (s)).1.x (BO (s)).1.y (BO (s)).1.z, ?_⟩
            rw [hst]
            exact hS.put _ _ _
        · rw [if_neg h1] at hst
          go_wp2_with fail
          go_roundg k
          case measure => have := hk; omega
          case rel =>
            refine ⟨k, rfl, by omega, by go_num, B, hK, hR, hT, ?_⟩
            rw [hst]
            exact hS
      · have Ez := eqz s.2.1.2.2.num (decide_eq_false hz)
        have hst : stT b TW BO k = if bitN b (k : Int) = 1 then BO (TW s) else TW s := by rw [hst]; unfold stepB stepD; rw [if_neg hz]
        clear hz
        go_wp2_with fail
        refine calls_world (fun W => Below w.heap.size w W ∧ Nm W w.heap.size b ∧ Bk12 W br ∧ Thr W bt t.x t.y t.z ∧ TV W bs s.1.x s.1.y s.1.z) ⟨B, hK, hR, hT, hS⟩ ?_
        clear B hK hR hT hS gS fS
        rintro W ⟨B, hK, hR, hT, hS⟩
        with_reducible refine (CTw.out s _).mono ?_
        rintro e w2 ⟨rfl, hb⟩
        replace B := B.trans (hb.mono B.size)
        replace hK := hK.keep hb; replace hR := hR.keep hb; replace hT := hT.keep hb; replace hS := hS.keep hb
        clear hb W
        have gS := hS.1.cells; have fS := hS.free
        have gK := hK.cells
        go_wp2_with fail
        refine calls_world (fun W => Below w.heap.size w W ∧ Nm W w.heap.size b ∧ Bk12 W br ∧ Thr W bt t.x t.y t.z ∧ TV W bs (TW s).1.x (TW s).1.y (TW s).1.z) ⟨below_put B os (TW s).1.x (TW s).1.y (TW s).1.z, Cl.put hK nk (TW s).1.x (TW s).1.y (TW s).1.z, hR.put nr (TW s).1.x (TW s).1.y (TW s).1.z, Cl.put hT nt (TW s).1.x (TW s).1.y (TW s).1.z, hS.put (TW s).1.x (TW s).1.y (TW s).1.z⟩ ?_
        clear B hK hR hT hS gS fS gK
        rintro W ⟨B, hK, hR, hT, hS⟩
        with_reducible refine (CBt.out _).mono ?_
        rintro e w3 ⟨rfl, hb⟩
        replace B := B.trans (hb.mono B.size)
        replace hK := hK.keep hb; replace hR := hR.keep hb; replace hT := hT.keep hb; replace hS := hS.keep hb
        clear hb W
        have gS := hS.1.cells; have fS := hS.free
        by_cases h1 : bitN b (k : Int) = 1
        · rw [if_pos h1] at hst
          have gT := hT.cells
          go_wp2_with fail
          refine calls_world (fun W => Below w.heap.size w W ∧ Nm W w.heap.size b ∧ Bk12 W br ∧ Thr W bt t.x t.y t.z ∧ TV W bs (TW s).1.x (TW s).1.y (TW s).1.z) ⟨B, hK, hR, hT, hS⟩ ?_
          clear B hK hR hT hS gS fS gT
          rintro W ⟨B, hK, hR, hT, hS⟩
          with_reducible refine (CBo.out (TW s) _).mono ?_
          rintro e w4 ⟨rfl, hb⟩
          replace B := B.trans (hb.mono B.size)
          replace hK := hK.keep hb; replace hR := hR.keep hb; replace hT := hT.keep hb; replace hS := hS.keep hb
          clear hb W
          have gS := hS.1.cells; have fS := hS.free
          go_wp2_with fail
          go_roundg k
          case measure => have := hk; omega
          case rel =>
            refine ⟨k, rfl, by omega, by go_num, below_put B os (BO ((TW s))).1.x (BO ((TW s))).1.y (BO ((TW s))).1.z, Cl.put hK nk (BO ((TW s))).1.x (BO ((TW s))).1.y (BO ((TW s))).1.z, hR.put nr (BO ((TW s))).1.x (BO ((TW s))).1.y (BO ((TW s))).1.z, Cl.put hT nt (BO ((TW s))).1.x (BO ((TW s))).1.y (BO ((TW s))).1.z, ?_⟩
            rw [hst]
            exact hS.put _ _ _
        · rw [if_neg h1] at hst
          go_wp2_with fail
          go_roundg k
          case measure => have := hk; omega
          case rel =>
            refine ⟨k, rfl, by omega, by go_num, B, hK, hR, hT, ?_⟩
            rw [hst]
            exact hS

/-- The document's multiple. -/
theorem r5multiple_any {b x y : Int} {i : Bool} (hb : Num b) (hv : Vd x y i) : ∃ t : T3, t.Low ∧ t.j.pt = EC.smul b.toNat (ptOf x y i) ∧ ∀ w, Calls Tryz.prog 69 #[.agg #[.int .u64 (l0 b), .int .u64 (l1 b), .int .u64 (l2 b), .int .u64 (l3 b)], .agg #[.int .u64 (l0 x), .int .u64 (l1 x), .int .u64 (l2 x), .int .u64 (l3 x), .int .u64 (l0 y), .int .u64 (l1 y), .int .u64 (l2 y), .int .u64 (l3 y), .bool i]] w fun e w' => e = .returned (.agg #[.int .u64 (l0 t.x), .int .u64 (l1 t.x), .int .u64 (l2 t.x), .int .u64 (l3 t.x), .int .u64 (l0 t.y), .int .u64 (l1 t.y), .int .u64 (l2 t.y), .int .u64 (l3 t.y), .int .u64 (l0 t.z), .int .u64 (l1 t.z), .int .u64 (l2 t.z), .int .u64 (l3 t.z)]) ∧ Below w.heap.size w w' := by
  obtain ⟨a1, a2, a3, k1, k2, k3, et, CT⟩ := r5three_J hv
  have onT : EC.On (J3 a1 a2 a3).pt := by rw [et]; exact hv.on
  have s1 : ∀ s : OnT, ∃ u : OnT, u.1.j.pt = s.1.j.pt.add s.1.j.pt ∧ ∀ w, Calls Tryz.prog 111 #[.agg #[.int .u64 (l0 s.1.x), .int .u64 (l1 s.1.x), .int .u64 (l2 s.1.x), .int .u64 (l3 s.1.x), .int .u64 (l0 s.1.y), .int .u64 (l1 s.1.y), .int .u64 (l2 s.1.y), .int .u64 (l3 s.1.y), .int .u64 (l0 s.1.z), .int .u64 (l1 s.1.z), .int .u64 (l2 s.1.z), .int .u64 (l3 s.1.z)]] w fun e w' => e = .returned (.agg #[.int .u64 (l0 u.1.x), .int .u64 (l1 u.1.x), .int .u64 (l2 u.1.x), .int .u64 (l3 u.1.x), .int .u64 (l0 u.1.y), .int .u64 (l1 u.1.y), .int .u64 (l2 u.1.y), .int .u64 (l3 u.1.y), .int .u64 (l0 u.1.z), .int .u64 (l1 u.1.z), .int .u64 (l2 u.1.z), .int .u64 (l3 u.1.z)]) ∧ Below w.heap.size w w' := fun ⟨s, ls, os⟩ => by
    obtain ⟨b1, b2, b3, m1, m2, m3, ep, CA⟩ := r5twice_pt ls.1 ls.2.1 ls.2.2 os
    exact ⟨⟨⟨b1, b2, b3⟩, ⟨m1, m2, m3⟩, by rw [show (T3.j ⟨b1, b2, b3⟩).pt = _ from ep]; exact EC.Pt.on os os⟩, ep, CA⟩
  have s2 : ∀ s : OnT, ∃ u : OnT, u.1.j.pt = s.1.j.pt.add (ptOf x y i) ∧ ∀ w, Calls Tryz.prog 68 #[.agg #[.int .u64 (l0 s.1.x), .int .u64 (l1 s.1.x), .int .u64 (l2 s.1.x), .int .u64 (l3 s.1.x), .int .u64 (l0 s.1.y), .int .u64 (l1 s.1.y), .int .u64 (l2 s.1.y), .int .u64 (l3 s.1.y), .int .u64 (l0 s.1.z), .int .u64 (l1 s.1.z), .int .u64 (l2 s.1.z), .int .u64 (l3 s.1.z)], .agg #[.int .u64 (l0 a1), .int .u64 (l1 a1), .int .u64 (l2 a1), .int .u64 (l3 a1), .int .u64 (l0 a2), .int .u64 (l1 a2), .int .u64 (l2 a2), .int .u64 (l3 a2), .int .u64 (l0 a3), .int .u64 (l1 a3), .int .u64 (l2 a3), .int .u64 (l3 a3)]] w fun e w' => e = .returned (.agg #[.int .u64 (l0 u.1.x), .int .u64 (l1 u.1.x), .int .u64 (l2 u.1.x), .int .u64 (l3 u.1.x), .int .u64 (l0 u.1.y), .int .u64 (l1 u.1.y), .int .u64 (l2 u.1.y), .int .u64 (l3 u.1.y), .int .u64 (l0 u.1.z), .int .u64 (l1 u.1.z), .int .u64 (l2 u.1.z), .int .u64 (l3 u.1.z)]) ∧ Below w.heap.size w w' := fun ⟨s, ls, os⟩ => by
    obtain ⟨b1, b2, b3, m1, m2, m3, ej, CA⟩ := r5both_J ls.1 ls.2.1 ls.2.2 k1 k2 k3
    have ep : (T3.j ⟨b1, b2, b3⟩).pt = s.j.pt.add (ptOf x y i) := by
      show (J3 b1 b2 b3).pt = _
      rw [ej, ← et]
      exact EC.ja_pt os onT
    exact ⟨⟨⟨b1, b2, b3⟩, ⟨m1, m2, m3⟩, by rw [ep]; exact EC.Pt.on os hv.on⟩, ep, CA⟩
  obtain ⟨TW, hT⟩ := Classical.skolem.1 s1
  obtain ⟨BO, hB⟩ := Classical.skolem.1 s2
  refine ⟨(stT b TW BO 0).1, (stT b TW BO 0).2.1, ?_, fun w => r5multiple_walk (t := ⟨a1, a2, a3⟩) hb CT (fun s w => (hT s).2 w) (fun s w => (hB s).2 w) w⟩
  have := stT_pt hv.on hb (fun s => (hT s).1) (fun s => (hB s).1) 256 (Nat.le_refl _)
  simpa using this
end Go.Proofs.YtjhongkmempepaaGreatDoor

namespace Go.Proofs.YtjhongkmempepaaGreatDoor
open Go.RowKit Go.Sort

set_option maxRecDepth 100000 in
set_option maxHeartbeats 4000000 in
theorem r5on_id {x y ox oy : Int} {oi r : Bool} (CI : Hid (∀ w, Calls Tryz.prog 62 #[] w fun e w' => e = .returned (.agg #[.int .u64 (l0 ox), .int .u64 (l1 ox), .int .u64 (l2 ox), .int .u64 (l3 ox), .int .u64 (l0 oy), .int .u64 (l1 oy), .int .u64 (l2 oy), .int .u64 (l3 oy), .bool oi]) ∧ Below w.heap.size w w')) (he : ∀ w, (Op.equalIn 10000 37 (.agg #[.int .u64 (l0 x), .int .u64 (l1 x), .int .u64 (l2 x), .int .u64 (l3 x), .int .u64 (l0 y), .int .u64 (l1 y), .int .u64 (l2 y), .int .u64 (l3 y), .bool true]) (.agg #[.int .u64 (l0 ox), .int .u64 (l1 ox), .int .u64 (l2 ox), .int .u64 (l3 ox), .int .u64 (l0 oy), .int .u64 (l1 oy), .int .u64 (l2 oy), .int .u64 (l3 oy), .bool oi])).run Tryz.prog w = .ok r w) (w : World) :
    Calls Tryz.prog 28 #[.agg #[.int .u64 (l0 x), .int .u64 (l1 x), .int .u64 (l2 x), .int .u64 (l3 x), .int .u64 (l0 y), .int .u64 (l1 y), .int .u64 (l2 y), .int .u64 (l3 y), .bool true]] w fun e w' => e = .returned (.bool r) ∧ Below w.heap.size w w' := by
  go_enter Tryz.func28, Tryz.ntmps28
  go_wp2_with fail
  refine wp_world (fun W => Below w.heap.size w W ∧ Pnt W w.heap.size x y true) ⟨by repeat (first | with_reducible exact Below.refl _ _ | with_reducible refine Below.alloc ?_ (by first | omega | (simp; done) | (simp; omega)) _), Pnt.new rfl⟩ ?_
  rintro W ⟨B, hP⟩
  have ghP := hP.grown
  refine wp_region_quiet_below (by kernel_rfl) (by kernel_rfl) ?_
  repeat
    first
      | go_big_quiet_skip
      | (go_big_quiet_want; go_big_quiet_op; go_big_quiet_on)
      | (go_big_quiet_want
         go_big_quiet_op
         apply Exists.intro
         refine ⟨fun p => ?_, ?_⟩
         · (first | (go_at_call 62; with_reducible exact Calls.regrown_of (CI.out _)))
         go_big_quiet_on)
  refine wpQuiet_nil ?_
  rintro w1 ⟨p, rfl⟩
  have hb := below_regrown W p.d p.os
  generalize grow (redrawn W p.d) p.os = w1 at *
  replace B := B.trans (hb.mono B.size)
  replace hP := hP.keep hb
  clear hb W ghP 
  clear hP
  go_wp2
  simp [bodyPost, results, Tryz.results28, go_sem]
  exact B

set_option maxRecDepth 100000 in
set_option maxHeartbeats 4000000 in
theorem r5on_x {x y : Int} (C1 : Hid (∀ w, Calls Tryz.prog 63 #[.agg #[.int .u64 (l0 x), .int .u64 (l1 x), .int .u64 (l2 x), .int .u64 (l3 x)]] w fun e w' => e = .returned (.bool false) ∧ Below w.heap.size w w')) (w : World) :
    Calls Tryz.prog 28 #[.agg #[.int .u64 (l0 x), .int .u64 (l1 x), .int .u64 (l2 x), .int .u64 (l3 x), .int .u64 (l0 y), .int .u64 (l1 y), .int .u64 (l2 y), .int .u64 (l3 y), .bool false]] w fun e w' => e = .returned (.bool false) ∧ Below w.heap.size w w' := by
  go_enter Tryz.func28, Tryz.ntmps28
  go_wp2_with fail
  refine calls_world (fun W => Below w.heap.size w W ∧ Pnt W w.heap.size x y false) ⟨by repeat (first | with_reducible exact Below.refl _ _ | with_reducible refine Below.alloc ?_ (by first | omega | (simp; done) | (simp; omega)) _), Pnt.new rfl⟩ ?_
  rintro W ⟨B, hP⟩
  with_reducible refine (C1.out _).mono ?_
  rintro e w9 ⟨rfl, hb⟩
  replace B := B.trans (hb.mono B.size)
  clear hb hP W
  go_wp2
  simp [bodyPost, results, Tryz.results28, go_sem]
  exact B

set_option maxRecDepth 100000 in
set_option maxHeartbeats 4000000 in
theorem r5on_y {x y : Int} (C1 : Hid (∀ w, Calls Tryz.prog 63 #[.agg #[.int .u64 (l0 x), .int .u64 (l1 x), .int .u64 (l2 x), .int .u64 (l3 x)]] w fun e w' => e = .returned (.bool true) ∧ Below w.heap.size w w')) (C2 : Hid (∀ w, Calls Tryz.prog 63 #[.agg #[.int .u64 (l0 y), .int .u64 (l1 y), .int .u64 (l2 y), .int .u64 (l3 y)]] w fun e w' => e = .returned (.bool false) ∧ Below w.heap.size w w')) (w : World) :
    Calls Tryz.prog 28 #[.agg #[.int .u64 (l0 x), .int .u64 (l1 x), .int .u64 (l2 x), .int .u64 (l3 x), .int .u64 (l0 y), .int .u64 (l1 y), .int .u64 (l2 y), .int .u64 (l3 y), .bool false]] w fun e w' => e = .returned (.bool false) ∧ Below w.heap.size w w' := by
  go_enter Tryz.func28, Tryz.ntmps28
  go_wp2_with fail
  refine calls_world (fun W => Below w.heap.size w W ∧ Pnt W w.heap.size x y false) ⟨by repeat (first | with_reducible exact Below.refl _ _ | with_reducible refine Below.alloc ?_ (by first | omega | (simp; done) | (simp; omega)) _), Pnt.new rfl⟩ ?_
  rintro W ⟨B, hP⟩
  with_reducible refine (C1.out _).mono ?_
  rintro e w1 ⟨rfl, hb⟩
  replace B := B.trans (hb.mono B.size)
  replace hP := hP.keep hb
  clear hb W
  have ghP := hP.cells
  go_wp2_with fail
  refine calls_world (fun W => Below w.heap.size w W ∧ Pnt W w.heap.size x y false) ⟨B, hP⟩ ?_
  clear B hP ghP
  rintro W ⟨B, hP⟩
  with_reducible refine (C2.out _).mono ?_
  rintro e w9 ⟨rfl, hb⟩
  replace B := B.trans (hb.mono B.size)
  clear hb hP W
  go_wp2
  simp [bodyPost, results, Tryz.results28, go_sem]
  exact B

set_option maxRecDepth 100000 in
set_option maxHeartbeats 4000000 in
theorem r5on_q {x y a b : Int} {r : Bool} (C1 : Hid (∀ w, Calls Tryz.prog 63 #[.agg #[.int .u64 (l0 x), .int .u64 (l1 x), .int .u64 (l2 x), .int .u64 (l3 x)]] w fun e w' => e = .returned (.bool true) ∧ Below w.heap.size w w')) (C2 : Hid (∀ w, Calls Tryz.prog 63 #[.agg #[.int .u64 (l0 y), .int .u64 (l1 y), .int .u64 (l2 y), .int .u64 (l3 y)]] w fun e w' => e = .returned (.bool true) ∧ Below w.heap.size w w')) (C3 : Hid (∀ w, Calls Tryz.prog 64 #[.agg #[.int .u64 (l0 y), .int .u64 (l1 y), .int .u64 (l2 y), .int .u64 (l3 y)], .agg #[.int .u64 (l0 y), .int .u64 (l1 y), .int .u64 (l2 y), .int .u64 (l3 y)]] w fun e w' => e = .returned (.agg #[.int .u64 (l0 a), .int .u64 (l1 a), .int .u64 (l2 a), .int .u64 (l3 a)]) ∧ Below w.heap.size w w')) (C4 : Hid (∀ w, Calls Tryz.prog 65 #[.agg #[.int .u64 (l0 x), .int .u64 (l1 x), .int .u64 (l2 x), .int .u64 (l3 x)]] w fun e w' => e = .returned (.agg #[.int .u64 (l0 b), .int .u64 (l1 b), .int .u64 (l2 b), .int .u64 (l3 b)]) ∧ Below w.heap.size w w')) (he : ∀ w, (Op.equalIn 10000 24 (.agg #[.int .u64 (l0 a), .int .u64 (l1 a), .int .u64 (l2 a), .int .u64 (l3 a)]) (.agg #[.int .u64 (l0 b), .int .u64 (l1 b), .int .u64 (l2 b), .int .u64 (l3 b)])).run Tryz.prog w = .ok r w) (w : World) :
    Calls Tryz.prog 28 #[.agg #[.int .u64 (l0 x), .int .u64 (l1 x), .int .u64 (l2 x), .int .u64 (l3 x), .int .u64 (l0 y), .int .u64 (l1 y), .int .u64 (l2 y), .int .u64 (l3 y), .bool false]] w fun e w' => e = .returned (.bool r) ∧ Below w.heap.size w w' := by
  go_enter Tryz.func28, Tryz.ntmps28
  go_wp2_with fail
  refine calls_world (fun W => Below w.heap.size w W ∧ Pnt W w.heap.size x y false) ⟨by repeat (first | with_reducible exact Below.refl _ _ | with_reducible refine Below.alloc ?_ (by first | omega | (simp; done) | (simp; omega)) _), Pnt.new rfl⟩ ?_
  rintro W ⟨B, hP⟩
  with_reducible refine (C1.out _).mono ?_
  rintro e w1 ⟨rfl, hb⟩
  replace B := B.trans (hb.mono B.size)
  replace hP := hP.keep hb
  clear hb W
  have ghP := hP.cells
  go_wp2_with fail
  refine calls_world (fun W => Below w.heap.size w W ∧ Pnt W w.heap.size x y false) ⟨B, hP⟩ ?_
  clear B hP ghP
  rintro W ⟨B, hP⟩
  with_reducible refine (C2.out _).mono ?_
  rintro e w2 ⟨rfl, hb⟩
  replace B := B.trans (hb.mono B.size)
  replace hP := hP.keep hb
  clear hb W
  go_wp2_with fail
  refine wp_world (fun W => Below w.heap.size w W ∧ Pnt W w.heap.size x y false) ⟨B, hP⟩ ?_
  clear B hP 
  rintro W ⟨B, hP⟩
  have ghP := hP.grown
  refine wp_region_quiet_below (by kernel_rfl) (by kernel_rfl) ?_
  repeat
    first
      | go_big_quiet_skip
      | (go_big_quiet_want; go_big_quiet_op; go_big_quiet_on)
      | (go_big_quiet_want
         go_big_quiet_op
         apply Exists.intro
         refine ⟨fun p => ?_, ?_⟩
         · (first | (go_at_call 64; with_reducible exact Calls.regrown_of (C3.out _)) | (go_at_call 65; with_reducible exact Calls.regrown_of (C4.out _)))
         go_big_quiet_on)
  refine wpQuiet_nil ?_
  rintro w3 ⟨p, rfl⟩
  have hb := below_regrown W p.d p.os
  generalize grow (redrawn W p.d) p.os = w3 at *
  replace B := B.trans (hb.mono B.size)
  replace hP := hP.keep hb
  clear hb W ghP 
  clear hP
  go_wp2
  simp [bodyPost, results, Tryz.results28, go_sem]
  exact B

theorem r5on_any {x y : Int} {i : Bool} (hx : Num x) (hy : Num y) (w : World) :
    Calls Tryz.prog 28 #[.agg #[.int .u64 (l0 x), .int .u64 (l1 x), .int .u64 (l2 x), .int .u64 (l3 x), .int .u64 (l0 y), .int .u64 (l1 y), .int .u64 (l2 y), .int .u64 (l3 y), .bool i]] w fun e w' => e = .returned (.bool (decide (Vd x y i))) ∧ Below w.heap.size w w' := by
  cases i with
  | true =>
    refine r5on_id (fun w => r5identity_any w) (fun w => ?_) w
    rw [eq_pt_any hx hy ⟨by decide, by decide⟩ ⟨by decide, by decide⟩]
    congr 1
    simp [Vd]
  | false =>
    have low : ∀ {n : Int}, Num n → ∀ (v : Bool), decide (n < pN) = v → Hid (∀ w, Calls Tryz.prog 63 #[.agg #[.int .u64 (l0 n), .int .u64 (l1 n), .int .u64 (l2 n), .int .u64 (l3 n)]] w fun e w' => e = .returned (.bool v) ∧ Below w.heap.size w w') := fun hn v e w => by
      have := r5low_any hn w
      rw [e] at this; exact this
    by_cases h1 : x < pN
    · by_cases h2 : y < pN
      · have lx : EC.Low x := ⟨hx.1, h1⟩
        have ly : EC.Low y := ⟨hy.1, h2⟩
        have key : decide (modN pN (y * y) = cubN x) = decide (Vd x y false) := by
          apply decide_eq_decide.2
          constructor
          · intro e
            refine ⟨lx, ly, ?_⟩
            have := congrArg EC.fp e
            unfold cubN at this
            simp only [EC.fp_mod, EC.fp_mul, EC.fp_add] at this
            rw [show EC.fp 7 = 7 by decide +kernel] at this
            exact this
          · intro ⟨_, _, e⟩
            have e' : EC.fp y * EC.fp y = EC.fp x * EC.fp x * EC.fp x + 7 := e
            unfold cubN
            refine EC.fp_inj (EC.low_mod _) (EC.low_mod _) ?_
            simp only [EC.fp_mod, EC.fp_mul, EC.fp_add]
            rw [show EC.fp 7 = 7 by decide +kernel]
            exact e'
        rw [← key]
        exact r5on_q (low hx true (decide_eq_true h1)) (low hy true (decide_eq_true h2)) (fun w => r5mul_any hy hy w) (fun w => r5cubic_any hx w) (fun w => eq_num (modN_Num fit_p _) (modN_Num fit_p _) w) w
      · rw [decide_eq_false (show ¬ Vd x y false from fun h => h2 h.2.1.2)]
        exact r5on_y (low hx true (decide_eq_true h1)) (low hy false (decide_eq_false h2)) w
    · rw [decide_eq_false (show ¬ Vd x y false from fun h => h1 h.1.2)]
      exact r5on_x (low hx false (decide_eq_false h1)) w

set_option maxHeartbeats 2000000 in
theorem r5g_any (w : World) : Calls Tryz.prog 70 #[] w fun e w' => e = .returned (.agg #[.int .u64 (l0 gX), .int .u64 (l1 gX), .int .u64 (l2 gX), .int .u64 (l3 gX), .int .u64 (l0 gY), .int .u64 (l1 gY), .int .u64 (l2 gY), .int .u64 (l3 gY), .bool false]) ∧ Below w.heap.size w w' := by
  obtain ⟨r0, r1, r2, r3, r4, r5, r6, r7⟩ := g_limbs
  rw [r0, r1, r2, r3, r4, r5, r6, r7]
  clear r0 r1 r2 r3 r4 r5 r6 r7
  go_enter Tryz.func70, Tryz.ntmps70
  go_wp2
  simp [bodyPost, results, Tryz.results70, go_sem]
  repeat (first | with_reducible exact Below.refl _ _ | with_reducible refine Below.alloc ?_ (by first | omega | (simp; done) | (simp; omega)) _ | with_reducible refine Below.setCell ?_ (by first | omega | (simp; done) | (simp; omega)) _)
theorem alloc_three (dst : Option Tmp) (pos : String) (ty : TypeId) (ρ : Operand → Value) (w : World) : (execOp ρ { dst := dst, op := Op.alloc 85, type := ty, pos := pos, after := #[], guard := none }).run Tryz.prog w = .ok (.value (.pointer (some ⟨w.heap.size, 0, none⟩))) (w.alloc (.cells #[.int .u64 0, .int .u64 0, .int .u64 0, .int .u64 0, .int .u64 0, .int .u64 0, .int .u64 0, .int .u64 0, .int .u64 0, .int .u64 0, .int .u64 0, .int .u64 0] 85)) := by
  simp [execOp, go_sem]

set_option maxRecDepth 100000 in
set_option maxHeartbeats 8000000 in
theorem r5muladd_walk {a b x y x' y' : Int} {i j : Bool} {s t u : T3} (C0 : Hid (∀ w, Calls Tryz.prog 28 #[.agg #[.int .u64 (l0 x), .int .u64 (l1 x), .int .u64 (l2 x), .int .u64 (l3 x), .int .u64 (l0 y), .int .u64 (l1 y), .int .u64 (l2 y), .int .u64 (l3 y), .bool i]] w fun e w' => e = .returned (.bool true) ∧ Below w.heap.size w w')) (CG : Hid (∀ w, Calls Tryz.prog 70 #[] w fun e w' => e = .returned (.agg #[.int .u64 (l0 gX), .int .u64 (l1 gX), .int .u64 (l2 gX), .int .u64 (l3 gX), .int .u64 (l0 gY), .int .u64 (l1 gY), .int .u64 (l2 gY), .int .u64 (l3 gY), .bool false]) ∧ Below w.heap.size w w')) (C1 : Hid (∀ w, Calls Tryz.prog 69 #[.agg #[.int .u64 (l0 a), .int .u64 (l1 a), .int .u64 (l2 a), .int .u64 (l3 a)], .agg #[.int .u64 (l0 gX), .int .u64 (l1 gX), .int .u64 (l2 gX), .int .u64 (l3 gX), .int .u64 (l0 gY), .int .u64 (l1 gY), .int .u64 (l2 gY), .int .u64 (l3 gY), .bool false]] w fun e w' => e = .returned (.agg #[.int .u64 (l0 s.x), .int .u64 (l1 s.x), .int .u64 (l2 s.x), .int .u64 (l3 s.x), .int .u64 (l0 s.y), .int .u64 (l1 s.y), .int .u64 (l2 s.y), .int .u64 (l3 s.y), .int .u64 (l0 s.z), .int .u64 (l1 s.z), .int .u64 (l2 s.z), .int .u64 (l3 s.z)]) ∧ Below w.heap.size w w')) (C2 : Hid (∀ w, Calls Tryz.prog 69 #[.agg #[.int .u64 (l0 b), .int .u64 (l1 b), .int .u64 (l2 b), .int .u64 (l3 b)], .agg #[.int .u64 (l0 x), .int .u64 (l1 x), .int .u64 (l2 x), .int .u64 (l3 x), .int .u64 (l0 y), .int .u64 (l1 y), .int .u64 (l2 y), .int .u64 (l3 y), .bool i]] w fun e w' => e = .returned (.agg #[.int .u64 (l0 t.x), .int .u64 (l1 t.x), .int .u64 (l2 t.x), .int .u64 (l3 t.x), .int .u64 (l0 t.y), .int .u64 (l1 t.y), .int .u64 (l2 t.y), .int .u64 (l3 t.y), .int .u64 (l0 t.z), .int .u64 (l1 t.z), .int .u64 (l2 t.z), .int .u64 (l3 t.z)]) ∧ Below w.heap.size w w'))
    (C3 : Hid (∀ w, Calls Tryz.prog 68 #[.agg #[.int .u64 (l0 s.x), .int .u64 (l1 s.x), .int .u64 (l2 s.x), .int .u64 (l3 s.x), .int .u64 (l0 s.y), .int .u64 (l1 s.y), .int .u64 (l2 s.y), .int .u64 (l3 s.y), .int .u64 (l0 s.z), .int .u64 (l1 s.z), .int .u64 (l2 s.z), .int .u64 (l3 s.z)], .agg #[.int .u64 (l0 t.x), .int .u64 (l1 t.x), .int .u64 (l2 t.x), .int .u64 (l3 t.x), .int .u64 (l0 t.y), .int .u64 (l1 t.y), .int .u64 (l2 t.y), .int .u64 (l3 t.y), .int .u64 (l0 t.z), .int .u64 (l1 t.z), .int .u64 (l2 t.z), .int .u64 (l3 t.z)]] w fun e w' => e = .returned (.agg #[.int .u64 (l0 u.x), .int .u64 (l1 u.x), .int .u64 (l2 u.x), .int .u64 (l3 u.x), .int .u64 (l0 u.y), .int .u64 (l1 u.y), .int .u64 (l2 u.y), .int .u64 (l3 u.y), .int .u64 (l0 u.z), .int .u64 (l1 u.z), .int .u64 (l2 u.z), .int .u64 (l3 u.z)]) ∧ Below w.heap.size w w')) (C4 : Hid (∀ w, Calls Tryz.prog 71 #[.agg #[.int .u64 (l0 u.x), .int .u64 (l1 u.x), .int .u64 (l2 u.x), .int .u64 (l3 u.x), .int .u64 (l0 u.y), .int .u64 (l1 u.y), .int .u64 (l2 u.y), .int .u64 (l3 u.y), .int .u64 (l0 u.z), .int .u64 (l1 u.z), .int .u64 (l2 u.z), .int .u64 (l3 u.z)]] w fun e w' => e = .returned (.agg #[.int .u64 (l0 x'), .int .u64 (l1 x'), .int .u64 (l2 x'), .int .u64 (l3 x'), .int .u64 (l0 y'), .int .u64 (l1 y'), .int .u64 (l2 y'), .int .u64 (l3 y'), .bool j]) ∧ Below w.heap.size w w')) (w : World) :
    Calls Tryz.prog 32 #[.agg #[.int .u64 (l0 a), .int .u64 (l1 a), .int .u64 (l2 a), .int .u64 (l3 a)], .agg #[.int .u64 (l0 b), .int .u64 (l1 b), .int .u64 (l2 b), .int .u64 (l3 b)], .agg #[.int .u64 (l0 x), .int .u64 (l1 x), .int .u64 (l2 x), .int .u64 (l3 x), .int .u64 (l0 y), .int .u64 (l1 y), .int .u64 (l2 y), .int .u64 (l3 y), .bool i]] w fun e w' => e = .returned (.tuple #[.agg #[.int .u64 (l0 x'), .int .u64 (l1 x'), .int .u64 (l2 x'), .int .u64 (l3 x'), .int .u64 (l0 y'), .int .u64 (l1 y'), .int .u64 (l2 y'), .int .u64 (l3 y'), .bool j], .int .i64 0]) ∧ Below w.heap.size w w' := by
  go_enter Tryz.func32, Tryz.ntmps32
  go_wp2_with fail
  refine calls_world (fun W => Below w.heap.size w W ∧ Nm W w.heap.size a ∧ Nm W (w.heap.size + 1) b ∧ Pnt W (w.heap.size + 1 + 1) x y i ∧ Bk9 W (w.heap.size + 1 + 1 + 1))
    ⟨by repeat (first | with_reducible exact Below.refl _ _ | with_reducible refine Below.alloc ?_ (by first | omega | (simp; done) | (simp; omega)) _), ((Nm.alloc (Cl.new _ rfl rfl) _).alloc _).alloc _, (Nm.alloc (Cl.new _ (by simp) rfl) _).alloc _, (Pnt.new (by simp)).alloc _, Bk9.new (by simp)⟩ ?_
  rintro W ⟨B, hA, hB, hQ, hR⟩
  have o3 : w.heap.size ≤ w.heap.size + 1 + 1 + 1 := by omega
  generalize w.heap.size + 1 + 1 + 1 = br at *
  generalize w.heap.size + 1 + 1 = bq at *
  generalize w.heap.size + 1 = bb at *
  with_reducible refine (C0.out _).mono ?_
  rintro e w1 ⟨rfl, hb⟩
  replace B := B.trans (hb.mono B.size)
  replace hA := hA.keep hb; replace hB := hB.keep hb; replace hQ := hQ.keep hb; replace hR := hR.keep hb
  clear hb W
  go_wp2_with fail
  refine wp_world (fun W => Below w.heap.size w W ∧ Nm W w.heap.size a ∧ Nm W bb b ∧ Pnt W bq x y i ∧ Bk9 W br) ⟨B, hA, hB, hQ, hR⟩ ?_
  clear B hA hB hQ hR w1
  rintro W ⟨B, hA, hB, hQ, hR⟩
  refine alloc_tail (A := ?AA) 7 (by kernel_rfl) (by kernel_rfl) rfl rfl (alloc_three _ _ _) (fun V hV => ?HH) (fun V w1 hV hw => ?TT)
  case HH =>
    have gA := (hA.keep hV).grown; have gB := (hB.keep hV).grown; have gQ := (hQ.keep hV).grown
    unfold Gr
    simp only [List.take_succ_cons, List.take_zero]
    repeat
      first
        | go_big_quiet_skip
        | (go_big_quiet_want; go_big_quiet_op; go_big_quiet_on)
        | (go_big_quiet_want
           go_big_quiet_op
           apply Exists.intro
           refine ⟨fun p => ?_, ?_⟩
           · (first | (go_at_call 70; with_reducible exact Calls.regrown_of (CG.out _)) | (go_at_call 69; with_reducible exact Calls.regrown_of (C1.out _)) | (go_at_call 69; with_reducible exact Calls.regrown_of (C2.out _)) | (go_at_call 68; with_reducible exact Calls.regrown_of (C3.out _)))
           go_big_quiet_on)
    refine wpQuiet_nil ?_
    exact rfl
  case TT =>
    have hb := alloc_below hV hw
    have hN := (Bk12.new rfl).keep hw
    have nr : V.heap.size ≠ br := Nat.ne_of_gt (Nat.lt_of_lt_of_le hR.lt hV.size)
    have gn : w.heap.size ≤ V.heap.size := Nat.le_trans B.size hV.size
    replace B := B.trans (hb.mono B.size)
    replace hR := hR.keep hb
    clear hb hw hV hA hB hQ W
    generalize V.heap.size = bs at *
    clear V
    have gN := hN.cells; have qN := hN.free
    simp only [List.drop_succ_cons, List.drop_zero, Act.put, List.setIfInBounds_toArray, List.set_cons_zero, List.set_cons_succ]
    go_wp2_with fail
    refine calls_world (fun W => Below w.heap.size w W ∧ Bk9 W br) ⟨below_put B gn u.x u.y u.z, hR.put nr u.x u.y u.z⟩ ?_
    clear B hR hN gN qN gn
    rintro W ⟨B, hR⟩
    with_reducible refine (C4.out _).mono ?_
    rintro e w2 ⟨rfl, hb⟩
    replace B := B.trans (hb.mono B.size)
    replace hR := hR.keep hb
    clear hb W
    have gR := hR.cells; have fR := hR.free
    go_wp2
    simp [bodyPost, results, Tryz.results32, go_sem, gR]
    repeat (first | with_reducible exact B | with_reducible refine Below.setCell ?_ o3 _)


theorem gX_pt : ptOf gX gY false = EC.gJ.pt := by
  rw [EC.gJ_pt]
  show EC.Pt.a (EC.fp gX) (EC.fp gY) = _
  rw [show EC.fp gX = EC.gJ.x by decide +kernel, show EC.fp gY = EC.gJ.y by decide +kernel]
theorem r5point_vd {t : T3} (hl : t.Low) {x' y' : Int} {j : Bool} (hj : Vd x' y' j) (ej : ptOf x' y' j = t.j.pt) : Hid (∀ w, Calls Tryz.prog 71 #[.agg #[.int .u64 (l0 t.x), .int .u64 (l1 t.x), .int .u64 (l2 t.x), .int .u64 (l3 t.x), .int .u64 (l0 t.y), .int .u64 (l1 t.y), .int .u64 (l2 t.y), .int .u64 (l3 t.y), .int .u64 (l0 t.z), .int .u64 (l1 t.z), .int .u64 (l2 t.z), .int .u64 (l3 t.z)]] w fun e w' => e = .returned (.agg #[.int .u64 (l0 x'), .int .u64 (l1 x'), .int .u64 (l2 x'), .int .u64 (l3 x'), .int .u64 (l0 y'), .int .u64 (l1 y'), .int .u64 (l2 y'), .int .u64 (l3 y'), .bool j]) ∧ Below w.heap.size w w') := by
  obtain ⟨px, py, pi, u1, u2, u3, u4, CP⟩ := r5point_J hl.1 hl.2.1 hl.2.2
  have e : ptOf px py pi = ptOf x' y' j := by rw [u4, ej]; rfl
  have hvd : Vd px py pi := by
    have hon : EC.On (ptOf px py pi) := by rw [e]; exact hj.on
    cases pi with
    | true => exact u3 rfl
    | false => exact ⟨u1, u2, hon⟩
  obtain ⟨rfl, rfl, rfl⟩ := hvd.inj hj e
  exact CP
theorem r5on_yes {x y : Int} {i : Bool} (h : Vd x y i) : Hid (∀ w, Calls Tryz.prog 28 #[.agg #[.int .u64 (l0 x), .int .u64 (l1 x), .int .u64 (l2 x), .int .u64 (l3 x), .int .u64 (l0 y), .int .u64 (l1 y), .int .u64 (l2 y), .int .u64 (l3 y), .bool i]] w fun e w' => e = .returned (.bool true) ∧ Below w.heap.size w w') := fun w => by
  have := r5on_any (i := i) h.low.1.num h.low.2.num w
  rw [decide_eq_true h] at this; exact this
theorem r5on_no {x y : Int} {i : Bool} (hx : Num x) (hy : Num y) (h : ¬ Vd x y i) : Hid (∀ w, Calls Tryz.prog 28 #[.agg #[.int .u64 (l0 x), .int .u64 (l1 x), .int .u64 (l2 x), .int .u64 (l3 x), .int .u64 (l0 y), .int .u64 (l1 y), .int .u64 (l2 y), .int .u64 (l3 y), .bool i]] w fun e w' => e = .returned (.bool false) ∧ Below w.heap.size w w') := fun w => by
  have := r5on_any (i := i) hx hy w
  rw [decide_eq_false h] at this; exact this
theorem r5muladd_any {a b x y x' y' : Int} {i j : Bool} (ha : Num a) (hb : Num b) (hv : Vd x y i) (hj : Vd x' y' j) (ej : ptOf x' y' j = (EC.smul a.toNat EC.gJ.pt).add (EC.smul b.toNat (ptOf x y i))) (w : World) :
    Calls Tryz.prog 32 #[.agg #[.int .u64 (l0 a), .int .u64 (l1 a), .int .u64 (l2 a), .int .u64 (l3 a)], .agg #[.int .u64 (l0 b), .int .u64 (l1 b), .int .u64 (l2 b), .int .u64 (l3 b)], .agg #[.int .u64 (l0 x), .int .u64 (l1 x), .int .u64 (l2 x), .int .u64 (l3 x), .int .u64 (l0 y), .int .u64 (l1 y), .int .u64 (l2 y), .int .u64 (l3 y), .bool i]] w fun e w' => e = .returned (.tuple #[.agg #[.int .u64 (l0 x'), .int .u64 (l1 x'), .int .u64 (l2 x'), .int .u64 (l3 x'), .int .u64 (l0 y'), .int .u64 (l1 y'), .int .u64 (l2 y'), .int .u64 (l3 y'), .bool j], .int .i64 0]) ∧ Below w.heap.size w w' := by
  obtain ⟨s, ls, es, Cs⟩ := r5multiple_any ha g_valid
  obtain ⟨t, lt, et, Ct⟩ := r5multiple_any hb hv
  obtain ⟨u1, u2, u3, k1, k2, k3, eu, Cu⟩ := r5both_J ls.1 ls.2.1 ls.2.2 lt.1 lt.2.1 lt.2.2
  have ons : EC.On s.j.pt := by rw [es]; exact EC.smul_on g_valid.on _
  have ont : EC.On t.j.pt := by rw [et]; exact EC.smul_on hv.on _
  have ep : (T3.j ⟨u1, u2, u3⟩).pt = (EC.smul a.toNat EC.gJ.pt).add (EC.smul b.toNat (ptOf x y i)) := by
    show (J3 u1 u2 u3).pt = _
    rw [eu, ← et, ← gX_pt, ← es]
    exact EC.ja_pt ons ont
  exact r5muladd_walk (u := ⟨u1, u2, u3⟩) (r5on_yes hv) (fun w => r5g_any w) Cs Ct Cu (r5point_vd ⟨k1, k2, k3⟩ hj (by rw [ej, ep])) w
end Go.Proofs.YtjhongkmempepaaGreatDoor
