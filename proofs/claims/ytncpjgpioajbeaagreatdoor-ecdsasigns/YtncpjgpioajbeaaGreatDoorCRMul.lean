import Derived.Test.YtncpjgpioajbeaaGreatDoorCRJ
import Derived.Test.YtncpjgpioajbeaaGreatDoorRefBit
import Derived.Test.YtncpjgpioajbeaaGreatDoorCBlend
namespace Go.Proofs.YtncpjgpioajbeaaGreatDoor
open Go.RowKit Go.Sort

abbrev OnT := {t : T3 // t.Low ∧ EC.On t.j.pt}
def stepD (TW : OnT → OnT) (s : OnT) : OnT := if s.1.z = 0 then s else TW s
def stepB (b : Int) (TW BO : OnT → OnT) (k : Nat) (s : OnT) : OnT := if bitN b (k : Int) = 1 then BO (stepD TW s) else stepD TW s
def zeroT : OnT := ⟨⟨0, 0, 0⟩, ⟨zero_low, zero_low, zero_low⟩, by rw [show (T3.j ⟨0, 0, 0⟩).pt = .o from EC.pt_o EC.fp_zero]; exact EC.on_o⟩
/-- The sum when so many bits have been looked at. -/
def seqT (b : Int) (TW BO : OnT → OnT) : Nat → OnT
  | 0 => zeroT
  | j + 1 => stepB b TW BO (255 - j) (seqT b TW BO j)
def stT (b : Int) (TW BO : OnT → OnT) (n : Nat) : OnT := seqT b TW BO (256 - n)
theorem stT_step (b : Int) (TW BO : OnT → OnT) {k : Nat} (hk : k < 256) : stT b TW BO k = stepB b TW BO k (stT b TW BO (k + 1)) := by
  unfold stT
  rw [show 256 - k = (256 - (k + 1)) + 1 by omega]
  show stepB b TW BO (255 - (256 - (k + 1))) _ = _
  rw [show 255 - (256 - (k + 1)) = k by omega]
theorem bit_nat {b : Int} (hb : Num b) {k : Nat} (hk : k < 256) : bitN b (k : Int) = ((b.toNat / 2 ^ k % 2 : Nat) : Int) := by
  unfold bitN
  rw [if_neg (by omega)]
  obtain ⟨n, rfl⟩ := Int.eq_ofNat_of_zero_le hb.1
  simp
theorem stT_pt {b : Int} {TW BO : OnT → OnT} {p : EC.Pt} (hp : EC.On p) (hb : Num b) (hT : ∀ s, (TW s).1.j.pt = s.1.j.pt.add s.1.j.pt) (hB : ∀ s, (BO s).1.j.pt = s.1.j.pt.add p) : ∀ m, m ≤ 256 → (stT b TW BO (256 - m)).1.j.pt = EC.smul (b.toNat / 2 ^ (256 - m)) p
  | 0, _ => by
    rw [show b.toNat / 2 ^ (256 - 0) = 0 from Nat.div_eq_of_lt (by have := hb.2; have := hb.1; omega)]
    exact EC.pt_o EC.fp_zero
  | m + 1, hm => by
    have ih := stT_pt hp hb hT hB m (by omega)
    obtain ⟨k, hk⟩ : ∃ k, k = 256 - (m + 1) := ⟨_, rfl⟩
    rw [← hk, stT_step b TW BO (by omega), show k + 1 = 256 - m by omega]
    have hd : (stepD TW (stT b TW BO (256 - m))).1.j.pt = EC.smul (2 * (b.toNat / 2 ^ (256 - m))) p := by
      unfold stepD
      split
      · next hz =>
        have e0 : (stT b TW BO (256 - m)).1.j.pt = .o := EC.pt_o (by show EC.fp _ = 0; rw [hz, EC.fp_zero])
        rw [e0] at ih
        rw [e0, show 2 * (b.toNat / 2 ^ (256 - m)) = b.toNat / 2 ^ (256 - m) + b.toNat / 2 ^ (256 - m) by omega, EC.smul_add hp, ← ih]
        rfl
      · rw [hT, ih, ← EC.smul_add hp]
        congr 1; omega
    have hh := half_pow b.toNat k
    rw [show k + 1 = 256 - m by omega] at hh
    unfold stepB
    rw [bit_nat hb (by omega)]
    split
    · next h1 =>
      rw [hB, hd, hh, show b.toNat / 2 ^ k % 2 = 1 by omega]
      rfl
    · next h1 =>
      rw [hd, hh, show b.toNat / 2 ^ k % 2 = 0 by omega]
      rfl

set_option maxRecDepth 100000 in
set_option maxHeartbeats 16000000 in
theorem r5multiple_walk {b x y : Int} {i : Bool} {t : T3} {TW BO : OnT → OnT} (hb0 : Num b) (CTh : Hid (∀ w, Calls Tryz.prog 141 #[.agg #[.int .u64 (l0 x), .int .u64 (l1 x), .int .u64 (l2 x), .int .u64 (l3 x), .int .u64 (l0 y), .int .u64 (l1 y), .int .u64 (l2 y), .int .u64 (l3 y), .bool i]] w fun e w' => e = .returned (.agg #[.int .u64 (l0 t.x), .int .u64 (l1 t.x), .int .u64 (l2 t.x), .int .u64 (l3 t.x), .int .u64 (l0 t.y), .int .u64 (l1 t.y), .int .u64 (l2 t.y), .int .u64 (l3 t.y), .int .u64 (l0 t.z), .int .u64 (l1 t.z), .int .u64 (l2 t.z), .int .u64 (l3 t.z)]) ∧ Below w.heap.size w w')) (CTw : Hid (∀ s : OnT, ∀ w, Calls Tryz.prog 142 #[.agg #[.int .u64 (l0 s.1.x), .int .u64 (l1 s.1.x), .int .u64 (l2 s.1.x), .int .u64 (l3 s.1.x), .int .u64 (l0 s.1.y), .int .u64 (l1 s.1.y), .int .u64 (l2 s.1.y), .int .u64 (l3 s.1.y), .int .u64 (l0 s.1.z), .int .u64 (l1 s.1.z), .int .u64 (l2 s.1.z), .int .u64 (l3 s.1.z)]] w fun e w' => e = .returned (.agg #[.int .u64 (l0 (TW s).1.x), .int .u64 (l1 (TW s).1.x), .int .u64 (l2 (TW s).1.x), .int .u64 (l3 (TW s).1.x), .int .u64 (l0 (TW s).1.y), .int .u64 (l1 (TW s).1.y), .int .u64 (l2 (TW s).1.y), .int .u64 (l3 (TW s).1.y), .int .u64 (l0 (TW s).1.z), .int .u64 (l1 (TW s).1.z), .int .u64 (l2 (TW s).1.z), .int .u64 (l3 (TW s).1.z)]) ∧ Below w.heap.size w w'))
    (CBo : Hid (∀ s : OnT, ∀ w, Calls Tryz.prog 144 #[.agg #[.int .u64 (l0 s.1.x), .int .u64 (l1 s.1.x), .int .u64 (l2 s.1.x), .int .u64 (l3 s.1.x), .int .u64 (l0 s.1.y), .int .u64 (l1 s.1.y), .int .u64 (l2 s.1.y), .int .u64 (l3 s.1.y), .int .u64 (l0 s.1.z), .int .u64 (l1 s.1.z), .int .u64 (l2 s.1.z), .int .u64 (l3 s.1.z)], .agg #[.int .u64 (l0 t.x), .int .u64 (l1 t.x), .int .u64 (l2 t.x), .int .u64 (l3 t.x), .int .u64 (l0 t.y), .int .u64 (l1 t.y), .int .u64 (l2 t.y), .int .u64 (l3 t.y), .int .u64 (l0 t.z), .int .u64 (l1 t.z), .int .u64 (l2 t.z), .int .u64 (l3 t.z)]] w fun e w' => e = .returned (.agg #[.int .u64 (l0 (BO s).1.x), .int .u64 (l1 (BO s).1.x), .int .u64 (l2 (BO s).1.x), .int .u64 (l3 (BO s).1.x), .int .u64 (l0 (BO s).1.y), .int .u64 (l1 (BO s).1.y), .int .u64 (l2 (BO s).1.y), .int .u64 (l3 (BO s).1.y), .int .u64 (l0 (BO s).1.z), .int .u64 (l1 (BO s).1.z), .int .u64 (l2 (BO s).1.z), .int .u64 (l3 (BO s).1.z)]) ∧ Below w.heap.size w w')) (w : World) :
    Calls Tryz.prog 123 #[.agg #[.int .u64 (l0 b), .int .u64 (l1 b), .int .u64 (l2 b), .int .u64 (l3 b)], .agg #[.int .u64 (l0 x), .int .u64 (l1 x), .int .u64 (l2 x), .int .u64 (l3 x), .int .u64 (l0 y), .int .u64 (l1 y), .int .u64 (l2 y), .int .u64 (l3 y), .bool i]] w fun e w' => e = .returned (.agg #[.int .u64 (l0 (stT b TW BO 0).1.x), .int .u64 (l1 (stT b TW BO 0).1.x), .int .u64 (l2 (stT b TW BO 0).1.x), .int .u64 (l3 (stT b TW BO 0).1.x), .int .u64 (l0 (stT b TW BO 0).1.y), .int .u64 (l1 (stT b TW BO 0).1.y), .int .u64 (l2 (stT b TW BO 0).1.y), .int .u64 (l3 (stT b TW BO 0).1.y), .int .u64 (l0 (stT b TW BO 0).1.z), .int .u64 (l1 (stT b TW BO 0).1.z), .int .u64 (l2 (stT b TW BO 0).1.z), .int .u64 (l3 (stT b TW BO 0).1.z)]) ∧ Below w.heap.size w w' := by
  have HB : Hid (Num b) := hb0
  clear hb0
  go_enter Tryz.func123, Tryz.ntmps123
  go_wp2_with fail
  refine calls_world (fun W => Below w.heap.size w W ∧ Nm W w.heap.size b ∧ Bk12 W (w.heap.size + 1 + 1)) ⟨by repeat (first | with_reducible exact Below.refl _ _ | with_reducible refine Below.alloc ?_ (by first | omega | (simp; done) | (simp; omega)) _), Nm.alloc (Nm.alloc (Cl.new _ rfl rfl) _) _, Bk12.new (by simp)⟩ ?_
  rintro W ⟨B, hK, hR⟩
  have or : w.heap.size ≤ w.heap.size + 1 + 1 := by omega
  generalize w.heap.size + 1 + 1 = br at *
  with_reducible refine (CTh.out _).mono ?_
  rintro e w1 ⟨rfl, hb⟩
  replace B := B.trans (hb.mono B.size)
  replace hK := hK.keep hb; replace hR := hR.keep hb
  clear hb W CTh
  go_wp2_with fail
  refine wp_world (fun W => Below w.heap.size w W ∧ Nm W w.heap.size b ∧ Bk12 W br ∧ Thr W w1.heap.size t.x t.y t.z ∧ TV W (w1.heap.size + 1) 0 0 0)
    ⟨(B.alloc B.size _).alloc (by have := B.size; simp; omega) _, (hK.alloc _).alloc _, (hR.alloc _).alloc _, (Thr.new rfl).alloc _, (Bk12.new (by simp)).tv⟩ ?_
  have os : w.heap.size ≤ w1.heap.size + 1 := by have := B.size; omega
  have nk : w1.heap.size + 1 ≠ w.heap.size := by have := B.size; omega
  have nr : w1.heap.size + 1 ≠ br := by have := hR.lt; omega
  have nt : w1.heap.size + 1 ≠ w1.heap.size := by omega
  clear B hK hR
  generalize w1.heap.size + 1 = bs at *
  generalize w1.heap.size = bt at *
  clear w1
  rintro W ⟨B, hK, hR, hT, hS⟩
  go_loopg [7] 256 (fun k iv wr => ∃ n : Nat, k = n ∧ n ≤ 256 ∧ iv = .int .i64 ((n : Int) - 1) ∧ Below w.heap.size w wr ∧ Nm wr w.heap.size b ∧ Bk12 wr br ∧ Thr wr bt t.x t.y t.z ∧ TV wr bs (stT b TW BO n).1.x (stT b TW BO n).1.y (stT b TW BO n).1.z)
  case atStart => exact ⟨256, rfl, by decide, rfl, B, hK, hR, hT, hS⟩
  case round =>
    clear B hK hR hT hS W
    obtain ⟨n, hk, hn, hiv, B, hK, hR, hT, hS⟩ := hrel
    cases n with
    | zero =>
      rw [show (((0 : Nat) : Int) - 1) = -1 by rfl] at hiv
      subst hiv
      have gS := hS.1.cells; have gR := hR.cells; have fR := hR.free
      clear hK hT hn hS
      generalize h0 : stT b TW BO 0 = s0 at *
      go_wp2
      refine bodyPost_ret (v := .agg #[.int .u64 (l0 s0.1.x), .int .u64 (l1 s0.1.x), .int .u64 (l2 s0.1.x), .int .u64 (l3 s0.1.x), .int .u64 (l0 s0.1.y), .int .u64 (l1 s0.1.y), .int .u64 (l2 s0.1.y), .int .u64 (l3 s0.1.y), .int .u64 (l0 s0.1.z), .int .u64 (l1 s0.1.z), .int .u64 (l2 s0.1.z), .int .u64 (l3 s0.1.z)]) ?_ rfl ⟨by rw [← h0], ?_⟩
      · simp [results, Tryz.results123, go_sem, gR]
      · repeat (first | with_reducible exact B | with_reducible refine Below.setCell ?_ or _)
    | succ k =>
      rw [show (((k + 1 : Nat) : Int) - 1) = (k : Int) by omega] at hiv
      subst hiv
      have hk256 : k < 256 := by omega
      have hst := stT_step b TW BO hk256
      have hk0 : (0 : Int) ≤ (k : Int) := by omega
      have CBt : Hid (∀ w, Calls Tryz.prog 143 #[.agg #[.int .u64 (l0 b), .int .u64 (l1 b), .int .u64 (l2 b), .int .u64 (l3 b)], .int .i64 (k : Int)] w fun e w' => e = .returned (.int .i64 (bitN b (k : Int))) ∧ Below w.heap.size w w') := fun w => rbit_any HB.out w
      generalize stT b TW BO (k + 1) = s at *
      have gS := hS.1.cells; have fS := hS.free
      by_cases hz : s.1.z = 0
      · have Ez := eqz s.2.1.2.2.num (decide_eq_true hz)
        have hst : stT b TW BO k = if bitN b (k : Int) = 1 then BO s else s := by rw [hst]; unfold stepB stepD; rw [if_pos hz]
        clear hz
        have gK := hK.cells
        go_wp2_with fail
        refine calls_world (fun W => Below w.heap.size w W ∧ Nm W w.heap.size b ∧ Bk12 W br ∧ Thr W bt t.x t.y t.z ∧ TV W bs s.1.x s.1.y s.1.z) ⟨B, hK, hR, hT, hS⟩ ?_
        clear B hK hR hT hS gS fS gK
        rintro W ⟨B, hK, hR, hT, hS⟩
        with_reducible refine (CBt.out _).mono ?_
        rintro e w3 ⟨rfl, hb⟩
        replace B := B.trans (hb.mono B.size)
        replace hK := hK.keep hb; replace hR := hR.keep hb; replace hT := hT.keep hb; replace hS := hS.keep hb
        clear hb W
        have gS := hS.1.cells; have fS := hS.free
        by_cases h1 : bitN b (k : Int) = 1
        · rw [if_pos h1] at hst
          have gT := hT.cells
          go_wp2_with fail
          refine calls_world (fun W => Below w.heap.size w W ∧ Nm W w.heap.size b ∧ Bk12 W br ∧ Thr W bt t.x t.y t.z ∧ TV W bs s.1.x s.1.y s.1.z) ⟨B, hK, hR, hT, hS⟩ ?_
          clear B hK hR hT hS gS fS gT
          rintro W ⟨B, hK, hR, hT, hS⟩
          with_reducible refine (CBo.out s _).mono ?_
          rintro e w4 ⟨rfl, hb⟩
          replace B := B.trans (hb.mono B.size)
          replace hK := hK.keep hb; replace hR := hR.keep hb; replace hT := hT.keep hb; replace hS := hS.keep hb
          clear hb W
          have gS := hS.1.cells; have fS := hS.free
          go_wp2_with fail
          go_roundg k
          case measure => have := hk; omega
          case rel =>
            refine ⟨k, rfl, by omega, by go_num, below_put B os (BO (s)).1.x (BO (s)).1.y (BO (s)).1.z, Cl.put hK nk (BO (s)).1.x (BO (s)).1.y (BO (s)).1.z, hR.put nr (BO (s)).1.x (BO (s)).1.y (BO (s)).1.z, Cl.put hT nt (BO (s)).1.x (BO (s)).1.y (BO (s)).1.z, ?_⟩
            rw [hst]
            exact hS.put _ _ _
        · rw [if_neg h1] at hst
          go_wp2_with fail
          go_roundg k
          case measure => have := hk; omega
          case rel =>
            refine ⟨k, rfl, by omega, by go_num, B, hK, hR, hT, ?_⟩
            rw [hst]
            exact hS
      · have Ez := eqz s.2.1.2.2.num (decide_eq_false hz)
        have hst : stT b TW BO k = if bitN b (k : Int) = 1 then BO (TW s) else TW s := by rw [hst]; unfold stepB stepD; rw [if_neg hz]
        clear hz
        go_wp2_with fail
        refine calls_world (fun W => Below w.heap.size w W ∧ Nm W w.heap.size b ∧ Bk12 W br ∧ Thr W bt t.x t.y t.z ∧ TV W bs s.1.x s.1.y s.1.z) ⟨B, hK, hR, hT, hS⟩ ?_
        clear B hK hR hT hS gS fS
        rintro W ⟨B, hK, hR, hT, hS⟩
        with_reducible refine (CTw.out s _).mono ?_
        rintro e w2 ⟨rfl, hb⟩
        replace B := B.trans (hb.mono B.size)
        replace hK := hK.keep hb; replace hR := hR.keep hb; replace hT := hT.keep hb; replace hS := hS.keep hb
        clear hb W
        have gS := hS.1.cells; have fS := hS.free
        have gK := hK.cells
        go_wp2_with fail
        refine calls_world (fun W => Below w.heap.size w W ∧ Nm W w.heap.size b ∧ Bk12 W br ∧ Thr W bt t.x t.y t.z ∧ TV W bs (TW s).1.x (TW s).1.y (TW s).1.z) ⟨below_put B os (TW s).1.x (TW s).1.y (TW s).1.z, Cl.put hK nk (TW s).1.x (TW s).1.y (TW s).1.z, hR.put nr (TW s).1.x (TW s).1.y (TW s).1.z, Cl.put hT nt (TW s).1.x (TW s).1.y (TW s).1.z, hS.put (TW s).1.x (TW s).1.y (TW s).1.z⟩ ?_
        clear B hK hR hT hS gS fS gK
        rintro W ⟨B, hK, hR, hT, hS⟩
        with_reducible refine (CBt.out _).mono ?_
        rintro e w3 ⟨rfl, hb⟩
        replace B := B.trans (hb.mono B.size)
        replace hK := hK.keep hb; replace hR := hR.keep hb; replace hT := hT.keep hb; replace hS := hS.keep hb
        clear hb W
        have gS := hS.1.cells; have fS := hS.free
        by_cases h1 : bitN b (k : Int) = 1
        · rw [if_pos h1] at hst
          have gT := hT.cells
          go_wp2_with fail
          refine calls_world (fun W => Below w.heap.size w W ∧ Nm W w.heap.size b ∧ Bk12 W br ∧ Thr W bt t.x t.y t.z ∧ TV W bs (TW s).1.x (TW s).1.y (TW s).1.z) ⟨B, hK, hR, hT, hS⟩ ?_
          clear B hK hR hT hS gS fS gT
          rintro W ⟨B, hK, hR, hT, hS⟩
          with_reducible refine (CBo.out (TW s) _).mono ?_
          rintro e w4 ⟨rfl, hb⟩
          replace B := B.trans (hb.mono B.size)
          replace hK := hK.keep hb; replace hR := hR.keep hb; replace hT := hT.keep hb; replace hS := hS.keep hb
          clear hb W
          have gS := hS.1.cells; have fS := hS.free
          go_wp2_with fail
          go_roundg k
          case measure => have := hk; omega
          case rel =>
            refine ⟨k, rfl, by omega, by go_num, below_put B os (BO ((TW s))).1.x (BO ((TW s))).1.y (BO ((TW s))).1.z, Cl.put hK nk (BO ((TW s))).1.x (BO ((TW s))).1.y (BO ((TW s))).1.z, hR.put nr (BO ((TW s))).1.x (BO ((TW s))).1.y (BO ((TW s))).1.z, Cl.put hT nt (BO ((TW s))).1.x (BO ((TW s))).1.y (BO ((TW s))).1.z, ?_⟩
            rw [hst]
            exact hS.put _ _ _
        · rw [if_neg h1] at hst
          go_wp2_with fail
          go_roundg k
          case measure => have := hk; omega
          case rel =>
            refine ⟨k, rfl, by omega, by go_num, B, hK, hR, hT, ?_⟩
            rw [hst]
            exact hS

/-- The document's multiple. -/
theorem r5multiple_any {b x y : Int} {i : Bool} (hb : Num b) (hv : Vd x y i) : ∃ t : T3, t.Low ∧ t.j.pt = EC.smul b.toNat (ptOf x y i) ∧ ∀ w, Calls Tryz.prog 123 #[.agg #[.int .u64 (l0 b), .int .u64 (l1 b), .int .u64 (l2 b), .int .u64 (l3 b)], .agg #[.int .u64 (l0 x), .int .u64 (l1 x), .int .u64 (l2 x), .int .u64 (l3 x), .int .u64 (l0 y), .int .u64 (l1 y), .int .u64 (l2 y), .int .u64 (l3 y), .bool i]] w fun e w' => e = .returned (.agg #[.int .u64 (l0 t.x), .int .u64 (l1 t.x), .int .u64 (l2 t.x), .int .u64 (l3 t.x), .int .u64 (l0 t.y), .int .u64 (l1 t.y), .int .u64 (l2 t.y), .int .u64 (l3 t.y), .int .u64 (l0 t.z), .int .u64 (l1 t.z), .int .u64 (l2 t.z), .int .u64 (l3 t.z)]) ∧ Below w.heap.size w w' := by
  obtain ⟨a1, a2, a3, k1, k2, k3, et, CT⟩ := r5three_J hv
  have onT : EC.On (J3 a1 a2 a3).pt := by rw [et]; exact hv.on
  have s1 : ∀ s : OnT, ∃ u : OnT, u.1.j.pt = s.1.j.pt.add s.1.j.pt ∧ ∀ w, Calls Tryz.prog 142 #[.agg #[.int .u64 (l0 s.1.x), .int .u64 (l1 s.1.x), .int .u64 (l2 s.1.x), .int .u64 (l3 s.1.x), .int .u64 (l0 s.1.y), .int .u64 (l1 s.1.y), .int .u64 (l2 s.1.y), .int .u64 (l3 s.1.y), .int .u64 (l0 s.1.z), .int .u64 (l1 s.1.z), .int .u64 (l2 s.1.z), .int .u64 (l3 s.1.z)]] w fun e w' => e = .returned (.agg #[.int .u64 (l0 u.1.x), .int .u64 (l1 u.1.x), .int .u64 (l2 u.1.x), .int .u64 (l3 u.1.x), .int .u64 (l0 u.1.y), .int .u64 (l1 u.1.y), .int .u64 (l2 u.1.y), .int .u64 (l3 u.1.y), .int .u64 (l0 u.1.z), .int .u64 (l1 u.1.z), .int .u64 (l2 u.1.z), .int .u64 (l3 u.1.z)]) ∧ Below w.heap.size w w' := fun ⟨s, ls, os⟩ => by
    obtain ⟨b1, b2, b3, m1, m2, m3, ep, CA⟩ := r5twice_pt ls.1 ls.2.1 ls.2.2 os
    exact ⟨⟨⟨b1, b2, b3⟩, ⟨m1, m2, m3⟩, by rw [show (T3.j ⟨b1, b2, b3⟩).pt = _ from ep]; exact EC.Pt.on os os⟩, ep, CA⟩
  have s2 : ∀ s : OnT, ∃ u : OnT, u.1.j.pt = s.1.j.pt.add (ptOf x y i) ∧ ∀ w, Calls Tryz.prog 144 #[.agg #[.int .u64 (l0 s.1.x), .int .u64 (l1 s.1.x), .int .u64 (l2 s.1.x), .int .u64 (l3 s.1.x), .int .u64 (l0 s.1.y), .int .u64 (l1 s.1.y), .int .u64 (l2 s.1.y), .int .u64 (l3 s.1.y), .int .u64 (l0 s.1.z), .int .u64 (l1 s.1.z), .int .u64 (l2 s.1.z), .int .u64 (l3 s.1.z)], .agg #[.int .u64 (l0 a1), .int .u64 (l1 a1), .int .u64 (l2 a1), .int .u64 (l3 a1), .int .u64 (l0 a2), .int .u64 (l1 a2), .int .u64 (l2 a2), .int .u64 (l3 a2), .int .u64 (l0 a3), .int .u64 (l1 a3), .int .u64 (l2 a3), .int .u64 (l3 a3)]] w fun e w' => e = .returned (.agg #[.int .u64 (l0 u.1.x), .int .u64 (l1 u.1.x), .int .u64 (l2 u.1.x), .int .u64 (l3 u.1.x), .int .u64 (l0 u.1.y), .int .u64 (l1 u.1.y), .int .u64 (l2 u.1.y), .int .u64 (l3 u.1.y), .int .u64 (l0 u.1.z), .int .u64 (l1 u.1.z), .int .u64 (l2 u.1.z), .int .u64 (l3 u.1.z)]) ∧ Below w.heap.size w w' := fun ⟨s, ls, os⟩ => by
    obtain ⟨b1, b2, b3, m1, m2, m3, ej, CA⟩ := r5both_J ls.1 ls.2.1 ls.2.2 k1 k2 k3
    have ep : (T3.j ⟨b1, b2, b3⟩).pt = s.j.pt.add (ptOf x y i) := by
      show (J3 b1 b2 b3).pt = _
      rw [ej, ← et]
      exact EC.ja_pt os onT
    exact ⟨⟨⟨b1, b2, b3⟩, ⟨m1, m2, m3⟩, by rw [ep]; exact EC.Pt.on os hv.on⟩, ep, CA⟩
  obtain ⟨TW, hT⟩ := Classical.skolem.1 s1
  obtain ⟨BO, hB⟩ := Classical.skolem.1 s2
  refine ⟨(stT b TW BO 0).1, (stT b TW BO 0).2.1, ?_, fun w => r5multiple_walk (t := ⟨a1, a2, a3⟩) hb CT (fun s w => (hT s).2 w) (fun s w => (hB s).2 w) w⟩
  have := stT_pt hv.on hb (fun s => (hT s).1) (fun s => (hB s).1) 256 (Nat.le_refl _)
  simpa using this
end Go.Proofs.YtncpjgpioajbeaaGreatDoor
