import Derived.Test.YtgedkdkaddcmmaaDoorCSumK
import Derived.Test.YtgedkdkaddcmmaaDoorCRAdd
import Derived.Test.YtgedkdkaddcmmaaDoorCBlend
import Derived.Test.YtgedkdkaddcmmaaDoorCOps
namespace Go.Proofs.YtgedkdkaddcmmaaDoor
open Go.RowKit Go.Sort

theorem Bk9.put9S {W : World} {b b' : Nat} {x' y' : Int} {j : Bool} (h : Bk9 W b) (ne : b' ≠ b) : Bk9 (Go.Proofs.YtgedkdkaddcmmaaDoor.put9 W b' x' y' j) b := by
  unfold Go.Proofs.YtgedkdkaddcmmaaDoor.put9
  exact ⟨Cl.set (Cl.set (Cl.set (Cl.set (Cl.set (Cl.set (Cl.set (Cl.set (Cl.set (h.1) ne _) ne _) ne _) ne _) ne _) ne _) ne _) ne _) ne _, ((((((((h.2.set _ _).set _ _).set _ _).set _ _).set _ _).set _ _).set _ _).set _ _).set _ _⟩
theorem Pts.put9 {W : World} {b o b' : Nat} {L : List PP} {x' y' : Int} {j : Bool} (h : Pts W b o L) (ne : b' ≠ b) : Pts (Go.Proofs.YtgedkdkaddcmmaaDoor.put9 W b' x' y' j) b o L := by
  unfold Go.Proofs.YtgedkdkaddcmmaaDoor.put9
  exact ((((((((h.set ne _).set ne _).set ne _).set ne _).set ne _).set ne _).set ne _).set ne _).set ne _
/-- A point in a block that may be written. -/
def PvS (W : World) (b : Nat) (x y : Int) (i : Bool) : Prop := Pnt W b x y i ∧ Loose W b 9
theorem PvS.lt {W : World} {b : Nat} {x y : Int} {i : Bool} (h : PvS W b x y i) : b < W.heap.size := h.1.lt
theorem PvS.keep {W w1 : World} {b : Nat} {x y : Int} {i : Bool} (h : PvS W b x y i) (hb : Below W.heap.size W w1) : PvS w1 b x y i := ⟨h.1.keep hb, h.2.keep hb h.lt⟩
theorem PvS.new {W : World} {b : Nat} {t : TypeId} {x y : Int} {i : Bool} (e : b = W.heap.size) : PvS (W.alloc (.cells #[.int .u64 (l0 x), .int .u64 (l1 x), .int .u64 (l2 x), .int .u64 (l3 x), .int .u64 (l0 y), .int .u64 (l1 y), .int .u64 (l2 y), .int .u64 (l3 y), .bool i] t)) b x y i := ⟨Pnt.new e, by subst e; exact Loose.new _ _ _ _⟩
theorem PvS.free {W : World} {b : Nat} {x y : Int} {i : Bool} (h : PvS W b x y i) : W.frozen? ⟨b, 0, none⟩ = false ∧ W.frozen? ⟨b, 1, none⟩ = false ∧ W.frozen? ⟨b, 2, none⟩ = false ∧ W.frozen? ⟨b, 3, none⟩ = false ∧ W.frozen? ⟨b, 4, none⟩ = false ∧ W.frozen? ⟨b, 5, none⟩ = false ∧ W.frozen? ⟨b, 6, none⟩ = false ∧ W.frozen? ⟨b, 7, none⟩ = false ∧ W.frozen? ⟨b, 8, none⟩ = false := ⟨h.2 0 (by decide), h.2 1 (by decide), h.2 2 (by decide), h.2 3 (by decide), h.2 4 (by decide), h.2 5 (by decide), h.2 6 (by decide), h.2 7 (by decide), h.2 8 (by decide)⟩
theorem PvS.put9 {W : World} {b : Nat} {x y : Int} {i : Bool} (h : PvS W b x y i) (x' y' : Int) (i' : Bool) : PvS (Go.Proofs.YtgedkdkaddcmmaaDoor.put9 W b x' y' i') b x' y' i' := by
  obtain ⟨a0, a1, a2, a3, a4, a5, a6, a7, a8⟩ := h.1.cells
  refine ⟨fun k hk => ?_, fun k hk => ?_⟩
  · have hk' : k < 9 := by simpa using hk
    have hc : k = 0 ∨ k = 1 ∨ k = 2 ∨ k = 3 ∨ k = 4 ∨ k = 5 ∨ k = 6 ∨ k = 7 ∨ k = 8 := by omega
    unfold Go.Proofs.YtgedkdkaddcmmaaDoor.put9
    rcases hc with rfl | rfl | rfl | rfl | rfl | rfl | rfl | rfl | rfl <;> simp [go_sem, a0, a1, a2, a3, a4, a5, a6, a7, a8]
  · have := h.2 k hk
    unfold Go.Proofs.YtgedkdkaddcmmaaDoor.put9
    simp [go_sem, this]
set_option maxRecDepth 100000 in
set_option maxHeartbeats 16000000 in
theorem rsum5_bad {L : List PP} {m : Nat} (hl : L.length ≤ 2000000000000) (hmL : m < L.length) (hV : ∀ i, i < m → Vd (L.getD i ⟨0, 0, true⟩).x (L.getD i ⟨0, 0, true⟩).y (L.getD i ⟨0, 0, true⟩).i) (hN : ¬ Vd (L.getD m ⟨0, 0, true⟩).x (L.getD m ⟨0, 0, true⟩).y (L.getD m ⟨0, 0, true⟩).i) (nx : Num (L.getD m ⟨0, 0, true⟩).x) (ny : Num (L.getD m ⟨0, 0, true⟩).y)
    {a : Option Addr} {g o cap : Nat} (ha : L = [] ∨ a = some ⟨g, o, none⟩) (w : World) (hI : Pts w g o L) :
    Calls Tryd.prog 5 #[.slice a L.length cap] w fun e w' => e = .returned (.tuple #[.agg #[.int .u64 (l0 0), .int .u64 (l1 0), .int .u64 (l2 0), .int .u64 (l3 0), .int .u64 (l0 0), .int .u64 (l1 0), .int .u64 (l2 0), .int .u64 (l3 0), .bool false], .int .i64 50]) ∧ Below w.heap.size w w' := by
  have BN : Hid (∀ w, Calls Tryd.prog 11 #[.agg #[.int .u64 (l0 (L.getD m ⟨0, 0, true⟩).x), .int .u64 (l1 (L.getD m ⟨0, 0, true⟩).x), .int .u64 (l2 (L.getD m ⟨0, 0, true⟩).x), .int .u64 (l3 (L.getD m ⟨0, 0, true⟩).x), .int .u64 (l0 (L.getD m ⟨0, 0, true⟩).y), .int .u64 (l1 (L.getD m ⟨0, 0, true⟩).y), .int .u64 (l2 (L.getD m ⟨0, 0, true⟩).y), .int .u64 (l3 (L.getD m ⟨0, 0, true⟩).y), .bool (L.getD m ⟨0, 0, true⟩).i]] w fun e w' => e = .returned (.bool false) ∧ Below w.heap.size w w') := fun w => by
    have := r5on_any (i := (L.getD m ⟨0, 0, true⟩).i) nx ny w
    rw [decide_eq_false hN] at this; exact this
  have HM : Hid (m < L.length) := hmL
  have HL : Hid (L.length ≤ 2000000000000) := hl
  have HA : Hid (L = [] ∨ a = some ⟨g, o, none⟩) := ha
  have HV : Hid (∀ i, i < m → Vd (L.getD i ⟨0, 0, true⟩).x (L.getD i ⟨0, 0, true⟩).y (L.getD i ⟨0, 0, true⟩).i) := hV
  have HI : Hid (∀ W, Below w.heap.size w W → Pts W g o L) := fun W B => hI.keep B
  obtain ⟨z0, z1, z2, z3⟩ := zero_limbs
  rw [z0, z1, z2, z3]
  clear hl hV hN nx ny ha hI hmL z0 z1 z2 z3
  go_enter Tryd.func5, Tryd.ntmps5
  go_wp2_with fail
  refine wp_world (fun W => Below w.heap.size w W ∧ Bk9 W w.heap.size) ⟨by repeat (first | with_reducible exact Below.refl _ _ | with_reducible refine Below.alloc ?_ (by first | omega | (simp; done) | (simp; omega)) _), Bk9.new (by simp)⟩ ?_
  rintro W ⟨B, hR⟩
  go_loopg [4] L.length (fun k iv wr => ∃ i : Nat, k = L.length - i ∧ i ≤ m ∧ iv = .int .i64 (i : Int) ∧ Below w.heap.size w wr ∧ Bk9 wr w.heap.size)
  case atStart => exact ⟨0, rfl, Nat.zero_le _, rfl, B, hR⟩
  case round =>
    clear B hR W
    obtain ⟨i, hk, hi, rfl, B, hR⟩ := hrel
    have HK : Hid (gk = L.length - i ∧ i ≤ m) := ⟨hk, hi⟩
    have hlt : i < L.length := by have := HM.out; omega
    clear hk
    obtain rfl : a = some ⟨g, o, none⟩ := by
      rcases HA.out with h | h
      · rw [h] at hlt; simp at hlt
      · exact h
    have gI := HI.out wr B i hlt
    have hi6 : (i : Int) < 2000000000000 := by have := HL.out; omega
    by_cases hz : i = m
    · subst hz
      generalize (L.getD i ⟨0, 0, true⟩) = pq at gI BN
      obtain ⟨qx, qy, qi⟩ := pq
      simp only at gI BN
      go_wp2_with fail
      with_reducible refine (BN.out _).mono ?_
      rintro e w1 ⟨rfl, hb⟩
      replace B := B.trans (hb.mono B.size)
      replace hR := hR.keep hb
      clear hb gI
      have o3 : w.heap.size ≤ w.heap.size := Nat.le_refl _
      have gR := hR.cells; have fR := hR.free
      go_wp2
      simp [bodyPost, results, Tryd.results5, go_sem, gR]
      repeat (first | with_reducible exact B | with_reducible refine Below.setCell ?_ o3 _)
    · have vq := HV.out i (by omega)
      have ON : Hid (∀ w, Calls Tryd.prog 11 #[.agg #[.int .u64 (l0 (L.getD i ⟨0, 0, true⟩).x), .int .u64 (l1 (L.getD i ⟨0, 0, true⟩).x), .int .u64 (l2 (L.getD i ⟨0, 0, true⟩).x), .int .u64 (l3 (L.getD i ⟨0, 0, true⟩).x), .int .u64 (l0 (L.getD i ⟨0, 0, true⟩).y), .int .u64 (l1 (L.getD i ⟨0, 0, true⟩).y), .int .u64 (l2 (L.getD i ⟨0, 0, true⟩).y), .int .u64 (l3 (L.getD i ⟨0, 0, true⟩).y), .bool (L.getD i ⟨0, 0, true⟩).i]] w fun e w' => e = .returned (.bool true) ∧ Below w.heap.size w w') := fun w => by
        have := r5on_any (i := (L.getD i ⟨0, 0, true⟩).i) vq.low.1.num vq.low.2.num w
        rw [decide_eq_true vq] at this; exact this
      have hz' : i + 1 ≤ m := by omega
      clear hi vq hz
      generalize (L.getD i ⟨0, 0, true⟩) = pq at gI ON
      obtain ⟨qx, qy, qi⟩ := pq
      simp only at gI ON
      go_wp2_with fail
      with_reducible refine (ON.out _).mono ?_
      rintro e w1 ⟨rfl, hb⟩
      replace B := B.trans (hb.mono B.size)
      replace hR := hR.keep hb
      clear hb gI
      go_wp2
      go_roundg (L.length - (i + 1))
      case measure => have := HK.out.1; omega
      case rel => exact ⟨i + 1, rfl, hz', by go_num, B, hR⟩
set_option maxRecDepth 100000 in
set_option maxHeartbeats 16000000 in
theorem rsum5_good {L : List PP} (hl : L.length ≤ 2000000000000) (hV : ∀ i, i < L.length → Vd (L.getD i ⟨0, 0, true⟩).x (L.getD i ⟨0, 0, true⟩).y (L.getD i ⟨0, 0, true⟩).i) {x' y' : Int} {j : Bool} (hj : Vd x' y' j) (ej : ptOf x' y' j = sumP L L.length)
    {a : Option Addr} {g o cap : Nat} (ha : L = [] ∨ a = some ⟨g, o, none⟩) (w : World) (hI : Pts w g o L) :
    Calls Tryd.prog 5 #[.slice a L.length cap] w fun e w' => e = .returned (.tuple #[.agg #[.int .u64 (l0 x'), .int .u64 (l1 x'), .int .u64 (l2 x'), .int .u64 (l3 x'), .int .u64 (l0 y'), .int .u64 (l1 y'), .int .u64 (l2 y'), .int .u64 (l3 y'), .bool j], .int .i64 0]) ∧ Below w.heap.size w w' := by
  have HL : Hid (L.length ≤ 2000000000000) := hl
  have HA : Hid (L = [] ∨ a = some ⟨g, o, none⟩) := ha
  have HV : Hid (∀ i, i < L.length → Vd (L.getD i ⟨0, 0, true⟩).x (L.getD i ⟨0, 0, true⟩).y (L.getD i ⟨0, 0, true⟩).i) := hV
  have HI : Hid (∀ W, Below w.heap.size w W → Pts W g o L) := fun W B => hI.keep B
  have HJ : Hid (Vd x' y' j ∧ ptOf x' y' j = sumP L L.length) := ⟨hj, ej⟩
  have ID : Hid (∀ w, Calls Tryd.prog 12 #[] w fun e w' => e = .returned (.agg #[.int .u64 (l0 0), .int .u64 (l1 0), .int .u64 (l2 0), .int .u64 (l3 0), .int .u64 (l0 0), .int .u64 (l1 0), .int .u64 (l2 0), .int .u64 (l3 0), .bool true]) ∧ Below w.heap.size w w') := fun w => r5identity_any w
  clear hl hV ha hI hj ej
  go_enter Tryd.func5, Tryd.ntmps5
  go_wp2_with fail
  refine wp_world (fun W => Below w.heap.size w W ∧ Bk9 W w.heap.size) ⟨by repeat (first | with_reducible exact Below.refl _ _ | with_reducible refine Below.alloc ?_ (by first | omega | (simp; done) | (simp; omega)) _), Bk9.new (by simp)⟩ ?_
  rintro W ⟨B, hR⟩
  go_loopg [4] L.length (fun k iv wr => ∃ i : Nat, k = L.length - i ∧ i ≤ L.length ∧ iv = .int .i64 (i : Int) ∧ Below w.heap.size w wr ∧ Bk9 wr w.heap.size)
  case atStart => exact ⟨0, rfl, Nat.zero_le _, rfl, B, hR⟩
  case round =>
    clear B hR W
    obtain ⟨i, hk, hi, rfl, B, hR⟩ := hrel
    have HK : Hid (gk = L.length - i ∧ i ≤ L.length) := ⟨hk, hi⟩
    clear hk
    by_cases hz : i = L.length
    · subst hz
      clear HK
      go_wp2_with fail
      with_reducible refine (ID.out wr).mono ?_
      rintro e w1 ⟨rfl, hb⟩
      replace B := B.trans (hb.mono B.size)
      replace hR := hR.keep hb
      clear hb
      go_wp2_with fail
      refine wp_world (fun W => Below w.heap.size w W ∧ Bk9 W w.heap.size ∧ PvS W w1.heap.size 0 0 true) ⟨B.alloc B.size _, hR.alloc _, PvS.new rfl⟩ ?_
      have n1 : w.heap.size < w1.heap.size := hR.lt
      clear B hR
      rintro W ⟨B, hR, hS⟩
      generalize w1.heap.size = bs at *
      clear w1
      go_loopg [7] L.length (fun k iv wr => ∃ i : Nat, k = L.length - i ∧ i ≤ L.length ∧ iv = .int .i64 (i : Int) ∧ Below w.heap.size w wr ∧ Bk9 wr w.heap.size ∧ ∃ x y b, Vd x y b ∧ ptOf x y b = sumP L i ∧ PvS wr bs x y b)
      case atStart => exact ⟨0, rfl, Nat.zero_le _, rfl, B, hR, 0, 0, true, ⟨rfl, rfl⟩, rfl, hS⟩
      case round =>
        clear B hR hS W
        obtain ⟨i, hk, hi, rfl, B, hR, x, y, b, vd, es, hS⟩ := hrel
        have HK : Hid (gk = L.length - i ∧ i ≤ L.length) := ⟨hk, hi⟩
        clear hk
        by_cases hz : i = L.length
        · subst hz
          obtain ⟨rfl, rfl, rfl⟩ := vd.inj HJ.out.1 (es.trans HJ.out.2.symm)
          clear HK vd es
          have o3 : w.heap.size ≤ w.heap.size := Nat.le_refl _
          have gS := hS.1.cells
          have gR := hR.cells; have fR := hR.free
          go_wp2
          simp [bodyPost, results, Tryd.results5, go_sem, gR]
          repeat (first | with_reducible exact B | with_reducible refine Below.setCell ?_ o3 _)
        · have hlt : i < L.length := by omega
          obtain rfl : a = some ⟨g, o, none⟩ := by
            rcases HA.out with h | h
            · rw [h] at hlt; simp at hlt
            · exact h
          have hi6 : (i : Int) < 2000000000000 := by have := HL.out; omega
          have vq := HV.out i hlt
          have on2 : EC.On (sumP L (i + 1)) := sumP_on HV.out (i + 1) (by omega)
          obtain ⟨x2, y2, b2, v2, e2⟩ := rep_pt on2
          have PL : Hid (∀ w, Calls Tryd.prog 13 #[.agg #[.int .u64 (l0 x), .int .u64 (l1 x), .int .u64 (l2 x), .int .u64 (l3 x), .int .u64 (l0 y), .int .u64 (l1 y), .int .u64 (l2 y), .int .u64 (l3 y), .bool b], .agg #[.int .u64 (l0 (L.getD i ⟨0, 0, true⟩).x), .int .u64 (l1 (L.getD i ⟨0, 0, true⟩).x), .int .u64 (l2 (L.getD i ⟨0, 0, true⟩).x), .int .u64 (l3 (L.getD i ⟨0, 0, true⟩).x), .int .u64 (l0 (L.getD i ⟨0, 0, true⟩).y), .int .u64 (l1 (L.getD i ⟨0, 0, true⟩).y), .int .u64 (l2 (L.getD i ⟨0, 0, true⟩).y), .int .u64 (l3 (L.getD i ⟨0, 0, true⟩).y), .bool (L.getD i ⟨0, 0, true⟩).i]] w fun e w' => e = .returned (.agg #[.int .u64 (l0 x2), .int .u64 (l1 x2), .int .u64 (l2 x2), .int .u64 (l3 x2), .int .u64 (l0 y2), .int .u64 (l1 y2), .int .u64 (l2 y2), .int .u64 (l3 y2), .bool b2]) ∧ Below w.heap.size w w') := r5plus_any vd vq v2 (by rw [e2, es]; rfl)
          have HE : Hid (Vd x2 y2 b2 ∧ ptOf x2 y2 b2 = sumP L (i + 1)) := ⟨v2, e2⟩
          have PG : ∀ d os, Pts (grow (redrawn wr d) os) g o L := fun d os => HI.out _ (B.trans ((below_regrown wr d os).mono B.size))
          have gI := fun d os => PG d os i hlt
          have gg : Hid (g ≠ bs) := fun e => by
            have h0 := (HI.out w (Below.refl _ _) i hlt).1
            have := World.block_lt_of_cell? w _ h0
            rw [e] at this
            have : bs < w.heap.size := this
            omega
          clear hi vq vd v2 e2 es on2 hz PG
          generalize (L.getD i ⟨0, 0, true⟩) = pq at gI PL
          obtain ⟨qx, qy, qi⟩ := pq
          simp only at gI PL
          have gS := hS.1.grown
          go_wp2_with fail
          refine below_tail 6 (by kernel_rfl) (by kernel_rfl) ?_
          simp only [List.take_succ_cons, List.take_zero, List.drop_succ_cons, List.drop_zero]
          repeat
            first
              | go_big_quiet_skip
              | (go_big_quiet_want; go_big_quiet_op; go_big_quiet_on)
              | (go_big_quiet_want
                 go_big_quiet_op
                 apply Exists.intro
                 refine ⟨fun p => ?_, ?_⟩
                 · (go_at_call 13; with_reducible exact Calls.regrown_of (PL.out _))
                 go_big_quiet_on)
          refine wpQuiet_nil ?_
          rintro w2 ⟨p, rfl⟩
          have hb := below_regrown wr p.d p.os
          generalize grow (redrawn wr p.d) p.os = w2 at *
          replace B := B.trans (hb.mono B.size)
          replace hR := hR.keep hb
          replace hS := hS.keep hb
          clear hb gS gI PL
          have gS := hS.1.cells; have fS := hS.free
          go_wp2
          go_roundg (L.length - (i + 1))
          case measure => have := HK.out.1; omega
          case rel => exact ⟨i + 1, rfl, hlt, by go_num, below_put9 B (by omega), hR.put9S (by omega), x2, y2, b2, HE.out.1, HE.out.2, hS.put9 x2 y2 b2⟩
    · have hlt : i < L.length := by omega
      obtain rfl : a = some ⟨g, o, none⟩ := by
        rcases HA.out with h | h
        · rw [h] at hlt; simp at hlt
        · exact h
      have gI := HI.out wr B i hlt
      have hi6 : (i : Int) < 2000000000000 := by have := HL.out; omega
      have vq := HV.out i hlt
      have ON : Hid (∀ w, Calls Tryd.prog 11 #[.agg #[.int .u64 (l0 (L.getD i ⟨0, 0, true⟩).x), .int .u64 (l1 (L.getD i ⟨0, 0, true⟩).x), .int .u64 (l2 (L.getD i ⟨0, 0, true⟩).x), .int .u64 (l3 (L.getD i ⟨0, 0, true⟩).x), .int .u64 (l0 (L.getD i ⟨0, 0, true⟩).y), .int .u64 (l1 (L.getD i ⟨0, 0, true⟩).y), .int .u64 (l2 (L.getD i ⟨0, 0, true⟩).y), .int .u64 (l3 (L.getD i ⟨0, 0, true⟩).y), .bool (L.getD i ⟨0, 0, true⟩).i]] w fun e w' => e = .returned (.bool true) ∧ Below w.heap.size w w') := fun w => by
        have := r5on_any (i := (L.getD i ⟨0, 0, true⟩).i) vq.low.1.num vq.low.2.num w
        rw [decide_eq_true vq] at this; exact this
      clear hi vq hz
      generalize (L.getD i ⟨0, 0, true⟩) = pq at gI ON
      obtain ⟨qx, qy, qi⟩ := pq
      simp only at gI ON
      go_wp2_with fail
      with_reducible refine (ON.out _).mono ?_
      rintro e w1 ⟨rfl, hb⟩
      replace B := B.trans (hb.mono B.size)
      replace hR := hR.keep hb
      clear hb gI
      go_wp2
      go_roundg (L.length - (i + 1))
      case measure => have := HK.out.1; omega
      case rel => exact ⟨i + 1, rfl, hlt, by go_num, B, hR⟩
end Go.Proofs.YtgedkdkaddcmmaaDoor
