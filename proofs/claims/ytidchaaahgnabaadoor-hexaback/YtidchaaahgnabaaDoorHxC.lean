import Derived.Test.YtidchaaahgnabaaDoorHxB
import Derived.Test.YtidchaaahgnabaaDoorQTail
namespace Go.Proofs.YtidchaaahgnabaaDoor
open Go.RowKit

/-- Four numbers in a block. -/
def Qd (W : World) (b : Nat) (C : List Int) : Prop := ∀ j, j < 4 → W.cell? ⟨b, j, none⟩ = some (.int .u64 (C.getD j 0)) ∧ W.frozen? ⟨b, j, none⟩ = false
theorem cellK {W w1 : World} {p : Addr} {v : Value} (hb : Below W.heap.size W w1) (h : W.cell? p = some v) : w1.cell? p = some v := by
  rw [hb.cell (p := p) (World.block_lt_of_cell? W _ h)]; exact h
theorem Qd.keep {W W' : World} {b : Nat} {C : List Int} (h : Qd W b C) (hb : Below W.heap.size W W') : Qd W' b C := fun j hj => by
  obtain ⟨c, f⟩ := h j hj
  have hl := World.block_lt_of_cell? W _ c
  exact ⟨by rw [hb.cell (p := ⟨b, j, none⟩) hl]; exact c, by rw [hb.frozen (p := ⟨b, j, none⟩) hl]; exact f⟩
theorem Qd.newb (w : World) (t : TypeId) : Qd (w.alloc (.cells #[.int .u64 0, .int .u64 0, .int .u64 0, .int .u64 0] t)) w.heap.size [0, 0, 0, 0] := fun j hj => by
  have : j = 0 ∨ j = 1 ∨ j = 2 ∨ j = 3 := by omega
  rcases this with rfl | rfl | rfl | rfl
  all_goals exact ⟨by simp [go_sem], by simp [go_sem]⟩
theorem Qd.alloc {W : World} {b : Nat} {C : List Int} (h : Qd W b C) (o : Obj) : Qd (W.alloc o) b C := h.keep ((Below.refl _ _).alloc (Nat.le_refl _) o)
theorem Qd.set {W : World} {b j : Nat} {C : List Int} {v : Int} (h : Qd W b C) (hj : j < 4) (hl : C.length = 4) : Qd (W.setCell ⟨b, j, none⟩ (.int .u64 v)) b (C.set j v) := fun i hi => by
  obtain ⟨c, f⟩ := h i hi
  refine ⟨?_, by simpa using f⟩
  by_cases e : i = j
  · subst e
    rw [World.cell?_setCell_same' _ _ _ (by rw [c]; rfl), List.getD, List.getElem?_set_self (by omega)]
    rfl
  · rw [World.cell?_setCell_other _ _ _ _ (fun x => e (by cases x; rfl)), c, List.getD, List.getD, List.getElem?_set_ne (by omega)]
theorem Qd.other {W : World} {b b' j : Nat} {C : List Int} {v : Value} (h : Qd W b C) (hb : b ≠ b') : Qd (W.setCell ⟨b', j, none⟩ v) b C := fun i hi => by
  obtain ⟨c, f⟩ := h i hi
  exact ⟨by rw [World.cell?_setCell_other _ _ _ _ (fun x => hb (congrArg Addr.block x).symm)]; exact c, by simpa using f⟩
theorem pow_le60 : ∀ r : Nat, r < 16 → (2 : Int) ^ (4 * r) ≤ 1152921504606846976 ∧ 1 ≤ (2 : Int) ^ (4 * r) := by decide
theorem dig_wrap {d : Int} {r : Nat} (h0 : 0 ≤ d) (h1 : d ≤ 15) (hr : r < 16) : IntKind.u64.wrap (d * 2 ^ (4 * r)) = d * 2 ^ (4 * r) := by
  obtain ⟨p, q⟩ := pow_le60 r hr
  generalize (2 : Int) ^ (4 * r) = x at *
  have a : d * x ≤ 15 * 1152921504606846976 := Int.mul_le_mul h1 p (by omega) (by omega)
  have b : 0 ≤ d * x := Int.mul_nonneg h0 (by omega)
  rw [IntKind.wrap_u64]
  exact Int.emod_eq_of_lt b (by omega)
/-- The limbs when i digits of a tail have been laid in. -/
def qs (t : ByteArray) : Nat → List Int
  | 0 => [0, 0, 0, 0]
  | i + 1 => (qs t i).set ((t.size - 1 - i) / 16) (bits .or .u64 ((qs t i).getD ((t.size - 1 - i) / 16) 0) (dv (bt t i) * 2 ^ (4 * ((t.size - 1 - i) % 16))))
theorem qs_len (t : ByteArray) : ∀ i, (qs t i).length = 4
  | 0 => rfl
  | i + 1 => by unfold qs; rw [List.length_set]; exact qs_len t i

/-- Four limbs as a value. -/
def lim4 (C : List Int) : Value := .agg #[.int .u64 (C.getD 0 0), .int .u64 (C.getD 1 0), .int .u64 (C.getD 2 0), .int .u64 (C.getD 3 0)]
def zero4 : Value := .agg #[.int .u64 0, .int .u64 0, .int .u64 0, .int .u64 0]
set_option maxRecDepth 100000 in
theorem quan_no {s : ByteArray} {m : Int} (hs : s.size < 140737488355328) (h : ¬ okP s) (w : World) :
    Calls Tryd.prog 44 #[.string s, .int .i64 m] w fun e w' => e = .returned (.tuple #[zero4, .int .i64 80]) ∧ Below w.heap.size w w' := by
  have ht := tailOf_no hs h
  unfold zero4
  go_enter Tryd.func44, Tryd.ntmps44
  go_wp2_with ((with_reducible refine (ht _).mono ?_); rintro e1 w1 ⟨rfl, rfl⟩)
  simp [bodyPost, results, Tryd.results44, go_sem]
  exact (Below.refl _ _).alloc (Nat.le_refl _) _
set_option maxRecDepth 100000 in
theorem quan_none {s : ByteArray} {m : Int} (hs : s.size < 140737488355328) (h : okP s) (h0 : (tl s).size = 0) (w : World) :
    Calls Tryd.prog 44 #[.string s, .int .i64 m] w fun e w' => e = .returned (.tuple #[zero4, .int .i64 80]) ∧ Below w.heap.size w w' := by
  have ht := tailOf_yes hs h
  clear h hs
  generalize tl s = t at *
  have q0 : ((t.size : Int) == 0) = true := by simp [h0]
  unfold zero4
  go_enter Tryd.func44, Tryd.ntmps44
  go_wp2_with ((with_reducible refine (ht _).mono ?_); rintro e1 w1 ⟨rfl, rfl⟩)
  simp [bodyPost, results, Tryd.results44, go_sem]
  exact (Below.refl _ _).alloc (Nat.le_refl _) _
set_option maxRecDepth 100000 in
theorem quan_zero {s : ByteArray} {m : Int} (hs : s.size < 140737488355328) (h : okP s) (h0 : 1 < (tl s).size) (hz : bt (tl s) 0 = 48) (w : World) :
    Calls Tryd.prog 44 #[.string s, .int .i64 m] w fun e w' => e = .returned (.tuple #[zero4, .int .i64 82]) ∧ Below w.heap.size w w' := by
  have ht := tailOf_yes hs h
  clear h hs
  generalize tl s = t at *
  have q0 : ((t.size : Int) == 0) = false := by rw [beq_eq_false_iff_ne]; omega
  have q1 : (1 : Int) < (t.size : Int) := by omega
  have q3 : 0 < t.size := by omega
  have q2 : (((t[0]'q3).toNat : Int) == 48) = true := by rw [bt_get]; simp [hz]
  clear h0 hz
  unfold zero4
  go_enter Tryd.func44, Tryd.ntmps44
  go_wp2_with ((with_reducible refine (ht _).mono ?_); rintro e1 w1 ⟨rfl, rfl⟩)
  simp [bodyPost, results, Tryd.results44, go_sem]
  exact (Below.refl _ _).alloc (Nat.le_refl _) _
set_option maxRecDepth 100000 in
theorem quan_wide {s : ByteArray} {m : Nat} (hs : s.size < 140737488355328) (h : okP s) (h0 : m < (tl s).size) (h1 : 1 ≤ m) (hz : bt (tl s) 0 ≠ 48) (w : World) :
    Calls Tryd.prog 44 #[.string s, .int .i64 m] w fun e w' => e = .returned (.tuple #[zero4, .int .i64 83]) ∧ Below w.heap.size w w' := by
  have ht := tailOf_yes hs h
  clear h hs
  generalize tl s = t at *
  have q0 : ((t.size : Int) == 0) = false := by rw [beq_eq_false_iff_ne]; omega
  have q1 : (1 : Int) < (t.size : Int) := by omega
  have q3 : 0 < t.size := by omega
  have q2 : (((t[0]'q3).toNat : Int) == 48) = false := by rw [bt_get]; simp [hz]
  clear hz
  unfold zero4
  go_enter Tryd.func44, Tryd.ntmps44
  go_wp2_with ((with_reducible refine (ht _).mono ?_); rintro e1 w1 ⟨rfl, rfl⟩)
  simp [bodyPost, results, Tryd.results44, go_sem]
  exact (Below.refl _ _).alloc (Nat.le_refl _) _
set_option maxRecDepth 100000 in
set_option maxHeartbeats 4000000 in
theorem quan_ok {s : ByteArray} {m : Nat} (hs : s.size < 140737488355328) (h : okP s) (h0 : (tl s).size ≠ 0) (hz : ¬ (1 < (tl s).size ∧ bt (tl s) 0 = 48)) (hw : (tl s).size ≤ m) (hm : m ≤ 64) (w : World) :
    Calls Tryd.prog 44 #[.string s, .int .i64 m] w fun e w' => e = .returned (.tuple #[lim4 (qs (tl s) (tl s).size), .int .i64 0]) ∧ Below w.heap.size w w' := by
  have ht := tailOf_yes hs h
  have hd := h.2.2
  clear h hs
  generalize tl s = t at *
  have q0 : ((t.size : Int) == 0) = false := by simpa using h0
  have two : (¬ (1 : Int) < (t.size : Int)) ∨ ((1 : Int) < (t.size : Int) ∧ ∃ q3 : 0 < t.size, (((t[0]'q3).toNat : Int) == 48) = false) := by
    by_cases h1 : 1 < t.size
    · exact .inr ⟨by omega, by omega, by rw [bt_get]; simpa using fun e => hz ⟨h1, e⟩⟩
    · exact .inl (by omega)
  have q4 : ¬ m < t.size := by omega
  have HA : Hid (dgs t ∧ t.size ≤ 64) := ⟨hd, by omega⟩
  clear h0 hz hw hm hd
  rcases two with q1 | ⟨q1, q3, q2⟩
  all_goals (
   go_enter Tryd.func44, Tryd.ntmps44
   go_wp2_with ((with_reducible refine (ht _).mono ?_); rintro e1 w1 ⟨rfl, rfl⟩)
   clear ht q0 q1 q4
   go_loopg [43] t.size (fun k iv wr => ∃ i : Nat, k = t.size - i ∧ i ≤ t.size ∧ iv = .int .i64 (i : Int) ∧ Qd wr w.heap.size [0, 0, 0, 0] ∧ Qd wr (w.heap.size + 1) (qs t i) ∧ Below w.heap.size w wr)
   case atStart => exact ⟨0, rfl, Nat.zero_le _, rfl, (Qd.newb _ _).alloc _, by have := Qd.newb (w.alloc (.cells #[.int .u64 0, .int .u64 0, .int .u64 0, .int .u64 0] 34)) 34; simpa [qs] using this, ((Below.refl _ _).alloc (Nat.le_refl _) _).alloc (by simp) _⟩
   case round =>
    obtain ⟨i, hk, hi, rfl, hR, hQ, B⟩ := hrel
    have HK : Hid (gk = t.size - i) := hk
    clear hk
    by_cases h8 : i = t.size
    · subst h8
      have hlt : ¬ t.size < t.size := by omega
      obtain ⟨c0, f0⟩ := hQ 0 (by omega); obtain ⟨c1, f1⟩ := hQ 1 (by omega); obtain ⟨c2, f2⟩ := hQ 2 (by omega); obtain ⟨c3, f3⟩ := hQ 3 (by omega)
      obtain ⟨d0, g0⟩ := hR 0 (by omega); obtain ⟨d1, g1⟩ := hR 1 (by omega); obtain ⟨d2, g2⟩ := hR 2 (by omega); obtain ⟨d3, g3⟩ := hR 3 (by omega)
      have bl := World.block_lt_of_cell? _ _ d0
      clear hR hQ hi
      obtain ⟨C0, HC0⟩ : ∃ x, Hid (x = (qs t t.size).getD 0 0) := ⟨_, rfl⟩
      obtain ⟨C1, HC1⟩ : ∃ x, Hid (x = (qs t t.size).getD 1 0) := ⟨_, rfl⟩
      obtain ⟨C2, HC2⟩ : ∃ x, Hid (x = (qs t t.size).getD 2 0) := ⟨_, rfl⟩
      obtain ⟨C3, HC3⟩ : ∃ x, Hid (x = (qs t t.size).getD 3 0) := ⟨_, rfl⟩
      rw [← HC0.out] at c0; rw [← HC1.out] at c1; rw [← HC2.out] at c2; rw [← HC3.out] at c3
      have HL : Hid (lim4 (qs t t.size) = .agg #[.int .u64 C0, .int .u64 C1, .int .u64 C2, .int .u64 C3]) := by rw [HC0.out, HC1.out, HC2.out, HC3.out]; exact rfl
      clear HC0 HC1 HC2 HC3
      go_wp2
      simp [bodyPost, results, Tryd.results44, go_sem, HL.out, d0, d1, d2, d3]
      have o3 : w.heap.size ≤ w.heap.size := Nat.le_refl _
      repeat (first | with_reducible exact B | with_reducible refine Below.setCell ?_ o3 _)
    · have hlt : i < t.size := by omega
      obtain ⟨k, ek⟩ : ∃ k : Nat, k = t.size - 1 - i := ⟨_, rfl⟩
      have k64 : k < 64 := by have := HA.out.2; omega
      have k64' : (k : Int) < 64 := by omega
      have e0 : (t.size : Int) - 1 - (i : Int) = (k : Int) := by omega
      have n64 : (t.size : Int) ≤ 64 := by have := HA.out.2; omega
      have n1 : 1 ≤ (t.size : Int) := by omega
      have i64 : (i : Int) < 64 := by omega
      have e1 : ((4 * (k : Int)) / 64).toNat = k / 16 := by omega
      have e2 : ((4 * (k : Int)) % 64).toNat = 4 * (k % 16) := by omega
      obtain ⟨cQ, fQ⟩ := hQ (k / 16) (by omega)
      have hx := value_any (HA.out.1 i hlt)
      have hsz : i < t.size := hlt
      rw [← bt_get t i hsz] at hx
      have hx' : ∀ w, Calls Tryd.prog 51 #[.int .u8 ((t[i]'hsz).toNat : Int)] w fun e w' => e = .returned (.int .u8 (dv ((t[i]'hsz).toNat : Int))) ∧ Below w.heap.size w w' := fun w => (hx w).mono fun e w' ⟨h1, h2⟩ => ⟨h1, by rw [h2]; exact Below.refl _ _⟩
      have ldY : ∀ d os, (Sort.grow (redrawn wr d) os).cell? ⟨w.heap.size + 1, k / 16, none⟩ = some (.int .u64 ((qs t i).getD (k / 16) 0)) := fun d os => cellK (below_regrown wr d os) cQ
      obtain ⟨v0, v1⟩ : 0 ≤ dv ((t[i]'hsz).toNat : Int) ∧ dv ((t[i]'hsz).toNat : Int) ≤ 15 := ⟨by rw [bt_get]; exact HA.out.1 i hlt, (dv_low _).2⟩
      have HV : Hid (dv ((t[i]'hsz).toNat : Int) = dv (bt t i)) := by rw [bt_get]; exact rfl
      have HQ : Hid (Qd wr w.heap.size [0, 0, 0, 0] ∧ Qd wr (w.heap.size + 1) (qs t i) ∧ Below w.heap.size w wr) := ⟨hR, hQ, B⟩
      have HS : Hid (k = t.size - 1 - i) := ek
      clear hx hR hQ B ek cQ fQ
      obtain ⟨C, HC⟩ : ∃ x, Hid (x = (qs t i).getD (k / 16) 0) := ⟨_, rfl⟩
      rw [← HC.out] at ldY
      go_wp2_with fail
      refine below_tail 14 (by kernel_rfl) (by kernel_rfl) ?_
      simp only [List.take_succ_cons, List.take_zero, List.drop_succ_cons, List.drop_zero]
      repeat
        first
          | go_big_quiet_skip
          | (go_big_quiet_want; go_big_quiet_op; go_big_quiet_on)
          | (go_big_quiet_want
             go_big_quiet_op
             apply Exists.intro
             refine ⟨fun p => ?_, ?_⟩
             · (first | (go_at_call 51; with_reducible exact Calls.regrown_of (hx' _)))
             go_big_quiet_on)
      refine wpQuiet_nil ?_
      rintro w2 ⟨p, rfl⟩
      have hb := below_regrown wr p.d p.os
      have hR := HQ.out.1.keep hb
      have hQ := HQ.out.2.1.keep hb
      have B := HQ.out.2.2.trans (hb.mono HQ.out.2.2.size)
      clear hb ldY HQ
      generalize Sort.grow (redrawn wr p.d) p.os = w2 at *
      obtain ⟨cQ, fQ⟩ := hQ (k / 16) (by omega)
      go_wp2
      have hS : qs t (i + 1) = (qs t i).set (k / 16) (bits .or .u64 C (IntKind.u64.wrap (dv ((t[i]'hsz).toNat : Int) * 2 ^ (4 * (k % 16))))) := by
        rw [dig_wrap v0 v1 (Nat.mod_lt _ (by decide)), HV.out, HC.out, HS.out, qs]
      go_roundg (t.size - (i + 1))
      case measure => have := HK.out; omega
      case rel => exact ⟨i + 1, rfl, by omega, by rw [Int.natCast_add]; rfl, hR.other (by omega), by rw [hS]; exact hQ.set (by omega) (qs_len t i), B.setCell (by simp) _⟩)
end Go.Proofs.YtidchaaahgnabaaDoor
