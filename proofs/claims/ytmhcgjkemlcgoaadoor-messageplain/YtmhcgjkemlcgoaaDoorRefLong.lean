import Derived.Test.YtmhcgjkemlcgoaaDoorRefTwice
import Derived.Test.YtmhcgjkemlcgoaaDoorRefLongNum
import Derived.Test.YtmhcgjkemlcgoaaDoorReduce
import Derived.Deep.RegionHeld3
namespace Go.Proofs.YtmhcgjkemlcgoaaDoor
open Go.RowKit Go.Sort

theorem Blank.zero {W : World} {b : Nat} (h : Blank W b) : Var W b 0 := by
  obtain ⟨z0, z1, z2, z3⟩ := zero_limbs
  refine ⟨Row.hold ?_, h.2⟩
  rw [z0, z1, z2, z3]
  exact h.1

def Apart (b : Nat) (l : List Nat) : Prop := ∀ x ∈ l, b ≠ x

structure St (w W : World) (b0 bl bm e1 e2 e3 b1 b2 bv : Nat) (h l m Q1 Q0 R : Int) : Prop where
  B : Below w.heap.size w W
  hh : Hold W b0 h
  hl : Hold W bl l
  hm : Hold W bm m
  z1 : Blank W e1
  z2 : Blank W e2
  z3 : Blank W e3
  q1 : Var W b1 Q1
  q0 : Var W b2 Q0
  r : Var W bv R

theorem St.keep {w W : World} {b0 bl bm e1 e2 e3 b1 b2 bv : Nat} {h l m Q1 Q0 R : Int} (s : St w W b0 bl bm e1 e2 e3 b1 b2 bv h l m Q1 Q0 R) {w1 : World} (hb : Below W.heap.size W w1) : St w w1 b0 bl bm e1 e2 e3 b1 b2 bv h l m Q1 Q0 R := ⟨s.B.trans (hb.mono s.B.size), s.hh.keep hb, s.hl.keep hb, s.hm.keep hb, s.z1.keep hb, s.z2.keep hb, s.z3.keep hb, s.q1.keep hb, s.q0.keep hb, s.r.keep hb⟩
theorem St.alloc {w W : World} {b0 bl bm e1 e2 e3 b1 b2 bv : Nat} {h l m Q1 Q0 R : Int} (s : St w W b0 bl bm e1 e2 e3 b1 b2 bv h l m Q1 Q0 R) (o : Obj) : St w (W.alloc o) b0 bl bm e1 e2 e3 b1 b2 bv h l m Q1 Q0 R := ⟨s.B.alloc s.B.size o, s.hh.alloc o, s.hl.alloc o, s.hm.alloc o, s.z1.alloc o, s.z2.alloc o, s.z3.alloc o, s.q1.alloc o, s.q0.alloc o, s.r.alloc o⟩
theorem St.setR {w W : World} {b0 bl bm e1 e2 e3 b1 b2 bv : Nat} {h l m Q1 Q0 R : Int} (s : St w W b0 bl bm e1 e2 e3 b1 b2 bv h l m Q1 Q0 R) (ne : Apart bv [b0, bl, bm, e1, e2, e3, b1, b2]) (le : w.heap.size ≤ bv) (k : Int) : St w ((((W.setCell ⟨bv, 0, none⟩ (.int .u64 (l0 k))).setCell ⟨bv, 1, none⟩ (.int .u64 (l1 k))).setCell ⟨bv, 2, none⟩ (.int .u64 (l2 k))).setCell ⟨bv, 3, none⟩ (.int .u64 (l3 k))) b0 bl bm e1 e2 e3 b1 b2 bv h l m Q1 Q0 k := ⟨below_set4 s.B le _ _ _ _, s.hh.set4 (ne b0 (by simp)) _ _ _ _, s.hl.set4 (ne bl (by simp)) _ _ _ _, s.hm.set4 (ne bm (by simp)) _ _ _ _, s.z1.set4 (ne e1 (by simp)) _ _ _ _, s.z2.set4 (ne e2 (by simp)) _ _ _ _, s.z3.set4 (ne e3 (by simp)) _ _ _ _, s.q1.set4 (ne b1 (by simp)) _ _ _ _, s.q0.set4 (ne b2 (by simp)) _ _ _ _, s.r.sets k⟩
theorem St.setQ1 {w W : World} {b0 bl bm e1 e2 e3 b1 b2 bv : Nat} {h l m Q1 Q0 R : Int} (s : St w W b0 bl bm e1 e2 e3 b1 b2 bv h l m Q1 Q0 R) (ne : Apart b1 [b0, bl, bm, e1, e2, e3, b2, bv]) (le : w.heap.size ≤ b1) (k : Int) : St w ((((W.setCell ⟨b1, 0, none⟩ (.int .u64 (l0 k))).setCell ⟨b1, 1, none⟩ (.int .u64 (l1 k))).setCell ⟨b1, 2, none⟩ (.int .u64 (l2 k))).setCell ⟨b1, 3, none⟩ (.int .u64 (l3 k))) b0 bl bm e1 e2 e3 b1 b2 bv h l m k Q0 R := ⟨below_set4 s.B le _ _ _ _, s.hh.set4 (ne b0 (by simp)) _ _ _ _, s.hl.set4 (ne bl (by simp)) _ _ _ _, s.hm.set4 (ne bm (by simp)) _ _ _ _, s.z1.set4 (ne e1 (by simp)) _ _ _ _, s.z2.set4 (ne e2 (by simp)) _ _ _ _, s.z3.set4 (ne e3 (by simp)) _ _ _ _, s.q1.sets k, s.q0.set4 (ne b2 (by simp)) _ _ _ _, s.r.set4 (ne bv (by simp)) _ _ _ _⟩
theorem St.setQ0 {w W : World} {b0 bl bm e1 e2 e3 b1 b2 bv : Nat} {h l m Q1 Q0 R : Int} (s : St w W b0 bl bm e1 e2 e3 b1 b2 bv h l m Q1 Q0 R) (ne : Apart b2 [b0, bl, bm, e1, e2, e3, b1, bv]) (le : w.heap.size ≤ b2) (k : Int) : St w ((((W.setCell ⟨b2, 0, none⟩ (.int .u64 (l0 k))).setCell ⟨b2, 1, none⟩ (.int .u64 (l1 k))).setCell ⟨b2, 2, none⟩ (.int .u64 (l2 k))).setCell ⟨b2, 3, none⟩ (.int .u64 (l3 k))) b0 bl bm e1 e2 e3 b1 b2 bv h l m Q1 k R := ⟨below_set4 s.B le _ _ _ _, s.hh.set4 (ne b0 (by simp)) _ _ _ _, s.hl.set4 (ne bl (by simp)) _ _ _ _, s.hm.set4 (ne bm (by simp)) _ _ _ _, s.z1.set4 (ne e1 (by simp)) _ _ _ _, s.z2.set4 (ne e2 (by simp)) _ _ _ _, s.z3.set4 (ne e3 (by simp)) _ _ _ _, s.q1.set4 (ne b1 (by simp)) _ _ _ _, s.q0.sets k, s.r.set4 (ne bv (by simp)) _ _ _ _⟩

theorem twice_any {n b : Int} (hn : Num n) (hb : b = 0 ∨ b = 1) (w : World) :
    Calls Tryd.prog 36 #[.agg #[.int .u64 (l0 n), .int .u64 (l1 n), .int .u64 (l2 n), .int .u64 (l3 n)], .int .i64 b] w fun e w' => e = .returned (.tuple #[.agg #[.int .u64 (l0 (sumN n n + b)), .int .u64 (l1 (sumN n n + b)), .int .u64 (l2 (sumN n n + b)), .int .u64 (l3 (sumN n n + b))], .int .u64 (carN n n)]) ∧ Below w.heap.size w w' := by
  rcases hb with rfl | rfl
  · rw [Int.add_zero]; exact twice_0 hn w
  · exact twice_1 hn w

theorem long_nums {R m b : Int} (hm : Num m) (r0 : 0 ≤ R) (r1 : R < m) (b0 : 0 ≤ b) (b1 : b ≤ 1) :
    Num (sumN R R + b) ∧ (2 * R + b < m → sumN R R + b = 2 * R + b ∧ carN R R = 0 ∧ cmpN (sumN R R + b) m = -1) ∧
    (m ≤ 2 * R + b → difN (sumN R R + b) m = 2 * R + b - m ∧ (carN R R = 1 ∨ (carN R R = 0 ∧ (cmpN (sumN R R + b) m = 0 ∨ cmpN (sumN R R + b) m = 1)))) := by
  obtain ⟨_, _⟩ := hm
  unfold Num cmpN
  refine ⟨⟨by unfold sumN; omega, by unfold sumN; omega⟩, fun lt => ?_, fun ge => ?_⟩
  · have e : sumN R R + b = 2 * R + b := by unfold sumN; omega
    refine ⟨e, by unfold carN; omega, ?_⟩
    rw [e, if_neg (by omega), if_pos lt]
  · refine ⟨by unfold difN sumN; omega, ?_⟩
    by_cases c : carN R R = 1
    · exact .inl c
    · have c0 : carN R R = 0 := by unfold carN at *; omega
      have e : sumN R R + b = 2 * R + b := by unfold sumN carN at *; omega
      refine .inr ⟨c0, ?_⟩
      rw [e]
      by_cases q : 2 * R + b = m
      · left; rw [if_pos q]
      · right; rw [if_neg q, if_neg (by omega)]

set_option maxRecDepth 100000 in
set_option maxHeartbeats 8000000 in
theorem long_any {h l m : Int} (hh : Num h) (hl : Num l) (hm : Num m) (hz : m ≠ 0) (w : World) :
    Calls Tryd.prog 24 #[.agg #[.int .u64 (l0 h), .int .u64 (l1 h), .int .u64 (l2 h), .int .u64 (l3 h)], .agg #[.int .u64 (l0 l), .int .u64 (l1 l), .int .u64 (l2 l), .int .u64 (l3 l)], .agg #[.int .u64 (l0 m), .int .u64 (l1 m), .int .u64 (l2 m), .int .u64 (l3 m)]] w fun e w' => e = .returned (.tuple #[.agg #[.int .u64 (l0 ((l + h * 115792089237316195423570985008687907853269984665640564039457584007913129639936) / m / 115792089237316195423570985008687907853269984665640564039457584007913129639936)), .int .u64 (l1 ((l + h * 115792089237316195423570985008687907853269984665640564039457584007913129639936) / m / 115792089237316195423570985008687907853269984665640564039457584007913129639936)), .int .u64 (l2 ((l + h * 115792089237316195423570985008687907853269984665640564039457584007913129639936) / m / 115792089237316195423570985008687907853269984665640564039457584007913129639936)), .int .u64 (l3 ((l + h * 115792089237316195423570985008687907853269984665640564039457584007913129639936) / m / 115792089237316195423570985008687907853269984665640564039457584007913129639936))], .agg #[.int .u64 (l0 ((l + h * 115792089237316195423570985008687907853269984665640564039457584007913129639936) / m % 115792089237316195423570985008687907853269984665640564039457584007913129639936)), .int .u64 (l1 ((l + h * 115792089237316195423570985008687907853269984665640564039457584007913129639936) / m % 115792089237316195423570985008687907853269984665640564039457584007913129639936)), .int .u64 (l2 ((l + h * 115792089237316195423570985008687907853269984665640564039457584007913129639936) / m % 115792089237316195423570985008687907853269984665640564039457584007913129639936)), .int .u64 (l3 ((l + h * 115792089237316195423570985008687907853269984665640564039457584007913129639936) / m % 115792089237316195423570985008687907853269984665640564039457584007913129639936))], .agg #[.int .u64 (l0 ((l + h * 115792089237316195423570985008687907853269984665640564039457584007913129639936) % m)), .int .u64 (l1 ((l + h * 115792089237316195423570985008687907853269984665640564039457584007913129639936) % m)), .int .u64 (l2 ((l + h * 115792089237316195423570985008687907853269984665640564039457584007913129639936) % m)), .int .u64 (l3 ((l + h * 115792089237316195423570985008687907853269984665640564039457584007913129639936) % m))]]) ∧ Below w.heap.size w w' := by
  have m0 : 0 < m := by have := hm.1; omega
  have X0 : 0 ≤ (l + h * 115792089237316195423570985008687907853269984665640564039457584007913129639936) := by have := hl.1; have := Int.mul_nonneg hh.1 (show (0 : Int) ≤ 115792089237316195423570985008687907853269984665640564039457584007913129639936 by decide); omega
  have X1 : (l + h * 115792089237316195423570985008687907853269984665640564039457584007913129639936) < 115792089237316195423570985008687907853269984665640564039457584007913129639936 * 115792089237316195423570985008687907853269984665640564039457584007913129639936 := by have := hl.2; have := hh.2; omega
  have TB := fun i => two_bits (h := h) hl (i := i)
  generalize hX : (l + h * 115792089237316195423570985008687907853269984665640564039457584007913129639936) = X at *
  have z0 := zero_limbs
  go_enter Tryd.func24, Tryd.ntmps24
  go_wp2_with fail
  refine wp_world (fun W => St w W w.heap.size (w.heap.size + 1) (w.heap.size + 1 + 1) (w.heap.size + 1 + 1 + 1) (w.heap.size + 1 + 1 + 1 + 1) (w.heap.size + 1 + 1 + 1 + 1 + 1) (w.heap.size + 1 + 1 + 1 + 1 + 1 + 1) (w.heap.size + 1 + 1 + 1 + 1 + 1 + 1 + 1) (w.heap.size + 1 + 1 + 1 + 1 + 1 + 1 + 1 + 1) h l m 0 0 0) ⟨?_, ?_, ?_, ?_, ?_, ?_, ?_, ?_, ?_, ?_⟩ ?_
  · repeat (first | with_reducible exact Below.refl _ _ | with_reducible refine Below.alloc ?_ (by first | omega | (simp; done) | (simp; omega)) _)
  · exact (((((((((Hold.fresh (by simp)).alloc _).alloc _).alloc _).alloc _).alloc _).alloc _).alloc _).alloc _)
  · exact ((((((((Hold.fresh (by simp)).alloc _).alloc _).alloc _).alloc _).alloc _).alloc _).alloc _)
  · exact (((((((Hold.fresh (by simp)).alloc _).alloc _).alloc _).alloc _).alloc _).alloc _)
  · exact ((((((Blank.new (by simp)).alloc _).alloc _).alloc _).alloc _).alloc _)
  · exact (((((Blank.new (by simp)).alloc _).alloc _).alloc _).alloc _)
  · exact ((((Blank.new (by simp)).alloc _).alloc _).alloc _)
  · exact (((Blank.zero (Blank.new (by simp))).alloc _).alloc _)
  · exact ((Blank.zero (Blank.new (by simp))).alloc _)
  · exact (Blank.zero (Blank.new (by simp)))
  rintro W s0
  have aR : Apart (w.heap.size + 1 + 1 + 1 + 1 + 1 + 1 + 1 + 1) [w.heap.size, (w.heap.size + 1), (w.heap.size + 1 + 1), (w.heap.size + 1 + 1 + 1), (w.heap.size + 1 + 1 + 1 + 1), (w.heap.size + 1 + 1 + 1 + 1 + 1), (w.heap.size + 1 + 1 + 1 + 1 + 1 + 1), (w.heap.size + 1 + 1 + 1 + 1 + 1 + 1 + 1)] := by intro x hx; simp only [List.mem_cons, List.not_mem_nil, or_false] at hx; omega
  have aQ1 : Apart (w.heap.size + 1 + 1 + 1 + 1 + 1 + 1) [w.heap.size, (w.heap.size + 1), (w.heap.size + 1 + 1), (w.heap.size + 1 + 1 + 1), (w.heap.size + 1 + 1 + 1 + 1), (w.heap.size + 1 + 1 + 1 + 1 + 1), (w.heap.size + 1 + 1 + 1 + 1 + 1 + 1 + 1), (w.heap.size + 1 + 1 + 1 + 1 + 1 + 1 + 1 + 1)] := by intro x hx; simp only [List.mem_cons, List.not_mem_nil, or_false] at hx; omega
  have aQ0 : Apart (w.heap.size + 1 + 1 + 1 + 1 + 1 + 1 + 1) [w.heap.size, (w.heap.size + 1), (w.heap.size + 1 + 1), (w.heap.size + 1 + 1 + 1), (w.heap.size + 1 + 1 + 1 + 1), (w.heap.size + 1 + 1 + 1 + 1 + 1), (w.heap.size + 1 + 1 + 1 + 1 + 1 + 1), (w.heap.size + 1 + 1 + 1 + 1 + 1 + 1 + 1 + 1)] := by intro x hx; simp only [List.mem_cons, List.not_mem_nil, or_false] at hx; omega
  have o3 : w.heap.size ≤ (w.heap.size + 1 + 1 + 1) := by omega
  have o4 : w.heap.size ≤ (w.heap.size + 1 + 1 + 1 + 1) := by omega
  have o5 : w.heap.size ≤ (w.heap.size + 1 + 1 + 1 + 1 + 1) := by omega
  have o6 : w.heap.size ≤ (w.heap.size + 1 + 1 + 1 + 1 + 1 + 1) := by omega
  have o7 : w.heap.size ≤ (w.heap.size + 1 + 1 + 1 + 1 + 1 + 1 + 1) := by omega
  have o8 : w.heap.size ≤ (w.heap.size + 1 + 1 + 1 + 1 + 1 + 1 + 1 + 1) := by omega
  have n34 : (w.heap.size + 1 + 1 + 1) ≠ (w.heap.size + 1 + 1 + 1 + 1) := by omega
  have n35 : (w.heap.size + 1 + 1 + 1) ≠ (w.heap.size + 1 + 1 + 1 + 1 + 1) := by omega
  have n45 : (w.heap.size + 1 + 1 + 1 + 1) ≠ (w.heap.size + 1 + 1 + 1 + 1 + 1) := by omega
  have n36 : (w.heap.size + 1 + 1 + 1) ≠ (w.heap.size + 1 + 1 + 1 + 1 + 1 + 1) := by omega
  have n37 : (w.heap.size + 1 + 1 + 1) ≠ (w.heap.size + 1 + 1 + 1 + 1 + 1 + 1 + 1) := by omega
  have n38 : (w.heap.size + 1 + 1 + 1) ≠ (w.heap.size + 1 + 1 + 1 + 1 + 1 + 1 + 1 + 1) := by omega
  have n46 : (w.heap.size + 1 + 1 + 1 + 1) ≠ (w.heap.size + 1 + 1 + 1 + 1 + 1 + 1) := by omega
  have n47 : (w.heap.size + 1 + 1 + 1 + 1) ≠ (w.heap.size + 1 + 1 + 1 + 1 + 1 + 1 + 1) := by omega
  have n48 : (w.heap.size + 1 + 1 + 1 + 1) ≠ (w.heap.size + 1 + 1 + 1 + 1 + 1 + 1 + 1 + 1) := by omega
  have n56 : (w.heap.size + 1 + 1 + 1 + 1 + 1) ≠ (w.heap.size + 1 + 1 + 1 + 1 + 1 + 1) := by omega
  have n57 : (w.heap.size + 1 + 1 + 1 + 1 + 1) ≠ (w.heap.size + 1 + 1 + 1 + 1 + 1 + 1 + 1) := by omega
  have n58 : (w.heap.size + 1 + 1 + 1 + 1 + 1) ≠ (w.heap.size + 1 + 1 + 1 + 1 + 1 + 1 + 1 + 1) := by omega
  generalize w.heap.size + 1 + 1 + 1 + 1 + 1 + 1 + 1 + 1 = bv at *
  generalize w.heap.size + 1 + 1 + 1 + 1 + 1 + 1 + 1 = b2 at *
  generalize w.heap.size + 1 + 1 + 1 + 1 + 1 + 1 = b1 at *
  generalize w.heap.size + 1 + 1 + 1 + 1 + 1 = e3 at *
  generalize w.heap.size + 1 + 1 + 1 + 1 = e2 at *
  generalize w.heap.size + 1 + 1 + 1 = e1 at *
  generalize w.heap.size + 1 + 1 = bm at *
  generalize w.heap.size + 1 = bl at *
  have NN : Hid (Num h ∧ Num l ∧ Num m ∧ 0 < m ∧ 0 ≤ X ∧ X < 115792089237316195423570985008687907853269984665640564039457584007913129639936 * 115792089237316195423570985008687907853269984665640564039457584007913129639936 ∧ ∀ i, (255 < i → X / 2 ^ i % 2 = h / 2 ^ (i - 256) % 2) ∧ (i ≤ 255 → X / 2 ^ i % 2 = l / 2 ^ i % 2)) := ⟨hh, hl, hm, m0, X0, X1, fun i => TB i⟩
  have ST : Hid (LongInv X m 512 0 0 0) := long_start X0 X1
  clear hh hl hm m0 X0 X1 TB z0
  go_loopw [12] (fun a wr => ∃ (j : Nat) (Q1 Q0 R : Int), j ≤ 512 ∧ a = .int .i64 ((j : Int) - 1) ∧ LongInv X m j Q1 Q0 R ∧ St w wr w.heap.size bl bm e1 e2 e3 b1 b2 bv h l m Q1 Q0 R) (fun a _ => (intOf a + 1).toNat)
  case atStart => exact ⟨512, 0, 0, 0, by decide, by go_num, ST.out, s0⟩
  case round =>
    clear s0 ST
    obtain ⟨j, Q1, Q0, R, hj, rfl, inv, s⟩ := hrel
    by_cases hz : j = 0
    · subst hz
      obtain ⟨n1, n0, hR, hQ⟩ := inv
      simp only [Int.pow_zero, Int.ediv_one, Int.mul_one] at hR hQ
      obtain ⟨_, _⟩ := n0; obtain ⟨_, _⟩ := n1
      obtain rfl : Q1 = X / m / 115792089237316195423570985008687907853269984665640564039457584007913129639936 := by omega
      obtain rfl : Q0 = X / m % 115792089237316195423570985008687907853269984665640564039457584007913129639936 := by omega
      subst hR
      have E : Hid (St w wr w.heap.size bl bm e1 e2 e3 b1 b2 bv h l m (X / m / 115792089237316195423570985008687907853269984665640564039457584007913129639936) (X / m % 115792089237316195423570985008687907853269984665640564039457584007913129639936) (X % m)) := s
      have g1 := s.q1.1.cells; have g0 := s.q0.1.cells; have gr := s.r.1.cells
      have gz1 := s.z1.1.all4; have gz2 := s.z2.1.all4; have gz3 := s.z3.1.all4
      have fz1 := s.z1.2.all4; have fz2 := s.z2.2.all4; have fz3 := s.z3.2.all4
      clear s hQ NN hj
      go_wp2_with fail
      have n34s := n34.symm; have n35s := n35.symm; have n45s := n45.symm; have n36s := n36.symm; have n37s := n37.symm; have n38s := n38.symm; have n46s := n46.symm; have n47s := n47.symm; have n48s := n48.symm; have n56s := n56.symm; have n57s := n57.symm; have n58s := n58.symm
      go_region_held3 (fun w' => w'.cell? ⟨b1, 0, none⟩ = some (.int .u64 (l0 (X / m / 115792089237316195423570985008687907853269984665640564039457584007913129639936))) ∧ w'.cell? ⟨b1, 1, none⟩ = some (.int .u64 (l1 (X / m / 115792089237316195423570985008687907853269984665640564039457584007913129639936))) ∧ w'.cell? ⟨b1, 2, none⟩ = some (.int .u64 (l2 (X / m / 115792089237316195423570985008687907853269984665640564039457584007913129639936))) ∧ w'.cell? ⟨b1, 3, none⟩ = some (.int .u64 (l3 (X / m / 115792089237316195423570985008687907853269984665640564039457584007913129639936))) ∧ w'.cell? ⟨b2, 0, none⟩ = some (.int .u64 (l0 (X / m % 115792089237316195423570985008687907853269984665640564039457584007913129639936))) ∧ w'.cell? ⟨b2, 1, none⟩ = some (.int .u64 (l1 (X / m % 115792089237316195423570985008687907853269984665640564039457584007913129639936))) ∧ w'.cell? ⟨b2, 2, none⟩ = some (.int .u64 (l2 (X / m % 115792089237316195423570985008687907853269984665640564039457584007913129639936))) ∧ w'.cell? ⟨b2, 3, none⟩ = some (.int .u64 (l3 (X / m % 115792089237316195423570985008687907853269984665640564039457584007913129639936))) ∧ w'.cell? ⟨bv, 0, none⟩ = some (.int .u64 (l0 (X % m))) ∧ w'.cell? ⟨bv, 1, none⟩ = some (.int .u64 (l1 (X % m))) ∧ w'.cell? ⟨bv, 2, none⟩ = some (.int .u64 (l2 (X % m))) ∧ w'.cell? ⟨bv, 3, none⟩ = some (.int .u64 (l3 (X % m)))) (((try dsimp only); (repeat' (apply And.intro)); (all_goals repeat (first | with_reducible assumption | (with_reducible refine cell_set ?_ (by with_reducible assumption)) | (simp [go_sem, *]; done))))) (fail)
      all_goals go_wp2
      all_goals simp [bodyPost, results, Tryd.results24, go_sem, *]
      all_goals repeat (first | with_reducible exact E.out.B | with_reducible refine Below.drew ?_ | with_reducible refine Below.setCell ?_ (by with_reducible assumption) _)
    · obtain ⟨i, rfl⟩ : ∃ i, j = i + 1 := ⟨j - 1, by omega⟩
      have e1 : ((i + 1 : Nat) : Int) - 1 = i := by omega
      obtain ⟨Nh, Nl, Nm, m0, X0, X1, TB⟩ := NN.out
      obtain ⟨r0, r1, b0', b1', LT, GE⟩ := long_next m0 X0 X1 inv rfl
      have n1 := inv.1; have n0 := inv.2.1
      obtain ⟨nS, lts, ges⟩ := long_nums Nm r0 r1 b0' b1'
      have nR : Num R := ⟨r0, by have := Nm.2; omega⟩
      have TW : Hid (∀ w, Calls Tryd.prog 36 #[.agg #[.int .u64 (l0 R), .int .u64 (l1 R), .int .u64 (l2 R), .int .u64 (l3 R)], .int .i64 (X / 2 ^ i % 2)] w fun e w' => e = .returned (.tuple #[.agg #[.int .u64 (l0 (sumN R R + X / 2 ^ i % 2)), .int .u64 (l1 (sumN R R + X / 2 ^ i % 2)), .int .u64 (l2 (sumN R R + X / 2 ^ i % 2)), .int .u64 (l3 (sumN R R + X / 2 ^ i % 2))], .int .u64 (carN R R)]) ∧ Below w.heap.size w w') := fun w => twice_any nR (by omega) w
      have CM : Hid (∀ w, Calls Tryd.prog 37 #[.agg #[.int .u64 (l0 (sumN R R + X / 2 ^ i % 2)), .int .u64 (l1 (sumN R R + X / 2 ^ i % 2)), .int .u64 (l2 (sumN R R + X / 2 ^ i % 2)), .int .u64 (l3 (sumN R R + X / 2 ^ i % 2))], .agg #[.int .u64 (l0 m), .int .u64 (l1 m), .int .u64 (l2 m), .int .u64 (l3 m)]] w fun e w' => e = .returned (.int .i64 (cmpN (sumN R R + X / 2 ^ i % 2) m)) ∧ Below w.heap.size w w') := fun w => rcmp_any nS Nm w
      have SB : Hid (∀ w, Calls Tryd.prog 38 #[.agg #[.int .u64 (l0 (sumN R R + X / 2 ^ i % 2)), .int .u64 (l1 (sumN R R + X / 2 ^ i % 2)), .int .u64 (l2 (sumN R R + X / 2 ^ i % 2)), .int .u64 (l3 (sumN R R + X / 2 ^ i % 2))], .agg #[.int .u64 (l0 m), .int .u64 (l1 m), .int .u64 (l2 m), .int .u64 (l3 m)]] w fun e w' => e = .returned (.tuple #[.agg #[.int .u64 (l0 (difN (sumN R R + X / 2 ^ i % 2) m)), .int .u64 (l1 (difN (sumN R R + X / 2 ^ i % 2) m)), .int .u64 (l2 (difN (sumN R R + X / 2 ^ i % 2) m)), .int .u64 (l3 (difN (sumN R R + X / 2 ^ i % 2) m))], .int .u64 (borN (sumN R R + X / 2 ^ i % 2) m)]) ∧ Below w.heap.size w w') := fun w => rsub_any nS Nm w
      have H : Hid ((2 * R + X / 2 ^ i % 2 < m ∧ carN R R = 0 ∧ cmpN (sumN R R + X / 2 ^ i % 2) m = -1 ∧ LongInv X m i Q1 Q0 (sumN R R + X / 2 ^ i % 2)) ∨
          ((carN R R = 1 ∨ (carN R R = 0 ∧ (cmpN (sumN R R + X / 2 ^ i % 2) m = 0 ∨ cmpN (sumN R R + X / 2 ^ i % 2) m = 1))) ∧ (255 < i → Q1 % (2 * 2 ^ (i - 256)) = 0 ∧ LongInv X m i (Q1 + 2 ^ (i - 256)) Q0 (difN (sumN R R + X / 2 ^ i % 2) m)) ∧ (i ≤ 255 → Q0 % (2 * 2 ^ i) = 0 ∧ LongInv X m i Q1 (Q0 + 2 ^ i) (difN (sumN R R + X / 2 ^ i % 2) m)))) := by
        by_cases c : 2 * R + X / 2 ^ i % 2 < m
        · obtain ⟨a, b, c'⟩ := lts c
          exact .inl ⟨c, b, c', by rw [a]; exact LT c⟩
        · obtain ⟨a, b⟩ := ges (by omega)
          exact .inr ⟨b, by rw [a]; exact GE (by omega)⟩
      clear LT GE lts ges r0 r1 b0' b1' nS nR
      have ea : Hid (((i + 1 : Nat) : Int) - 1 = i) := e1
      rw [e1]
      clear e1
      by_cases hi0 : 255 < i
      ·
        have hi : (255 : Int) < i := by omega
        have hi2 : (i : Int) ≤ 511 := by omega
        have BT : Hid (∀ w, Calls Tryd.prog 35 #[.agg #[.int .u64 (l0 h), .int .u64 (l1 h), .int .u64 (l2 h), .int .u64 (l3 h)], .int .i64 ((i : Int) - 256)] w fun e w' => e = .returned (.int .i64 (X / 2 ^ i % 2)) ∧ Below w.heap.size w w') := fun w => by
          have := rbit_any (k := (i : Int) - 256) Nh w
          unfold bitN at this
          rw [if_neg (by omega), show ((i : Int) - 256).toNat = i - 256 by omega, ← (TB i).1 (by omega)] at this
          exact this
        have WI : Hid (Q1 % (2 * 2 ^ (i - 256)) = 0 → ∀ w, Calls Tryd.prog 39 #[.agg #[.int .u64 (l0 Q1), .int .u64 (l1 Q1), .int .u64 (l2 Q1), .int .u64 (l3 Q1)], .int .i64 ((i : Int) - 256)] w fun e w' => e = .returned (.agg #[.int .u64 (l0 (Q1 + 2 ^ (i - 256))), .int .u64 (l1 (Q1 + 2 ^ (i - 256))), .int .u64 (l2 (Q1 + 2 ^ (i - 256))), .int .u64 (l3 (Q1 + 2 ^ (i - 256)))]) ∧ Below w.heap.size w w') := fun hq w => by
          have := with_high (k := (i : Int) - 256) n1 (by omega) (by omega) (by rw [show ((i : Int) - 256).toNat = i - 256 by omega]; exact hq) w
          rw [show ((i : Int) - 256).toNat = i - 256 by omega] at this
          exact this
        clear TB Nh Nl Nm m0 X0 X1 n1 n0 inv
        generalize hS : sumN R R + X / 2 ^ i % 2 = S at *
        clear hS
        generalize carN R R = out at *
        generalize X / 2 ^ i % 2 = b at *
        generalize cmpN S m = c at *
        generalize difN S m = D at *
        generalize borN S m = bo at *
        have gh := s.hh.cells; have gl := s.hl.cells
        go_wp2_with fail
        with_reducible refine (BT.out _).mono ?_
        rintro e w1 ⟨rfl, hb⟩
        replace s := s.keep hb
        clear hb gh gl
        have gr := s.r.1.cells
        go_wp2_with fail
        with_reducible refine (TW.out _).mono ?_
        rintro e w2 ⟨rfl, hb⟩
        replace s := s.keep hb
        clear hb gr
        have gr := fun o => (s.alloc o).r.1.cells; have fr := fun o => (s.alloc o).r.2.all4; have gm := fun o => (s.alloc o).hm.cells
        have nbm : bv ≠ bm := aR bm (by simp)
        have nbm2 : bm ≠ bv := Ne.symm nbm
        rcases H.out with ⟨_, hout, hc, inv⟩ | ⟨hout, hq⟩
        · subst hout; subst hc
          have IV : Hid (LongInv X m i Q1 Q0 S) := inv
          clear inv H
          go_wp2_with fail
          refine calls_world (fun W => St w W w.heap.size bl bm e1 e2 e3 b1 b2 bv h l m Q1 Q0 S) ((s.alloc _).setR aR o8 S) ?_
          clear s gr fr gm
          rintro W s
          with_reducible refine (CM.out _).mono ?_
          rintro e w3 ⟨rfl, hb⟩
          replace s := s.keep hb
          clear hb W
          go_wp2
          go_roundw
          case rel => exact ⟨i, Q1, Q0, S, by omega, by go_num, IV.out, s⟩
          case measure => first | (simp [intOf]; done) | (simp [intOf]; omega)
        · obtain ⟨hq, inv⟩ := hq.1 (by omega)
          have IV : Hid (LongInv X m i (Q1 + 2 ^ (i - 256)) Q0 D) := inv
          have WJ := WI.out hq
          have WK : Hid _ := WJ
          clear inv hq WJ WI H
          rcases hout with hout | ⟨hout, hc⟩
          · subst hout
            go_wp2_with fail
            refine calls_world (fun W => St w W w.heap.size bl bm e1 e2 e3 b1 b2 bv h l m Q1 Q0 S) ((s.alloc _).setR aR o8 S) ?_
            clear s gr fr gm
            rintro W s
            with_reducible refine (SB.out _).mono ?_
            rintro e w4 ⟨rfl, hb⟩
            replace s := s.keep hb
            clear hb W
            have gr := fun o => (s.alloc o).r.1.cells; have fr := fun o => (s.alloc o).r.2.all4; have gq1 := fun o => (s.alloc o).q1.1.cells; have gq0 := fun o => (s.alloc o).q0.1.cells
            have nb1 : bv ≠ b1 := aR b1 (by simp)
            have nb2 : b1 ≠ bv := Ne.symm nb1
            go_wp2_with fail
            refine calls_world (fun W => St w W w.heap.size bl bm e1 e2 e3 b1 b2 bv h l m Q1 Q0 D) ((s.alloc _).setR aR o8 D) ?_
            clear s gr fr gq1 gq0
            rintro W s
            with_reducible refine (WK.out _).mono ?_
            rintro e w5 ⟨rfl, hb⟩
            replace s := s.keep hb
            clear hb W
            have gq := s.q1.1.cells; have fq := s.q1.2.all4
            go_wp2
            go_roundw
            case rel => exact ⟨i, _, _, _, by omega, by go_num, IV.out, s.setQ1 aQ1 o6 _⟩
            case measure => first | (simp [intOf]; done) | (simp [intOf]; omega)
          · subst hout
            rcases hc with hc | hc
            all_goals
              subst hc
              go_wp2_with fail
              refine calls_world (fun W => St w W w.heap.size bl bm e1 e2 e3 b1 b2 bv h l m Q1 Q0 S) ((s.alloc _).setR aR o8 S) ?_
              clear s gr fr gm
              rintro W s
              with_reducible refine (CM.out _).mono ?_
              rintro e w3 ⟨rfl, hb⟩
              replace s := s.keep hb
              clear hb W
              have gr := s.r.1.cells; have gm := s.hm.cells
              go_wp2_with fail
              clear gr gm
              with_reducible refine (SB.out _).mono ?_
              rintro e w4 ⟨rfl, hb⟩
              replace s := s.keep hb
              clear hb 
              have gr := fun o => (s.alloc o).r.1.cells; have fr := fun o => (s.alloc o).r.2.all4; have gq1 := fun o => (s.alloc o).q1.1.cells; have gq0 := fun o => (s.alloc o).q0.1.cells
              have nb1 : bv ≠ b1 := aR b1 (by simp)
              have nb2 : b1 ≠ bv := Ne.symm nb1
              go_wp2_with fail
              refine calls_world (fun W => St w W w.heap.size bl bm e1 e2 e3 b1 b2 bv h l m Q1 Q0 D) ((s.alloc _).setR aR o8 D) ?_
              clear s gr fr gq1 gq0
              rintro W s
              with_reducible refine (WK.out _).mono ?_
              rintro e w5 ⟨rfl, hb⟩
              replace s := s.keep hb
              clear hb W
              have gq := s.q1.1.cells; have fq := s.q1.2.all4
              go_wp2
              go_roundw
              case rel => exact ⟨i, _, _, _, by omega, by go_num, IV.out, s.setQ1 aQ1 o6 _⟩
              case measure => first | (simp [intOf]; done) | (simp [intOf]; omega)
      ·
        have hi : (i : Int) ≤ 255 := by omega
        have BT : Hid (∀ w, Calls Tryd.prog 35 #[.agg #[.int .u64 (l0 l), .int .u64 (l1 l), .int .u64 (l2 l), .int .u64 (l3 l)], .int .i64 (i : Int)] w fun e w' => e = .returned (.int .i64 (X / 2 ^ i % 2)) ∧ Below w.heap.size w w') := fun w => by
          have := rbit_any (k := (i : Int)) Nl w
          unfold bitN at this
          rw [if_neg (by omega), Int.toNat_natCast, ← (TB i).2 (by omega)] at this
          exact this
        have WI : Hid (Q0 % (2 * 2 ^ i) = 0 → ∀ w, Calls Tryd.prog 39 #[.agg #[.int .u64 (l0 Q0), .int .u64 (l1 Q0), .int .u64 (l2 Q0), .int .u64 (l3 Q0)], .int .i64 (i : Int)] w fun e w' => e = .returned (.agg #[.int .u64 (l0 (Q0 + 2 ^ i)), .int .u64 (l1 (Q0 + 2 ^ i)), .int .u64 (l2 (Q0 + 2 ^ i)), .int .u64 (l3 (Q0 + 2 ^ i))]) ∧ Below w.heap.size w w') := fun hq w => by
          have := with_high (k := (i : Int)) n0 (by omega) (by omega) (by rw [Int.toNat_natCast]; exact hq) w
          rw [Int.toNat_natCast] at this
          exact this
        clear TB Nh Nl Nm m0 X0 X1 n1 n0 inv
        generalize hS : sumN R R + X / 2 ^ i % 2 = S at *
        clear hS
        generalize carN R R = out at *
        generalize X / 2 ^ i % 2 = b at *
        generalize cmpN S m = c at *
        generalize difN S m = D at *
        generalize borN S m = bo at *
        have gh := s.hh.cells; have gl := s.hl.cells
        go_wp2_with fail
        with_reducible refine (BT.out _).mono ?_
        rintro e w1 ⟨rfl, hb⟩
        replace s := s.keep hb
        clear hb gh gl
        have gr := s.r.1.cells
        go_wp2_with fail
        with_reducible refine (TW.out _).mono ?_
        rintro e w2 ⟨rfl, hb⟩
        replace s := s.keep hb
        clear hb gr
        have gr := fun o => (s.alloc o).r.1.cells; have fr := fun o => (s.alloc o).r.2.all4; have gm := fun o => (s.alloc o).hm.cells
        have nbm : bv ≠ bm := aR bm (by simp)
        have nbm2 : bm ≠ bv := Ne.symm nbm
        rcases H.out with ⟨_, hout, hc, inv⟩ | ⟨hout, hq⟩
        · subst hout; subst hc
          have IV : Hid (LongInv X m i Q1 Q0 S) := inv
          clear inv H
          go_wp2_with fail
          refine calls_world (fun W => St w W w.heap.size bl bm e1 e2 e3 b1 b2 bv h l m Q1 Q0 S) ((s.alloc _).setR aR o8 S) ?_
          clear s gr fr gm
          rintro W s
          with_reducible refine (CM.out _).mono ?_
          rintro e w3 ⟨rfl, hb⟩
          replace s := s.keep hb
          clear hb W
          go_wp2
          go_roundw
          case rel => exact ⟨i, Q1, Q0, S, by omega, by go_num, IV.out, s⟩
          case measure => first | (simp [intOf]; done) | (simp [intOf]; omega)
        · obtain ⟨hq, inv⟩ := hq.2 (by omega)
          have IV : Hid (LongInv X m i Q1 (Q0 + 2 ^ i) D) := inv
          have WJ := WI.out hq
          have WK : Hid _ := WJ
          clear inv hq WJ WI H
          rcases hout with hout | ⟨hout, hc⟩
          · subst hout
            go_wp2_with fail
            refine calls_world (fun W => St w W w.heap.size bl bm e1 e2 e3 b1 b2 bv h l m Q1 Q0 S) ((s.alloc _).setR aR o8 S) ?_
            clear s gr fr gm
            rintro W s
            with_reducible refine (SB.out _).mono ?_
            rintro e w4 ⟨rfl, hb⟩
            replace s := s.keep hb
            clear hb W
            have gr := fun o => (s.alloc o).r.1.cells; have fr := fun o => (s.alloc o).r.2.all4; have gq1 := fun o => (s.alloc o).q1.1.cells; have gq0 := fun o => (s.alloc o).q0.1.cells
            have nb1 : bv ≠ b2 := aR b2 (by simp)
            have nb2 : b2 ≠ bv := Ne.symm nb1
            go_wp2_with fail
            refine calls_world (fun W => St w W w.heap.size bl bm e1 e2 e3 b1 b2 bv h l m Q1 Q0 D) ((s.alloc _).setR aR o8 D) ?_
            clear s gr fr gq1 gq0
            rintro W s
            with_reducible refine (WK.out _).mono ?_
            rintro e w5 ⟨rfl, hb⟩
            replace s := s.keep hb
            clear hb W
            have gq := s.q0.1.cells; have fq := s.q0.2.all4
            go_wp2
            go_roundw
            case rel => exact ⟨i, _, _, _, by omega, by go_num, IV.out, s.setQ0 aQ0 o7 _⟩
            case measure => first | (simp [intOf]; done) | (simp [intOf]; omega)
          · subst hout
            rcases hc with hc | hc
            all_goals
              subst hc
              go_wp2_with fail
              refine calls_world (fun W => St w W w.heap.size bl bm e1 e2 e3 b1 b2 bv h l m Q1 Q0 S) ((s.alloc _).setR aR o8 S) ?_
              clear s gr fr gm
              rintro W s
              with_reducible refine (CM.out _).mono ?_
              rintro e w3 ⟨rfl, hb⟩
              replace s := s.keep hb
              clear hb W
              have gr := s.r.1.cells; have gm := s.hm.cells
              go_wp2_with fail
              clear gr gm
              with_reducible refine (SB.out _).mono ?_
              rintro e w4 ⟨rfl, hb⟩
              replace s := s.keep hb
              clear hb 
              have gr := fun o => (s.alloc o).r.1.cells; have fr := fun o => (s.alloc o).r.2.all4; have gq1 := fun o => (s.alloc o).q1.1.cells; have gq0 := fun o => (s.alloc o).q0.1.cells
              have nb1 : bv ≠ b2 := aR b2 (by simp)
              have nb2 : b2 ≠ bv := Ne.symm nb1
              go_wp2_with fail
              refine calls_world (fun W => St w W w.heap.size bl bm e1 e2 e3 b1 b2 bv h l m Q1 Q0 D) ((s.alloc _).setR aR o8 D) ?_
              clear s gr fr gq1 gq0
              rintro W s
              with_reducible refine (WK.out _).mono ?_
              rintro e w5 ⟨rfl, hb⟩
              replace s := s.keep hb
              clear hb W
              have gq := s.q0.1.cells; have fq := s.q0.2.all4
              go_wp2
              go_roundw
              case rel => exact ⟨i, _, _, _, by omega, by go_num, IV.out, s.setQ0 aQ0 o7 _⟩
              case measure => first | (simp [intOf]; done) | (simp [intOf]; omega)

end Go.Proofs.YtmhcgjkemlcgoaaDoor
