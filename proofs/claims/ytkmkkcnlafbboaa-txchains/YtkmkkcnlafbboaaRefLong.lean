import Derived.Test.YtkmkkcnlafbboaaRefTwice
import Derived.Test.YtkmkkcnlafbboaaRefLongNum
import Derived.Test.YtkmkkcnlafbboaaReduce
import Derived.Deep.RegionHeld3
namespace Go.Proofs.Ytkmkkcnlafbboaa
open Go.RowKit Go.Sort

theorem Blank.zero {W : World} {b : Nat} (h : Blank W b) : Var W b 0 := by
  obtain ⟨z0, z1, z2, z3⟩ := zero_limbs
  refine ⟨Row.hold ?_, h.2⟩
  rw [z0, z1, z2, z3]
  exact h.1

def Apart (b : Nat) (l : List Nat) : Prop := ∀ x ∈ l, b ≠ x

structure St (w W : World) (b0 bl bm e1 e2 e3 b1 b2 bv : Nat) (h l m Q1 Q0 R : Int) : Prop where
  B : Below w.heap.size w W
  hh : Hold W b0 h
  hl : Hold W bl l
  hm : Hold W bm m
  z1 : Blank W e1
  z2 : Blank W e2
  z3 : Blank W e3
  q1 : Var W b1 Q1
  q0 : Var W b2 Q0
  r : Var W bv R

theorem St.keep {w W : World} {b0 bl bm e1 e2 e3 b1 b2 bv : Nat} {h l m Q1 Q0 R : Int} (s : St w W b0 bl bm e1 e2 e3 b1 b2 bv h l m Q1 Q0 R) {w1 : World} (hb : Below W.heap.size W w1) : St w w1 b0 bl bm e1 e2 e3 b1 b2 bv h l m Q1 Q0 R := ⟨s.B.trans (hb.mono s.B.size), s.hh.keep hb, s.hl.keep hb, s.hm.keep hb, s.z1.keep hb, s.z2.keep hb, s.z3.keep hb, s.q1.keep hb, s.q0.keep hb, s.r.keep hb⟩
theorem St.alloc {w W : World} {b0 bl bm e1 e2 e3 b1 b2 bv : Nat} {h l m Q1 Q0 R : Int} (s : St w W b0 bl bm e1 e2 e3 b1 b2 bv h l m Q1 Q0 R) (o : Obj) : St w (W.alloc o) b0 bl bm e1 e2 e3 b1 b2 bv h l m Q1 Q0 R := ⟨s.B.alloc s.B.size o, s.hh.alloc o, s.hl.alloc o, s.hm.alloc o, s.z1.alloc o, s.z2.alloc o, s.z3.alloc o, s.q1.alloc o, s.q0.alloc o, s.r.alloc o⟩
theorem St.setR {w W : World} {b0 bl bm e1 e2 e3 b1 b2 bv : Nat} {h l m Q1 Q0 R : Int} (s : St w W b0 bl bm e1 e2 e3 b1 b2 bv h l m Q1 Q0 R) (ne : Apart bv [b0, bl, bm, e1, e2, e3, b1, b2]) (le : w.heap.size ≤ bv) (k : Int) : St w ((((W.setCell ⟨bv, 0, none⟩ (.int .u64 (l0 k))).setCell ⟨bv, 1, none⟩ (.int .u64 (l1 k))).setCell ⟨bv, 2, none⟩ (.int .u64 (l2 k))).setCell ⟨bv, 3, none⟩ (.int .u64 (l3 k))) b0 bl bm e1 e2 e3 b1 b2 bv h l m Q1 Q0 k := ⟨below_set4 s.B le _ _ _ _, s.hh.set4 (ne b0 (by simp)) _ _ _ _, s.hl.set4 (ne bl (by simp)) _ _ _ _, s.hm.set4 (ne bm (by simp)) _ _ _ _, s.z1.set4 (ne e1 (by simp)) _ _ _ _, s.z2.set4 (ne e2 (by simp)) _ _ _ _, s.z3.set4 (ne e3 (by simp)) _ _ _ _, s.q1.set4 (ne b1 (by simp)) _ _ _ _, s.q0.set4 (ne b2 (by simp)) _ _ _ _, s.r.sets k⟩
theorem St.setQ1 {w W : World} {b0 bl bm e1 e2 e3 b1 b2 bv : Nat} {h l m Q1 Q0 R : Int} (s : St w W b0 bl bm e1 e2 e3 b1 b2 bv h l m Q1 Q0 R) (ne : Apart b1 [b0, bl, bm, e1, e2, e3, b2, bv]) (le : w.heap.size ≤ b1) (k : Int) : St w ((((W.setCell ⟨b1, 0, none⟩ (.int .u64 (l0 k))).setCell ⟨b1, 1, none⟩ (.int .u64 (l1 k))).setCell ⟨b1, 2, none⟩ (.int .u64 (l2 k))).setCell ⟨b1, 3, none⟩ (.int .u64 (l3 k))) b0 bl bm e1 e2 e3 b1 b2 bv h l m k Q0 R := ⟨below_set4 s.B le _ _ _ _, s.hh.set4 (ne b0 (by simp)) _ _ _ _, s.hl.set4 (ne bl (by simp)) _ _ _ _, s.hm.set4 (ne bm (by simp)) _ _ _ _, s.z1.set4 (ne e1 (by simp)) _ _ _ _, s.z2.set4 (ne e2 (by simp)) _ _ _ _, s.z3.set4 (ne e3 (by simp)) _ _ _ _, s.q1.sets k, s.q0.set4 (ne b2 (by simp)) _ _ _ _, s.r.set4 (ne bv (by simp)) _ _ _ _⟩
theorem St.setQ0 {w W : World} {b0 bl bm e1 e2 e3 b1 b2 bv : Nat} {h l m Q1 Q0 R : Int} (s : St w W b0 bl bm e1 e2 e3 b1 b2 bv h l m Q1 Q0 R) (ne : Apart b2 [b0, bl, bm, e1, e2, e3, b1, bv]) (le : w.heap.size ≤ b2) (k : Int) : St w ((((W.setCell ⟨b2, 0, none⟩ (.int .u64 (l0 k))).setCell ⟨b2, 1, none⟩ (.int .u64 (l1 k))).setCell ⟨b2, 2, none⟩ (.int .u64 (l2 k))).setCell ⟨b2, 3, none⟩ (.int .u64 (l3 k))) b0 bl bm e1 e2 e3 b1 b2 bv h l m Q1 k R := ⟨below_set4 s.B le _ _ _ _, s.hh.set4 (ne b0 (by simp)) _ _ _ _, s.hl.set4 (ne bl (by simp)) _ _ _ _, s.hm.set4 (ne bm (by simp)) _ _ _ _, s.z1.set4 (ne e1 (by simp)) _ _ _ _, s.z2.set4 (ne e2 (by simp)) _ _ _ _, s.z3.set4 (ne e3 (by simp)) _ _ _ _, s.q1.set4 (ne b1 (by simp)) _ _ _ _, s.q0.sets k, s.r.set4 (ne bv (by simp)) _ _ _ _⟩

theorem long_nums {R m b : Int} (hm : Num m) (r0 : 0 ≤ R) (r1 : R < m) (b0 : 0 ≤ b) (b1 : b ≤ 1) :
    Num (sumN R R + b) ∧ (2 * R + b < m → sumN R R + b = 2 * R + b ∧ carN R R = 0 ∧ cmpN (sumN R R + b) m = -1) ∧
    (m ≤ 2 * R + b → difN (sumN R R + b) m = 2 * R + b - m ∧ (carN R R = 1 ∨ (carN R R = 0 ∧ (cmpN (sumN R R + b) m = 0 ∨ cmpN (sumN R R + b) m = 1)))) := by
  obtain ⟨_, _⟩ := hm
  unfold Num cmpN
  refine ⟨⟨by unfold sumN; omega, by unfold sumN; omega⟩, fun lt => ?_, fun ge => ?_⟩
  · have e : sumN R R + b = 2 * R + b := by unfold sumN; omega
    refine ⟨e, by unfold carN; omega, ?_⟩
    rw [e, if_neg (by omega), if_pos lt]
  · refine ⟨by unfold difN sumN; omega, ?_⟩
    by_cases c : carN R R = 1
    · exact .inl c
    · have c0 : carN R R = 0 := by unfold carN at *; omega
      have e : sumN R R + b = 2 * R + b := by unfold sumN carN at *; omega
      refine .inr ⟨c0, ?_⟩
      rw [e]
      by_cases q : 2 * R + b = m
      · left; rw [if_pos q]
      · right; rw [if_neg q, if_neg (by omega)]

end Go.Proofs.Ytkmkkcnlafbboaa
