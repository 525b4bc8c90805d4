import Derived.Test.YtecjfddolamknaaSRPadW
/- The law ShaPads. -/
namespace Go.Proofs.Ytecjfddolamknaa
open Go.RowKit Go.Sort

theorem famM {B n : Nat} {W : World} {V : Nat → Value} {F : Nat → List Int} (cs : Array Value) (t : TypeId) (hc : ∀ i, i < n → cs[i]? = some (V i)) (ho : ∀ i, i < n → OwnB B W (V i) (F i)) (dis : ∀ i j k, i < n → j < n → i ≠ j → (V i).ownBlock = some k → (V j).ownBlock ≠ some k) : Fam B (W.alloc (.cells cs t)) W.heap.size n V F 0 where
  cell := fun i hi => by rw [World.cell?_alloc_mark]; exact hc i hi
  rd := fun i hi => ((ho i hi).alloc _).rd
  own := fun i _ hi => (ho i hi).alloc _
  dis := dis
  far := fun i k hi hk e => by have := ((ho i hi).lt k hk).2; omega
theorem Many.belowM {B n : Nat} {w w' : World} {V : Nat → Value} (h : Many w w' n V) (hB : B ≤ w.heap.size) (hv : ∀ i k, i < n → (V i).ownBlock = some k → B ≤ k) : Below B w w' :=
  ⟨h.os, h.tape, h.output, h.size, fun k hk => h.block k (by omega) (fun i hi e => by have := hv i k hi e; omega)⟩
def pick3s {α : Type} (x y z : α) (i : Nat) : α := if i = 0 then x else if i = 1 then y else z
theorem Own.keepS {B : Nat} {W W' : World} {v : Value} {X : List (BitVec 8)} (h : Own B W v X) (hb : Below W.heap.size W W') : Own B W' v X := row_kept h (grown_of_below hb none) (fun _ _ e => by cases e)
theorem Own.placeS {B c : Nat} {W : World} {a : Option Addr} {X : List (BitVec 8)} (h : Own B W (.slice a X.length c) X) : ∃ g, At a g 0 X ∧ Byo W g 0 X := by
  obtain ⟨a', g, c', e, h1, h2⟩ := h.liesS
  injection e with e1
  subst e1
  exact ⟨g, h1, h2⟩
theorem num3_eq (v : Int) (w : World) : Calls Try.prog 7 #[.int .i64 v] w fun e w' => e = .returned (.int .i64 v) ∧ w' = w := by
  go_enter Try.func7, Try.ntmps7
  go_wp2
  simp [bodyPost, results, Try.results7, go_sem]
set_option maxRecDepth 100000 in
set_option maxHeartbeats 8000000 in
theorem pads_any {n : Int} (hn : n < 9223372036854775808) (w : World) :
    Calls Try.prog 3 #[.int .i64 n] w fun e w' => e = .returned (.bool true) ∧ Below w.heap.size w w' := by
  have hn0 := num3_eq (padE n)
  obtain ⟨L, kL⟩ : ∃ L, L = padR n := ⟨_, rfl⟩
  obtain ⟨E, kE⟩ : ∃ E, E = padE n := ⟨_, rfl⟩
  obtain ⟨M, kM⟩ : ∃ M, M = padR 7 := ⟨_, rfl⟩
  have lM : Hid (M.length = 57) := by rw [kM, padR, if_neg (by decide), padL_len, zn]; exact rfl
  have LL : Hid (L.length ≤ 72) := by rw [kL]; exact padR_len n
  have hp : Hid (∀ W : World, Calls Try.prog 4 #[.int .i64 n] W fun e w' => ∃ a c, e = .returned (.tuple #[.slice a L.length c, .int .i64 E]) ∧ Own W.heap.size w' (.slice a L.length c) L ∧ Below W.heap.size W w') := by rw [kL, kE]; exact fun W => pad_all hn W
  have hr : Hid (∀ W : World, Calls Try.prog 5 #[.int .i64 n] W fun e w' => ∃ a c, e = .returned (.tuple #[.slice a L.length c, .int .i64 E]) ∧ Own W.heap.size w' (.slice a L.length c) L ∧ Below W.heap.size W w') := by rw [kL, kE]; exact fun W => rpad_all hn W
  have h7 : Hid (∀ W : World, Calls Try.prog 4 #[.int .i64 7] W fun e w' => ∃ a c, e = .returned (.tuple #[.slice a 57 c, .int .i64 0]) ∧ Own W.heap.size w' (.slice a 57 c) M ∧ Below W.heap.size W w') := by
    have h := fun W => pad_all (n := 7) (by decide) W
    rw [← kM, show padE 7 = 0 from rfl, lM.out] at h
    exact h
  rw [← kE] at hn0
  clear kL kE kM hn
  go_enter Try.func3, Try.ntmps3
  go_wp2_with fail
  refine (hp.out w).mono ?_
  rintro e w1 ⟨a1, c1, rfl, o1, b1⟩
  have O1 : Hid (Own w.heap.size w1 (.slice a1 L.length c1) L) := o1
  have B1 : Hid (Below w.heap.size w w1) := b1
  clear o1 b1
  go_wp2_with fail
  refine (hr.out w1).mono ?_
  rintro e w2 ⟨a2, c2, rfl, o2, b2⟩
  have O2 : Hid (Own w1.heap.size w2 (.slice a2 L.length c2) L) := o2
  have B2 : Hid (Below w1.heap.size w1 w2) := b2
  clear o2 b2
  go_wp2_with fail
  obtain ⟨g1, z1, y1⟩ := (O1.out.keepS B2.out).placeS
  obtain ⟨g2, z2, y2⟩ := O2.out.placeS
  refine (same_yes (X := L) (by have := LL.out; omega) z1 z2 _ y1 y2).mono ?_
  rintro e w3 ⟨rfl, b3⟩
  have B3 : Hid (Below w2.heap.size w2 w3) := b3
  clear b3 z1 y1 z2 y2
  go_wp2_with (((with_reducible refine (hn0 _).mono ?_); rintro e9 w9 ⟨rfl, hw9⟩; (rw [hw9]); (clear hw9 w9)))
  refine (hp.out w3).mono ?_
  rintro e w4 ⟨a4, c4, rfl, o4, b4⟩
  have O4 : Hid (Own w3.heap.size w4 (.slice a4 L.length c4) L) := o4
  have B4 : Hid (Below w3.heap.size w3 w4) := b4
  clear o4 b4
  go_wp2_with fail
  refine (h7.out w4).mono ?_
  rintro e w5 ⟨a5, c5, rfl, o5, b5⟩
  have O5 : Hid (Own w4.heap.size w5 (.slice a5 57 c5) M) := o5
  have B5 : Hid (Below w4.heap.size w4 w5) := b5
  clear o5 b5
  go_wp2_with fail
  obtain ⟨g1, z1, y1⟩ := (O4.out.keepS B5.out).placeS
  obtain ⟨g2, z2, y2⟩ := (((O2.out.keepS B3.out).keepS B4.out).keepS B5.out).placeS
  refine (same_yes (X := L) (by have := LL.out; omega) z1 z2 _ y1 y2).mono ?_
  rintro e w6 ⟨rfl, b6⟩
  have B6 : Hid (Below w5.heap.size w5 w6) := b6
  clear b6 z1 y1 z2 y2
  go_wp2_with (((with_reducible refine (hn0 _).mono ?_); rintro e9 w9 ⟨rfl, hw9⟩; (rw [hw9]); (clear hw9 w9)))
  have SS : Hid (w.heap.size ≤ w1.heap.size ∧ w1.heap.size ≤ w2.heap.size ∧ w2.heap.size ≤ w3.heap.size ∧ w3.heap.size ≤ w4.heap.size ∧ w4.heap.size ≤ w5.heap.size ∧ w5.heap.size ≤ w6.heap.size) := ⟨B1.out.size, B2.out.size, B3.out.size, B4.out.size, B5.out.size, B6.out.size⟩
  have k1 := (((((O1.out.keepS B2.out).keepS B3.out).keepS B4.out).keepS B5.out).keepS B6.out).toB
  have k4 := ((O4.out.keepS B5.out).keepS B6.out).toB
  have k5 := (O5.out.keepS B6.out).toB
  have B3' := B1.out.trans ((B2.out.trans ((B3.out.trans ((B4.out.trans ((B5.out.trans (B6.out.mono B5.out.size)).mono B4.out.size)).mono B3.out.size)).mono B2.out.size)).mono B1.out.size)
  have iv : Hid (∀ i k, i < 3 → (pick3s (Value.slice a1 L.length c1) (.slice a4 L.length c4) (.slice a5 57 c5) i).ownBlock = some k → (pick3s w.heap.size w3.heap.size w4.heap.size i ≤ k ∧ k < pick3s w1.heap.size w4.heap.size w5.heap.size i)) := fun i k hi hk => by
    have e : i = 0 ∨ i = 1 ∨ i = 2 := by omega
    rcases e with rfl | rfl | rfl
    · exact O1.out.row.lt k hk
    · exact O4.out.row.lt k hk
    · exact World.ownsRow.lt O5.out k hk
  have hv : Hid (∀ i k, i < 3 → (pick3s (Value.slice a1 L.length c1) (.slice a4 L.length c4) (.slice a5 57 c5) i).ownBlock = some k → w.heap.size ≤ k ∧ k < w6.heap.size) := fun i k hi hk => by
    have q := iv.out i k hi hk
    have ss := SS.out
    have e : i = 0 ∨ i = 1 ∨ i = 2 := by omega
    rcases e with rfl | rfl | rfl
    · exact ⟨by simp [pick3s] at q; omega, (k1.lt k hk).2⟩
    · exact ⟨by simp [pick3s] at q; omega, (k4.lt k hk).2⟩
    · exact ⟨by simp [pick3s] at q; omega, (k5.lt k hk).2⟩
  have hf := famM (B := w.heap.size) (n := 3) (W := w6) (V := pick3s (Value.slice a1 L.length c1) (.slice a4 L.length c4) (.slice a5 57 c5)) (F := pick3s (L.map Y) (L.map Y) (M.map Y)) #[.slice a1 L.length c1, .slice a4 L.length c4, .slice a5 57 c5] 22
    (fun i hi => by
      have e : i = 0 ∨ i = 1 ∨ i = 2 := by omega
      rcases e with rfl | rfl | rfl <;> rfl)
    (fun i hi => by
      have ss := SS.out
      have e : i = 0 ∨ i = 1 ∨ i = 2 := by omega
      rcases e with rfl | rfl | rfl
      · exact k1.base (by omega)
      · exact k4.base (by omega)
      · exact k5.base (by omega))
    (fun i j k hi hj ne h1 h2 => by
      have q1 := iv.out i k hi h1
      have q2 := iv.out j k hj h2
      have ss := SS.out
      have e : i = 0 ∨ i = 1 ∨ i = 2 := by omega
      have e' : j = 0 ∨ j = 1 ∨ j = 2 := by omega
      clear h1 h2
      rcases e with rfl | rfl | rfl <;> rcases e' with rfl | rfl | rfl <;> simp [pick3s] at q1 q2 ne <;> omega)
  have BB2 : Below w.heap.size w (w6.alloc (.cells #[.slice a1 L.length c1, .slice a4 L.length c4, .slice a5 57 c5] 22)) := B3'.alloc B3'.size _
  refine calls_world (fun W => Fam w.heap.size W w6.heap.size 3 (pick3s (Value.slice a1 L.length c1) (.slice a4 L.length c4) (.slice a5 57 c5)) (pick3s (L.map Y) (L.map Y) (M.map Y)) 0 ∧ Below w.heap.size w W ∧ w6.heap.size < W.heap.size) ⟨hf, BB2, by simp⟩ ?_
  clear hf BB2 k1 k4 k5 B3'
  rintro W8 ⟨hf, BB, hs⟩
  with_reducible refine (apm_any (cl := 3) (by decide) (fun i hi => by
      have hu := LL.out
      have hm := lM.out
      have e : i = 0 ∨ i = 1 ∨ i = 2 := by omega
      rcases e with rfl | rfl | rfl <;> simp [pick3s] <;> omega) W8 BB.size hs hf (fun i k hi hk => by have := hv.out i k hi hk; omega)).mono ?_
  rintro e W9 ⟨rfl, hm⟩
  have B9 : Hid (Below w.heap.size w W9) := BB.trans (hm.belowM BB.size (fun i k hi hk => (hv.out i k hi hk).1))
  clear hf hm BB hs
  go_wp2
  go_ret
  exact ⟨rfl, B9.out⟩
end Go.Proofs.Ytecjfddolamknaa
