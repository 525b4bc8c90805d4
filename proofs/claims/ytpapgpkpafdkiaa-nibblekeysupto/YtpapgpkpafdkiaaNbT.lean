import Derived.Test.YtpapgpkpafdkiaaNbS
import Derived.Test.YtpapgpkpafdkiaaNbI
/- Layer 11: NibbleUnpacks. -/
namespace Go.Proofs.Ytpapgpkpafdkiaa
open Go.RowKit Go.Sort

theorem famN {B n : Nat} {W : World} {V : Nat → Value} {F : Nat → List Int} (cs : Array Value) (t : TypeId) (hc : ∀ i, i < n → cs[i]? = some (V i)) (ho : ∀ i, i < n → OwnB B W (V i) (F i)) (dis : ∀ i j k, i < n → j < n → i ≠ j → (V i).ownBlock = some k → (V j).ownBlock ≠ some k) : Fam B (W.alloc (.cells cs t)) W.heap.size n V F 0 where
  cell := fun i hi => by rw [World.cell?_alloc_mark]; exact hc i hi
  rd := fun i hi => ((ho i hi).alloc _).rd
  own := fun i _ hi => (ho i hi).alloc _
  dis := dis
  far := fun i k hi hk e => by have := ((ho i hi).lt k hk).2; omega
theorem Many.below {B n : Nat} {w w' : World} {V : Nat → Value} (h : Many w w' n V) (hB : B ≤ w.heap.size) (hv : ∀ i k, i < n → (V i).ownBlock = some k → B ≤ k) : Below B w w' :=
  ⟨h.os, h.tape, h.output, h.size, fun k hk => h.block k (by omega) (fun i hi e => by have := hv i k hi e; omega)⟩
theorem Rw8.many {n g : Nat} {w w' : World} {V : Nat → Value} {X : List Int} (r : Rw8 w g X) (h : Many w w' n V) (hv : ∀ i, i < n → (V i).ownBlock ≠ some g) : Rw8 w' g X := (h.block g r.lt hv).trans r
theorem unpX_len (D : List Int) : (unpX D).length ≤ 2 * D.length + 1 := by
  rw [unpX]
  split
  · rw [List.length_append, ofL_len, List.length_drop, unpR]
    split <;> simp <;> omega
  · simp
/-- Of two: the first, or the other. -/
def pick2 {α : Type} (x y : α) (i : Nat) : α := if i = 0 then x else y

set_option maxRecDepth 100000 in
set_option maxHeartbeats 8000000 in
theorem unpacks_any {a0 : Option Addr} {b0 o0 c0 : Nat} {D : List Int} (w0 : D.length ≤ 1048576) (B0 : Bys D) (l0 : D.length ≤ c0) (z0 : Az a0 b0 o0 D) (w : World) (y0 : Bz w b0 o0 D) :
    Calls Try.prog 4 #[.slice a0 D.length c0] w fun e w' => e = .returned (.bool true) ∧ Below w.heap.size w w' := by
  have HA : Hid (D.length ≤ 1048576 ∧ Bys D ∧ D.length ≤ c0 ∧ Az a0 b0 o0 D) := ⟨w0, B0, l0, z0⟩
  have KL : Hid (∀ W, Below w.heap.size w W → Bz W b0 o0 D) := fun W B => y0.keep B
  have BB : Below w.heap.size w w := Below.refl _ _
  have hn0 := num_any (unpE D)
  have hu := fun (W : World) (y : Bz W w.heap.size 0 D) => unp_any (c := D.length + 70) B0 (by omega) (by omega) (.inr rfl) W y
  have hr := fun (W : World) (y : Bz W b0 o0 D) => runp_any (c := c0) B0 (by omega) l0 z0 W y
  have HU : Hid ((unpX D).length ≤ 2097153) := by show _ ≤ _; have := unpX_len D; omega
  clear w0 B0 z0 y0 l0
  generalize unpX D = U at *
  generalize unpE D = E at *
  generalize unpM D = M at *
  go_enter Try.func4, Try.ntmps4
  have hc := lent_any (cd := c0) (by have := HA.out.1; omega) HA.out.2.2.2 w (KL.out w BB)
  go_wp2_with (first | ((with_reducible refine (hn0 _).mono ?_); rintro e9 w9 ⟨rfl, hw9⟩; (rw [hw9]); (clear hw9 w9)))
  with_reducible refine hc.mono ?_
  rintro e w1 ⟨rfl, r1, BN⟩
  clear hc
  replace BB := BB.trans (BN.mono BB.size)
  clear BN
  have S1 : Hid (w.heap.size < w1.heap.size) := r1.lt
  have hc := hu w1 (lentL_bz r1)
  go_wp2_with (first | ((with_reducible refine (hn0 _).mono ?_); rintro e9 w9 ⟨rfl, hw9⟩; (rw [hw9]); (clear hw9 w9)))
  with_reducible refine hc.mono ?_
  rintro e w2 ⟨v2, rfl, o2, BN⟩
  clear hc
  replace r1 := r1.keep BN
  replace BB := BB.trans (BN.mono BB.size)
  clear BN
  have I2 : Hid (∀ k, v2.ownBlock = some k → w1.heap.size ≤ k ∧ k < w2.heap.size) := fun k hk => o2.lt k hk
  have S2 : Hid (w.heap.size < w2.heap.size) := r1.lt
  have hc := hu w2 (lentL_bz r1)
  go_wp2_with (first | ((with_reducible refine (hn0 _).mono ?_); rintro e9 w9 ⟨rfl, hw9⟩; (rw [hw9]); (clear hw9 w9)))
  with_reducible refine hc.mono ?_
  rintro e w3 ⟨v3, rfl, o3, BN⟩
  clear hc
  replace r1 := r1.keep BN
  replace o2 := o2.keep BN
  replace BB := BB.trans (BN.mono BB.size)
  clear BN
  have I3 : Hid (∀ k, v3.ownBlock = some k → w2.heap.size ≤ k ∧ k < w3.heap.size) := fun k hk => o3.lt k hk
  have hc := hr w3 (KL.out w3 BB)
  go_wp2_with (first | ((with_reducible refine (hn0 _).mono ?_); rintro e9 w9 ⟨rfl, hw9⟩; (rw [hw9]); (clear hw9 w9)))
  with_reducible refine hc.mono ?_
  rintro e w4 ⟨v4, rfl, o4, BN⟩
  clear hc
  replace r1 := r1.keep BN
  replace o2 := o2.keep BN
  replace o3 := o3.keep BN
  replace BB := BB.trans (BN.mono BB.size)
  clear BN
  clear hu hr
  obtain ⟨a2, g2, c2, rfl, _, _, _, _, _, _⟩ := o2.lies
  obtain ⟨a3, g3, c3, rfl, _, _, _, _, _, _⟩ := o3.lies
  obtain ⟨a4, g4, c4, rfl, _, _, _, _, _, _⟩ := o4.lies
  obtain ⟨g2', z2', y2'⟩ := o2.at
  obtain ⟨g4', z4', y4'⟩ := o4.at
  have hc := same_any (c := c2) (c' := c4) (by have := HU.out; omega) z2' z4' w4 y2' y4'
  rw [decide_eq_true rfl] at hc
  go_wp2_with (first | ((with_reducible refine (hn0 _).mono ?_); rintro e9 w9 ⟨rfl, hw9⟩; (rw [hw9]); (clear hw9 w9)))
  with_reducible refine hc.mono ?_
  rintro e w5 ⟨rfl, BN⟩
  clear hc
  replace r1 := r1.keep BN
  replace o2 := o2.keep BN
  replace o3 := o3.keep BN
  replace o4 := o4.keep BN
  replace BB := BB.trans (BN.mono BB.size)
  clear BN
  clear z2' y2' z4' y4'
  obtain ⟨g3', z3', y3'⟩ := o3.at
  obtain ⟨g4', z4', y4'⟩ := o4.at
  have hc := same_any (c := c3) (c' := c4) (by have := HU.out; omega) z3' z4' w5 y3' y4'
  rw [decide_eq_true rfl] at hc
  go_wp2_with (first | ((with_reducible refine (hn0 _).mono ?_); rintro e9 w9 ⟨rfl, hw9⟩; (rw [hw9]); (clear hw9 w9)))
  with_reducible refine hc.mono ?_
  rintro e w6 ⟨rfl, BN⟩
  clear hc
  clear o4
  replace r1 := r1.keep BN
  replace o2 := o2.keep BN
  replace o3 := o3.keep BN
  replace BB := BB.trans (BN.mono BB.size)
  clear BN
  clear z3' y3' z4' y4'
  have hc := still_any (cd := c0) (by have := HA.out.1; omega) HA.out.2.2.2 w6 r1 (KL.out w6 BB)
  go_wp2_with (first | ((with_reducible refine (hn0 _).mono ?_); rintro e9 w9 ⟨rfl, hw9⟩; (rw [hw9]); (clear hw9 w9)))
  with_reducible refine hc.mono ?_
  rintro e w7 ⟨rfl, BN⟩
  clear hc
  replace r1 := r1.keep BN
  replace o2 := o2.keep BN
  replace o3 := o3.keep BN
  replace BB := BB.trans (BN.mono BB.size)
  clear BN
  go_wp2_with (first | ((with_reducible refine (hn0 _).mono ?_); rintro e9 w9 ⟨rfl, hw9⟩; (rw [hw9]); (clear hw9 w9)))
  have hf := famN (B := w.heap.size) (n := 2) (W := w7) (V := pick2 (.slice a2 U.length c2) (.slice a3 U.length c3)) (F := fun _ => U) #[.slice a2 U.length c2, .slice a3 U.length c3] 22
    (fun i hi => by have : i = 0 ∨ i = 1 := by omega
                    rcases this with rfl | rfl <;> rfl)
    (fun i hi => by have : i = 0 ∨ i = 1 := by omega
                    rcases this with rfl | rfl
                    · exact o2.base (by have := S1.out; omega)
                    · exact o3.base (by have := S2.out; omega))
    (fun i j k hi hj ne h1 h2 => by
      have e : (i = 0 ∧ j = 1) ∨ (i = 1 ∧ j = 0) := by omega
      rcases e with ⟨rfl, rfl⟩ | ⟨rfl, rfl⟩
      · have q1 := I2.out k h1; have q2 := I3.out k h2; omega
      · have q1 := I3.out k h1; have q2 := I2.out k h2; omega)
  have hv : Hid (∀ i k, i < 2 → (pick2 (Value.slice a2 U.length c2) (.slice a3 U.length c3) i).ownBlock = some k → w.heap.size < k ∧ k < w7.heap.size) := fun i k hi hk => by
    have : i = 0 ∨ i = 1 := by omega
    rcases this with rfl | rfl
    · have q := I2.out k hk; have := S1.out; exact ⟨by omega, (o2.lt k hk).2⟩
    · have q := I3.out k hk; have := S2.out; exact ⟨by omega, (o3.lt k hk).2⟩
  have r2 := r1.keep ((Below.refl w7.heap.size w7).alloc (Nat.le_refl _) (.cells #[.slice a2 U.length c2, .slice a3 U.length c3] 22))
  have BB2 : Below w.heap.size w (w7.alloc (.cells #[.slice a2 U.length c2, .slice a3 U.length c3] 22)) := BB.alloc BB.size _
  refine calls_world (fun W => Fam w.heap.size W w7.heap.size 2 (pick2 (.slice a2 U.length c2) (.slice a3 U.length c3)) (fun _ => U) 0 ∧ Rw8 W w.heap.size (lentL D) ∧ Below w.heap.size w W ∧ w7.heap.size ≤ W.heap.size) ⟨hf, r2, BB2, by simp⟩ ?_
  clear hf r2 BB2 o2 o3 r1 BB
  rintro W8 ⟨hf, r1, BB, hs⟩
  with_reducible refine (apart_any (cl := 2) (by decide) (fun i _ => by have := HU.out; omega) W8 BB.size hf (fun i k hi hk => by have := hv.out i k hi hk; omega)).mono ?_
  rintro e W9 ⟨rfl, hm⟩
  have r2 := r1.many hm (fun i hi e => by have := hv.out i _ hi e; omega)
  have B2 : Below w.heap.size w W9 := BB.trans (hm.below BB.size (fun i k hi hk => by have := hv.out i k hi hk; omega))
  clear hf hm r1 BB hs
  have hc := still_any (cd := c0) (by have := HA.out.1; omega) HA.out.2.2.2 W9 r2 (KL.out W9 B2)
  go_wp2_with fail
  with_reducible refine hc.mono ?_
  rintro e w10 ⟨rfl, BN⟩
  have B3 : Below w.heap.size w w10 := B2.trans (BN.mono B2.size)
  clear hc BN B2
  go_wp2
  simp [bodyPost, results, Try.results4, go_sem]
  exact B3
end Go.Proofs.Ytpapgpkpafdkiaa
