import Derived.Test.YtpapgpkpafdkiaaNbU
import Derived.Test.YtpapgpkpafdkiaaNbT
import Derived.Great.BuildSlice
/- Layer 11: NibbleKeys. -/
namespace Go.Proofs.Ytpapgpkpafdkiaa
open Go.RowKit Go.Sort

theorem wp_build4 {o : Oper} {a : Act} {w : World} {K : Act → World → Prop} {Q : Exit → Act → World → Prop} (x0 x1 x2 x3 : Operand) (ho : o.op = .buildSlice 34 4 #[(0, x0), (1, x1), (2, x2), (3, x3)])
    (v0 v1 v2 v3 : Value) (h0 : a.eval x0 = v0) (h1 : a.eval x1 = v1) (h2 : a.eval x2 = v2) (h3 : a.eval x3 = v3) (one : ∀ v ∈ [v0, v1, v2, v3], v.cells = #[v])
    (h : K (a.put o.dst (.slice (some ⟨w.heap.size, 0, none⟩) 4 4)) (w.alloc (.cells #[v0, v1, v2, v3] 22))) : o.wp Try.prog a w K Q := by
  have hi : (Try.prog.info? 22).map (fun i => (i.zero, i.size)) = some (some (.slice none 0 0), 1) := by kernel_rfl
  cases hq : Try.prog.info? 22 with
  | none => rw [hq] at hi; cases hi
  | some ie =>
    rw [hq] at hi
    simp only [Option.map_some, Option.some.injEq, Prod.mk.injEq] at hi
    refine wp_buildSlice 34 22 4 _ ho #[v0, v1, v2, v3] ie (.slice none 0 0) Try.underlying34 hq hi.1 (by rw [hi.2]; decide) (by rw [hi.2]; decide) ?_ h
    have e : ((#[(0, x0), (1, x1), (2, x2), (3, x3)] : Array (Nat × Operand)).map fun (i, x) => (i, a.eval x)).toList = (([v0, v1, v2, v3] : List Value).zipIdx 0).map fun x => (x.2, x.1) := by simp [h0, h1, h2, h3]
    rw [e, hi.2]
    exact Go.Great.fill_flat _ _ one (by simp)
/-- Of four: the one. -/
def pick4 {α : Type} (x y z u : α) (i : Nat) : α := if i = 0 then x else if i = 1 then y else if i = 2 then z else u
set_option maxRecDepth 100000 in
set_option maxHeartbeats 8000000 in
theorem keys_any {a0 : Option Addr} {b0 o0 c0 : Nat} {D : List Int} (w0 : D.length ≤ 1048576) (B0 : Bys D) (z0 : Az a0 b0 o0 D) (w : World) (y0 : Bz w b0 o0 D) :
    Calls Try.prog 8 #[.slice a0 D.length c0] w fun e w' => e = .returned (.bool true) ∧ Below w.heap.size w w' := by
  have HA : Hid (D.length ≤ 1048576 ∧ Bys D ∧ Az a0 b0 o0 D) := ⟨w0, B0, z0⟩
  have KL : Hid (∀ W, Below w.heap.size w W → Bz W b0 o0 D) := fun W B => y0.keep B
  have BB : Below w.heap.size w w := Below.refl _ _
  have hn0 := num_any (keyE D)
  have ho := fun (W : World) (y : Bz W w.heap.size 0 D) => of_any (c := D.length + 70) B0 (by omega) (.inr rfl) W y
  have hk := fun (W : World) (y : Bz W w.heap.size 0 D) => key_any (c := D.length + 70) B0 (by omega) (.inr rfl) W y
  have hrk := fun (W : World) (y : Bz W b0 o0 D) => rkey_any (c := c0) B0 (by omega) z0 W y
  have hro := fun (W : World) (y : Bz W b0 o0 D) => rof_any (c := c0) B0 (by omega) z0 W y
  have HU : Hid ((ofL D).length ≤ 2097152 ∧ (keyX D).length ≤ 1048576) := by
    refine ⟨by rw [ofL_len]; omega, ?_⟩
    rw [keyX]
    split
    · simp
    · rw [joinL_len]; omega
  clear w0 B0 z0 y0
  generalize ofL D = U at *
  generalize keyX D = Q at *
  generalize keyE D = E at *
  go_enter Try.func8, Try.ntmps8
  have hc := lent_any (cd := c0) (by have := HA.out.1; omega) HA.out.2.2 w (KL.out w BB)
  go_wp2_with (first | ((with_reducible refine (hn0 _).mono ?_); rintro e9 w9 ⟨rfl, hw9⟩; (rw [hw9]); (clear hw9 w9)))
  with_reducible refine hc.mono ?_
  rintro e w1 ⟨rfl, r1, BN⟩
  clear hc
  replace BB := BB.trans (BN.mono BB.size)
  clear BN
  have S1 : Hid (w.heap.size < w1.heap.size) := r1.lt
  have hc := ho w1 (lentL_bz r1)
  go_wp2_with (first | ((with_reducible refine (hn0 _).mono ?_); rintro e9 w9 ⟨rfl, hw9⟩; (rw [hw9]); (clear hw9 w9)))
  with_reducible refine hc.mono ?_
  rintro e w2 ⟨v2, rfl, o2, BN⟩
  have sz2 := BN.size
  clear hc
  replace r1 := r1.keep BN
  replace BB := BB.trans (BN.mono BB.size)
  clear BN
  have I2 : Hid (∀ k, v2.ownBlock = some k → w1.heap.size ≤ k ∧ k < w2.heap.size) := fun k hk => o2.lt k hk
  have S2 : Hid (w.heap.size < w2.heap.size ∧ w1.heap.size ≤ w2.heap.size) := ⟨r1.lt, sz2⟩
  have hc := ho w2 (lentL_bz r1)
  go_wp2_with (first | ((with_reducible refine (hn0 _).mono ?_); rintro e9 w9 ⟨rfl, hw9⟩; (rw [hw9]); (clear hw9 w9)))
  with_reducible refine hc.mono ?_
  rintro e w3 ⟨v3, rfl, o3, BN⟩
  have sz3 := BN.size
  clear hc
  replace r1 := r1.keep BN
  replace o2 := o2.keep BN
  replace BB := BB.trans (BN.mono BB.size)
  clear BN
  have I3 : Hid (∀ k, v3.ownBlock = some k → w2.heap.size ≤ k ∧ k < w3.heap.size) := fun k hk => o3.lt k hk
  have S3 : Hid (w.heap.size < w3.heap.size ∧ w2.heap.size ≤ w3.heap.size) := ⟨r1.lt, sz3⟩
  have hc := hk w3 (lentL_bz r1)
  go_wp2_with (first | ((with_reducible refine (hn0 _).mono ?_); rintro e9 w9 ⟨rfl, hw9⟩; (rw [hw9]); (clear hw9 w9)))
  with_reducible refine hc.mono ?_
  rintro e w4 ⟨v4, rfl, o4, BN⟩
  have sz4 := BN.size
  clear hc
  replace r1 := r1.keep BN
  replace o2 := o2.keep BN
  replace o3 := o3.keep BN
  replace BB := BB.trans (BN.mono BB.size)
  clear BN
  have I4 : Hid (∀ k, v4.ownBlock = some k → w3.heap.size ≤ k ∧ k < w4.heap.size) := fun k hk => o4.lt k hk
  have S4 : Hid (w.heap.size < w4.heap.size ∧ w3.heap.size ≤ w4.heap.size) := ⟨r1.lt, sz4⟩
  have hc := hk w4 (lentL_bz r1)
  go_wp2_with (first | ((with_reducible refine (hn0 _).mono ?_); rintro e9 w9 ⟨rfl, hw9⟩; (rw [hw9]); (clear hw9 w9)))
  with_reducible refine hc.mono ?_
  rintro e w5 ⟨v5, rfl, o5, BN⟩
  have sz5 := BN.size
  clear hc
  replace r1 := r1.keep BN
  replace o2 := o2.keep BN
  replace o3 := o3.keep BN
  replace o4 := o4.keep BN
  replace BB := BB.trans (BN.mono BB.size)
  clear BN
  have I5 : Hid (∀ k, v5.ownBlock = some k → w4.heap.size ≤ k ∧ k < w5.heap.size) := fun k hk => o5.lt k hk
  have S5 : Hid (w.heap.size < w5.heap.size ∧ w4.heap.size ≤ w5.heap.size) := ⟨r1.lt, sz5⟩
  have hc := hrk w5 (KL.out w5 BB)
  go_wp2_with (first | ((with_reducible refine (hn0 _).mono ?_); rintro e9 w9 ⟨rfl, hw9⟩; (rw [hw9]); (clear hw9 w9)))
  with_reducible refine hc.mono ?_
  rintro e w6 ⟨v6, rfl, o6, BN⟩
  clear hc
  replace r1 := r1.keep BN
  replace o2 := o2.keep BN
  replace o3 := o3.keep BN
  replace o4 := o4.keep BN
  replace o5 := o5.keep BN
  replace BB := BB.trans (BN.mono BB.size)
  clear BN
  have hc := hro w6 (KL.out w6 BB)
  go_wp2_with (first | ((with_reducible refine (hn0 _).mono ?_); rintro e9 w9 ⟨rfl, hw9⟩; (rw [hw9]); (clear hw9 w9)))
  with_reducible refine hc.mono ?_
  rintro e w7 ⟨v7, rfl, o7, BN⟩
  clear hc
  replace r1 := r1.keep BN
  replace o2 := o2.keep BN
  replace o3 := o3.keep BN
  replace o4 := o4.keep BN
  replace o5 := o5.keep BN
  replace o6 := o6.keep BN
  replace BB := BB.trans (BN.mono BB.size)
  clear BN
  clear ho hk hrk hro
  obtain ⟨a2, g2, c2, rfl, _, _, _, _, _, _⟩ := o2.lies
  obtain ⟨a3, g3, c3, rfl, _, _, _, _, _, _⟩ := o3.lies
  obtain ⟨a4, g4, c4, rfl, _, _, _, _, _, _⟩ := o4.lies
  obtain ⟨a5, g5, c5, rfl, _, _, _, _, _, _⟩ := o5.lies
  obtain ⟨a6, g6, c6, rfl, _, _, _, _, _, _⟩ := o6.lies
  obtain ⟨a7, g7, c7, rfl, _, _, _, _, _, _⟩ := o7.lies
  obtain ⟨gx, zx, yx⟩ := o2.at
  obtain ⟨gy, zy, yy⟩ := o7.at
  have hc := same_any (c := c2) (c' := c7) (by have := HU.out; omega) zx zy w7 yx yy
  rw [decide_eq_true rfl] at hc
  go_wp2_with (first | ((with_reducible refine (hn0 _).mono ?_); rintro e9 w9 ⟨rfl, hw9⟩; (rw [hw9]); (clear hw9 w9)))
  with_reducible refine hc.mono ?_
  rintro e w8 ⟨rfl, BN⟩
  clear hc
  replace r1 := r1.keep BN
  replace o2 := o2.keep BN
  replace o3 := o3.keep BN
  replace o4 := o4.keep BN
  replace o5 := o5.keep BN
  replace o6 := o6.keep BN
  replace o7 := o7.keep BN
  replace BB := BB.trans (BN.mono BB.size)
  clear BN
  clear zx zy yx yy
  obtain ⟨gx, zx, yx⟩ := o3.at
  obtain ⟨gy, zy, yy⟩ := o7.at
  have hc := same_any (c := c3) (c' := c7) (by have := HU.out; omega) zx zy w8 yx yy
  rw [decide_eq_true rfl] at hc
  go_wp2_with (first | ((with_reducible refine (hn0 _).mono ?_); rintro e9 w9 ⟨rfl, hw9⟩; (rw [hw9]); (clear hw9 w9)))
  with_reducible refine hc.mono ?_
  rintro e w9 ⟨rfl, BN⟩
  clear hc
  replace r1 := r1.keep BN
  replace o2 := o2.keep BN
  replace o3 := o3.keep BN
  replace o4 := o4.keep BN
  replace o5 := o5.keep BN
  replace o6 := o6.keep BN
  replace o7 := o7.keep BN
  replace BB := BB.trans (BN.mono BB.size)
  clear BN
  clear zx zy yx yy
  obtain ⟨gx, zx, yx⟩ := o4.at
  obtain ⟨gy, zy, yy⟩ := o6.at
  have hc := same_any (c := c4) (c' := c6) (by have := HU.out; omega) zx zy w9 yx yy
  rw [decide_eq_true rfl] at hc
  go_wp2_with (first | ((with_reducible refine (hn0 _).mono ?_); rintro e9 w9 ⟨rfl, hw9⟩; (rw [hw9]); (clear hw9 w9)))
  with_reducible refine hc.mono ?_
  rintro e w10 ⟨rfl, BN⟩
  clear hc
  replace r1 := r1.keep BN
  replace o2 := o2.keep BN
  replace o3 := o3.keep BN
  replace o4 := o4.keep BN
  replace o5 := o5.keep BN
  replace o6 := o6.keep BN
  replace o7 := o7.keep BN
  replace BB := BB.trans (BN.mono BB.size)
  clear BN
  clear zx zy yx yy
  obtain ⟨gx, zx, yx⟩ := o5.at
  obtain ⟨gy, zy, yy⟩ := o6.at
  have hc := same_any (c := c5) (c' := c6) (by have := HU.out; omega) zx zy w10 yx yy
  rw [decide_eq_true rfl] at hc
  go_wp2_with (first | ((with_reducible refine (hn0 _).mono ?_); rintro e9 w9 ⟨rfl, hw9⟩; (rw [hw9]); (clear hw9 w9)))
  with_reducible refine hc.mono ?_
  rintro e w11 ⟨rfl, BN⟩
  clear hc
  replace r1 := r1.keep BN
  replace o2 := o2.keep BN
  replace o3 := o3.keep BN
  replace o4 := o4.keep BN
  replace o5 := o5.keep BN
  replace o6 := o6.keep BN
  replace o7 := o7.keep BN
  replace BB := BB.trans (BN.mono BB.size)
  clear BN
  clear zx zy yx yy
  have hc := still_any (cd := c0) (by have := HA.out.1; omega) HA.out.2.2 w11 r1 (KL.out w11 BB)
  go_wp2_with (first | ((with_reducible refine (hn0 _).mono ?_); rintro e9 w9 ⟨rfl, hw9⟩; (rw [hw9]); (clear hw9 w9)))
  with_reducible refine hc.mono ?_
  rintro e w12 ⟨rfl, BN⟩
  clear hc
  replace r1 := r1.keep BN
  replace o2 := o2.keep BN
  replace o3 := o3.keep BN
  replace o4 := o4.keep BN
  replace o5 := o5.keep BN
  replace o6 := o6.keep BN
  replace o7 := o7.keep BN
  replace BB := BB.trans (BN.mono BB.size)
  clear BN
  go_wp2_with (first | ((with_reducible refine (hn0 _).mono ?_); rintro e9 w9 ⟨rfl, hw9⟩; (rw [hw9]); (clear hw9 w9)))
  have SS : Hid (w1.heap.size ≤ w2.heap.size ∧ w2.heap.size ≤ w3.heap.size ∧ w3.heap.size ≤ w4.heap.size ∧ w4.heap.size ≤ w5.heap.size) := ⟨S2.out.2, S3.out.2, S4.out.2, S5.out.2⟩
  have iv : Hid (∀ i k, i < 4 → (pick4 (Value.slice a2 U.length c2) (.slice a3 U.length c3) (.slice a4 Q.length c4) (.slice a5 Q.length c5) i).ownBlock = some k → (pick4 w1.heap.size w2.heap.size w3.heap.size w4.heap.size i ≤ k ∧ k < pick4 w2.heap.size w3.heap.size w4.heap.size w5.heap.size i)) := fun i k hi hk => by
    have e : i = 0 ∨ i = 1 ∨ i = 2 ∨ i = 3 := by omega
    rcases e with rfl | rfl | rfl | rfl
    · exact I2.out k hk
    · exact I3.out k hk
    · exact I4.out k hk
    · exact I5.out k hk
  have hv : Hid (∀ i k, i < 4 → (pick4 (Value.slice a2 U.length c2) (.slice a3 U.length c3) (.slice a4 Q.length c4) (.slice a5 Q.length c5) i).ownBlock = some k → w.heap.size < k ∧ k < w12.heap.size) := fun i k hi hk => by
    have q := iv.out i k hi hk
    have s1 := S1.out
    have ss := SS.out
    have e : i = 0 ∨ i = 1 ∨ i = 2 ∨ i = 3 := by omega
    rcases e with rfl | rfl | rfl | rfl
    · exact ⟨by simp [pick4] at q; omega, (o2.lt k hk).2⟩
    · exact ⟨by simp [pick4] at q; omega, (o3.lt k hk).2⟩
    · exact ⟨by simp [pick4] at q; omega, (o4.lt k hk).2⟩
    · exact ⟨by simp [pick4] at q; omega, (o5.lt k hk).2⟩
  have hf := famN (B := w.heap.size) (n := 4) (W := w12) (V := pick4 (Value.slice a2 U.length c2) (.slice a3 U.length c3) (.slice a4 Q.length c4) (.slice a5 Q.length c5)) (F := pick4 U U Q Q) #[.slice a2 U.length c2, .slice a3 U.length c3, .slice a4 Q.length c4, .slice a5 Q.length c5] 22
    (fun i hi => by
      have e : i = 0 ∨ i = 1 ∨ i = 2 ∨ i = 3 := by omega
      rcases e with rfl | rfl | rfl | rfl <;> rfl)
    (fun i hi => by
      have s1 := S1.out
      have ss := SS.out
      have e : i = 0 ∨ i = 1 ∨ i = 2 ∨ i = 3 := by omega
      rcases e with rfl | rfl | rfl | rfl
      · exact o2.base (by omega)
      · exact o3.base (by omega)
      · exact o4.base (by omega)
      · exact o5.base (by omega))
    (fun i j k hi hj ne h1 h2 => by
      have q1 := iv.out i k hi h1
      have q2 := iv.out j k hj h2
      have ss := SS.out
      have e : i = 0 ∨ i = 1 ∨ i = 2 ∨ i = 3 := by omega
      have e' : j = 0 ∨ j = 1 ∨ j = 2 ∨ j = 3 := by omega
      clear h1 h2
      rcases e with rfl | rfl | rfl | rfl <;> rcases e' with rfl | rfl | rfl | rfl <;> simp [pick4] at q1 q2 ne <;> omega)
  have r2 := r1.keep ((Below.refl w12.heap.size w12).alloc (Nat.le_refl _) (.cells #[.slice a2 U.length c2, .slice a3 U.length c3, .slice a4 Q.length c4, .slice a5 Q.length c5] 22))
  have BB2 : Below w.heap.size w (w12.alloc (.cells #[.slice a2 U.length c2, .slice a3 U.length c3, .slice a4 Q.length c4, .slice a5 Q.length c5] 22)) := BB.alloc BB.size _
  refine wp_build4 _ _ _ _ rfl _ _ _ _ rfl rfl rfl rfl (fun v hv => by simp at hv; rcases hv with rfl | rfl | rfl | rfl <;> rfl) ?_
  simp only [Act.put, List.setIfInBounds_toArray, List.set_cons_succ, List.set_cons_zero]
  go_wp2_with fail
  refine calls_world (fun W => Fam w.heap.size W w12.heap.size 4 (pick4 (Value.slice a2 U.length c2) (.slice a3 U.length c3) (.slice a4 Q.length c4) (.slice a5 Q.length c5)) (pick4 U U Q Q) 0 ∧ Rw8 W w.heap.size (lentL D) ∧ Below w.heap.size w W ∧ w12.heap.size ≤ W.heap.size) ⟨hf, r2, BB2, by simp⟩ ?_
  clear hf r2 BB2 o2 o3 o4 o5 o6 o7 r1 BB
  rintro W8 ⟨hf, r1, BB, hs⟩
  with_reducible refine (apart_any (cl := 4) (by decide) (fun i hi => by
      have hu := HU.out
      have e : i = 0 ∨ i = 1 ∨ i = 2 ∨ i = 3 := by omega
      rcases e with rfl | rfl | rfl | rfl <;> simp [pick4] <;> omega) W8 BB.size hf (fun i k hi hk => by have := hv.out i k hi hk; omega)).mono ?_
  rintro e W9 ⟨rfl, hm⟩
  have r2 := r1.many hm (fun i hi e => by have := hv.out i _ hi e; omega)
  have B2 : Below w.heap.size w W9 := BB.trans (hm.below BB.size (fun i k hi hk => by have := hv.out i k hi hk; omega))
  clear hf hm r1 BB hs
  have hc := still_any (cd := c0) (by have := HA.out.1; omega) HA.out.2.2 W9 r2 (KL.out W9 B2)
  go_wp2_with fail
  with_reducible refine hc.mono ?_
  rintro e w99 ⟨rfl, BN⟩
  have B3 : Below w.heap.size w w99 := B2.trans (BN.mono B2.size)
  clear hc BN B2
  go_wp2
  simp [bodyPost, results, Try.results8, go_sem]
  exact B3
end Go.Proofs.Ytpapgpkpafdkiaa
