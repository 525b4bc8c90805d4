import Derived.Test.YtohdlfilldaghaaNbK
import Derived.Great.BuildSlice
/- Layer 11: NibblePacks. -/
namespace Go.Proofs.Ytohdlfilldaghaa
open Go.RowKit Go.Sort

/-- copy of a list over the front of a block of one's own, of the same length. -/
theorem wpList_copy_over {w : World} {ops : Array Oper} {rest : List Oper} {o : Oper} {a : Act} {Q : Exit → Act → World → Prop} (hgd : o.guard = none) (d s : Operand)
    (ho : o.op = .call { callee := .builtin .copy, args := #[d, s], argTypes := #[22, 22] })
    {g n m dCap sCap bs os : Nat} {sp : Option Addr} {X Z T : List Int} (hd : a.eval d = .slice (some ⟨g, 0, none⟩) n dCap) (hs : a.eval s = .slice sp m sCap) (hn : n = X.length) (hm : m = Z.length) (hl : Z.length = X.length) (hr : Rw8 w g (X ++ T)) (hat : Az sp bs os Z) (hby : Bz w bs os Z)
    (h : ∀ w', Rw8 w' g (Z ++ T) → w.grownBy w' (some g) → wpList Try.prog ops Q rest (a.put o.dst (goInt Z.length)) w') : wpList Try.prog ops Q (o :: rest) a w := by
  subst hn hm
  have hu := Try.underlying22
  have hsz : (Try.prog.info? 5).map (·.size) = some 1 := by kernel_rfl
  by_cases h0 : Z = []
  · subst h0
    have hx : X = [] := List.length_eq_zero_iff.1 (by simpa using hl.symm)
    subst hx
    exact wpList_copy_nothing hgd d s _ _ ho _ hu hsz _ _ _ _ _ _ hd hs rfl (h w hr (World.grownBy.refl _ _))
  · rcases hat with h1 | h1
    · exact absurd h1 h0
    · subst h1
      have e : (((X ++ T).map (Value.int .u8)).toArray.toList.take 0 ++ (Z.map (Value.int .u8) ++ ((X ++ T).map (Value.int .u8)).toArray.toList.drop (0 + (Z.map (Value.int .u8)).length))) = (Z ++ T).map (Value.int .u8) := by
        rw [List.take_zero, List.nil_append, List.length_map, Nat.zero_add, hl, List.map_append, List.map_append]
        congr 1
        show List.drop X.length _ = _
        have e3 : (X.map (Value.int .u8)).length = X.length := List.length_map _
        rw [← e3, List.drop_left]
      have e2 : (Z.map (Value.int .u8)).length = Z.length := List.length_map _
      refine wpList_copy_own hgd d s _ _ ho _ hu hsz g 0 X.length dCap ⟨bs, os, none⟩ Z.length sCap hd hs _ _ hr (Z.map (Value.int .u8)) (by rw [e2, hl]; exact (Nat.min_self _).symm) (fun j v hv => ?_) (by simp; omega) (fun v hv => by obtain ⟨x, _, rfl⟩ := List.mem_map.1 hv; rfl) ?_
      · rw [List.getElem?_map] at hv
        obtain ⟨x, hx, rfl⟩ := Option.map_eq_some_iff.1 hv
        have hj : j < Z.length := (List.getElem?_eq_some_iff.1 hx).1
        rw [Addr.add_mid, hby j hj]
        simp [List.getD, hx]
      · rw [e, e2]
        exact h _ (setRow_heap w g _ _ _ _ hr) ⟨rfl, rfl, rfl, by simp [World.setRow], fun k _ hk => setRow_other w g k _ (fun e => hk (by rw [e]))⟩
theorem packX_len (D : List Int) (t : Bool) : (packX D t).length ≤ D.length / 2 + 1 := by
  rw [packX]
  split
  · rw [packL_len]; omega
  · simp
theorem Bys.rev {D : List Int} (h : Bys D) : Bys D.reverse := fun x hx => h x (List.mem_reverse.1 hx)
/-- Of three: the one. -/
def pick3 {α : Type} (x y z : α) (i : Nat) : α := if i = 0 then x else if i = 1 then y else z
set_option maxRecDepth 100000 in
set_option maxHeartbeats 8000000 in
theorem packs_any {a0 : Option Addr} {b0 o0 c0 : Nat} {D : List Int} {t : Bool} (w0 : D.length ≤ 140737488351232) (B0 : Bys D) (l0 : D.length ≤ c0) (z0 : Az a0 b0 o0 D) (w : World) (y0 : Bz w b0 o0 D) :
    Calls Try.prog 3 #[.slice a0 D.length c0, .bool t] w fun e w' => e = .returned (.bool true) ∧ Below w.heap.size w w' := by
  have HA : Hid (D.length ≤ 140737488351232 ∧ Bys D ∧ D.length ≤ c0 ∧ Az a0 b0 o0 D) := ⟨w0, B0, l0, z0⟩
  have KL : Hid (∀ W, Below w.heap.size w W → Bz W b0 o0 D) := fun W B => y0.keep B
  have BB : Below w.heap.size w w := Below.refl _ _
  have hn0 := num_any (packE D)
  have hn1 := num_any (packE D.reverse)
  have hp := fun (W : World) (y : Bz W w.heap.size 0 D) => pack_any (t := t) (c := D.length + 70) B0 (by omega) (by omega) (.inr rfl) W y
  have hrp := fun (W : World) (y : Bz W b0 o0 D) => rpack_any (t := t) (c := c0) B0 (by omega) l0 z0 W y
  have LR : Hid (D.reverse.length = D.length) := List.length_reverse
  have hq := fun (W : World) (y : Bz W w.heap.size 0 D.reverse) => pack_any (t := t) (c := D.length + 70) B0.rev (by rw [LR.out]; omega) (by rw [LR.out]; omega) (.inr rfl) W y
  have HU : Hid ((packX D t).length ≤ 70368744177000 ∧ (packX D.reverse t).length ≤ 70368744177000) := by
    refine ⟨Nat.le_trans (packX_len D t) (by omega), Nat.le_trans (packX_len _ t) (by rw [LR.out]; omega)⟩
  have hrq := fun (W : World) (g c : Nat) (a : Option Addr) (hc : D.reverse.length ≤ c) (z : Az a g 0 D.reverse) (y : Bz W g 0 D.reverse) => rpack_any (t := t) (c := c) B0.rev (by rw [LR.out]; omega) hc z W y
  have hbk := fun (W : World) (y : Bz W b0 o0 D) => backward_any (cd := c0) (by omega) z0 W y
  clear w0 B0 z0 y0 l0
  generalize packX D t = U at *
  generalize packX D.reverse t = V at *
  generalize packE D = E at *
  generalize packE D.reverse = F at *
  simp only [LR.out] at hq hrq
  go_enter Try.func3, Try.ntmps3
  have hc := lent_any (cd := c0) (by have := HA.out.1; omega) HA.out.2.2.2 w (KL.out w BB)
  go_wp2_with (first | ((with_reducible refine (hn0 _).mono ?_); rintro e9 w9 ⟨rfl, hw9⟩; (rw [hw9]); (clear hw9 w9)) | ((with_reducible refine (hn1 _).mono ?_); rintro e9 w9 ⟨rfl, hw9⟩; (rw [hw9]); (clear hw9 w9)))
  with_reducible refine hc.mono ?_
  rintro e w1 ⟨rfl, r1, BN⟩
  clear hc
  replace BB := BB.trans (BN.mono BB.size)
  clear BN
  have S1 : Hid (w.heap.size < w1.heap.size) := r1.lt
  have hc := hp w1 (lentL_bz r1)
  go_wp2_with (first | ((with_reducible refine (hn0 _).mono ?_); rintro e9 w9 ⟨rfl, hw9⟩; (rw [hw9]); (clear hw9 w9)) | ((with_reducible refine (hn1 _).mono ?_); rintro e9 w9 ⟨rfl, hw9⟩; (rw [hw9]); (clear hw9 w9)))
  with_reducible refine hc.mono ?_
  rintro e w2 ⟨v2, rfl, o2, BN⟩
  have sz2 := BN.size
  clear hc
  replace r1 := r1.keep BN
  replace BB := BB.trans (BN.mono BB.size)
  clear BN
  have I2 : Hid (∀ k, v2.ownBlock = some k → w1.heap.size ≤ k ∧ k < w2.heap.size) := fun k hk => o2.lt k hk
  have S2 : Hid (w.heap.size < w2.heap.size ∧ w1.heap.size ≤ w2.heap.size) := ⟨r1.lt, sz2⟩
  have hc := hp w2 (lentL_bz r1)
  go_wp2_with (first | ((with_reducible refine (hn0 _).mono ?_); rintro e9 w9 ⟨rfl, hw9⟩; (rw [hw9]); (clear hw9 w9)) | ((with_reducible refine (hn1 _).mono ?_); rintro e9 w9 ⟨rfl, hw9⟩; (rw [hw9]); (clear hw9 w9)))
  with_reducible refine hc.mono ?_
  rintro e w3 ⟨v3, rfl, o3, BN⟩
  have sz3 := BN.size
  clear hc
  replace r1 := r1.keep BN
  replace o2 := o2.keep BN
  replace BB := BB.trans (BN.mono BB.size)
  clear BN
  have I3 : Hid (∀ k, v3.ownBlock = some k → w2.heap.size ≤ k ∧ k < w3.heap.size) := fun k hk => o3.lt k hk
  have S3 : Hid (w.heap.size < w3.heap.size ∧ w2.heap.size ≤ w3.heap.size) := ⟨r1.lt, sz3⟩
  have hc := hrp w3 (KL.out w3 BB)
  go_wp2_with (first | ((with_reducible refine (hn0 _).mono ?_); rintro e9 w9 ⟨rfl, hw9⟩; (rw [hw9]); (clear hw9 w9)) | ((with_reducible refine (hn1 _).mono ?_); rintro e9 w9 ⟨rfl, hw9⟩; (rw [hw9]); (clear hw9 w9)))
  with_reducible refine hc.mono ?_
  rintro e w4 ⟨v4, rfl, o4, BN⟩
  have sz4 := BN.size
  clear hc
  replace r1 := r1.keep BN
  replace o2 := o2.keep BN
  replace o3 := o3.keep BN
  replace BB := BB.trans (BN.mono BB.size)
  clear BN
  clear hp hrp
  have S4 : Hid (w3.heap.size ≤ w4.heap.size) := sz4
  have I4 : Hid (∀ k, v4.ownBlock = some k → w3.heap.size ≤ k ∧ k < w4.heap.size) := fun k hk => o4.lt k hk
  obtain ⟨a2, g2, c2, rfl, _, _, _, _, _, _⟩ := o2.lies
  obtain ⟨a3, g3, c3, rfl, _, _, _, _, _, _⟩ := o3.lies
  obtain ⟨a4, g4, c4, rfl, _, _, _, _, _, _⟩ := o4.lies
  obtain ⟨gx, zx, yx⟩ := o2.at
  obtain ⟨gy, zy, yy⟩ := o4.at
  have hc := same_any (c := c2) (c' := c4) (by have := HU.out; omega) zx zy w4 yx yy
  rw [decide_eq_true rfl] at hc
  go_wp2_with (first | ((with_reducible refine (hn0 _).mono ?_); rintro e9 w9 ⟨rfl, hw9⟩; (rw [hw9]); (clear hw9 w9)) | ((with_reducible refine (hn1 _).mono ?_); rintro e9 w9 ⟨rfl, hw9⟩; (rw [hw9]); (clear hw9 w9)))
  with_reducible refine hc.mono ?_
  rintro e w5 ⟨rfl, BN⟩
  have sz5 := BN.size
  clear hc
  replace r1 := r1.keep BN
  replace o2 := o2.keep BN
  replace o3 := o3.keep BN
  replace o4 := o4.keep BN
  replace BB := BB.trans (BN.mono BB.size)
  clear BN
  clear zx zy yx yy
  obtain ⟨gx, zx, yx⟩ := o3.at
  obtain ⟨gy, zy, yy⟩ := o4.at
  have hc := same_any (c := c3) (c' := c4) (by have := HU.out; omega) zx zy w5 yx yy
  rw [decide_eq_true rfl] at hc
  go_wp2_with (first | ((with_reducible refine (hn0 _).mono ?_); rintro e9 w9 ⟨rfl, hw9⟩; (rw [hw9]); (clear hw9 w9)) | ((with_reducible refine (hn1 _).mono ?_); rintro e9 w9 ⟨rfl, hw9⟩; (rw [hw9]); (clear hw9 w9)))
  with_reducible refine hc.mono ?_
  rintro e w6 ⟨rfl, BN⟩
  have sz6 := BN.size
  clear hc
  replace r1 := r1.keep BN
  replace o2 := o2.keep BN
  replace o3 := o3.keep BN
  replace o4 := o4.keep BN
  replace BB := BB.trans (BN.mono BB.size)
  clear BN
  clear zx zy yx yy
  have hc := still_any (cd := c0) (by have := HA.out.1; omega) HA.out.2.2.2 w6 r1 (KL.out w6 BB)
  go_wp2_with (first | ((with_reducible refine (hn0 _).mono ?_); rintro e9 w9 ⟨rfl, hw9⟩; (rw [hw9]); (clear hw9 w9)) | ((with_reducible refine (hn1 _).mono ?_); rintro e9 w9 ⟨rfl, hw9⟩; (rw [hw9]); (clear hw9 w9)))
  with_reducible refine hc.mono ?_
  rintro e w7 ⟨rfl, BN⟩
  have sz7 := BN.size
  clear hc
  replace r1 := r1.keep BN
  replace o2 := o2.keep BN
  replace o3 := o3.keep BN
  replace o4 := o4.keep BN
  replace BB := BB.trans (BN.mono BB.size)
  clear BN
  have hc := hbk w7 (KL.out w7 BB)
  go_wp2_with (first | ((with_reducible refine (hn0 _).mono ?_); rintro e9 w9 ⟨rfl, hw9⟩; (rw [hw9]); (clear hw9 w9)) | ((with_reducible refine (hn1 _).mono ?_); rintro e9 w9 ⟨rfl, hw9⟩; (rw [hw9]); (clear hw9 w9)))
  with_reducible refine hc.mono ?_
  rintro e w8 ⟨v8, rfl, o8, BN⟩
  have sz8 := BN.size
  clear hc
  replace r1 := r1.keep BN
  replace o2 := o2.keep BN
  replace o3 := o3.keep BN
  replace o4 := o4.keep BN
  replace BB := BB.trans (BN.mono BB.size)
  clear BN
  clear hbk
  have S8 : Hid (w4.heap.size ≤ w7.heap.size ∧ w7.heap.size ≤ w8.heap.size) := ⟨by omega, sz8⟩
  have I8 : Hid (∀ k, v8.ownBlock = some k → w7.heap.size ≤ k ∧ k < w8.heap.size) := fun k hk => o8.lt k hk
  obtain ⟨a8, g8, c8, rfl, q8, z8, y8, n8, m8, _⟩ := o8.lies
  rw [LR.out]
  have r1' : Rw8 w8 w.heap.size (D ++ List.replicate 70 195) := r1
  go_wp2_with (first | ((refine wpList_copy_over rfl _ _ rfl rfl rfl rfl LR.out.symm LR.out r1' z8 y8 ?_); intro w9 r9 G9) | ((with_reducible refine (hn0 _).mono ?_); rintro e9 w9 ⟨rfl, hw9⟩; (rw [hw9]); (clear hw9 w9)) | ((with_reducible refine (hn1 _).mono ?_); rintro e9 w9 ⟨rfl, hw9⟩; (rw [hw9]); (clear hw9 w9)))
  have G9' : Hid (w8.grownBy w9 (some w.heap.size)) := G9
  have R9 : Rw8 w9 w.heap.size (lentL D.reverse) := r9
  clear r1 r1' r9
  have BB9 : Below w.heap.size w w9 := BB.grown G9 BB.size (fun k hk => by have := Option.some.inj hk; omega)
  replace BB := BB9
  clear BB9
  have k2 := o2.kept G9 (fun k hk e => by have := I2.out k hk; have := S1.out; have := Option.some.inj e; omega)
  have k3 := o3.kept G9 (fun k hk e => by have := I3.out k hk; have := S2.out; have := Option.some.inj e; omega)
  have k4 := o4.kept G9 (fun k hk e => by have := I4.out k hk; have := S3.out; have := Option.some.inj e; omega)
  have k8 := o8.kept G9 (fun k hk e => by have := I8.out k hk; have := S8.out; have := S4.out; have := S3.out; have := Option.some.inj e; omega)
  have s9 := G9.size
  clear o2 o3 o4 o8 z8 y8 n8 m8 G9
  have hc := hq w9 (lentL_bz R9)
  go_wp2_with (first | ((with_reducible refine (hn0 _).mono ?_); rintro e9 w9 ⟨rfl, hw9⟩; (rw [hw9]); (clear hw9 w9)) | ((with_reducible refine (hn1 _).mono ?_); rintro e9 w9 ⟨rfl, hw9⟩; (rw [hw9]); (clear hw9 w9)))
  with_reducible refine hc.mono ?_
  rintro e w10 ⟨v10, rfl, k10, BN⟩
  have sz10 := BN.size
  clear hc
  replace R9 := R9.keep BN
  replace k2 := k2.keep BN
  replace k3 := k3.keep BN
  replace k4 := k4.keep BN
  replace k8 := k8.keep BN
  replace BB := BB.trans (BN.mono BB.size)
  clear BN
  clear hq
  have I10 : Hid (∀ k, v10.ownBlock = some k → w9.heap.size ≤ k ∧ k < w10.heap.size) := fun k hk => k10.lt k hk
  obtain ⟨gy, zy, yy⟩ := k8.at
  have hc := hrq w10 gy c8 a8 (by have := q8; rw [LR.out] at this; exact this) zy yy
  go_wp2_with (first | ((with_reducible refine (hn0 _).mono ?_); rintro e9 w9 ⟨rfl, hw9⟩; (rw [hw9]); (clear hw9 w9)) | ((with_reducible refine (hn1 _).mono ?_); rintro e9 w9 ⟨rfl, hw9⟩; (rw [hw9]); (clear hw9 w9)))
  with_reducible refine hc.mono ?_
  rintro e w11 ⟨v11, rfl, k11, BN⟩
  have sz11 := BN.size
  clear hc
  replace R9 := R9.keep BN
  replace k2 := k2.keep BN
  replace k3 := k3.keep BN
  replace k4 := k4.keep BN
  replace k8 := k8.keep BN
  replace k10 := k10.keep BN
  replace BB := BB.trans (BN.mono BB.size)
  clear BN
  clear hrq zy yy
  obtain ⟨a10, g10, c10, rfl, _, _, _, _, _, _⟩ := k10.lies
  obtain ⟨a11, g11, c11, rfl, _, _, _, _, _, _⟩ := k11.lies
  obtain ⟨gx, zx, yx⟩ := k10.at
  obtain ⟨gy, zy, yy⟩ := k11.at
  have hc := same_any (c := c10) (c' := c11) (by have := HU.out; omega) zx zy w11 yx yy
  rw [decide_eq_true rfl] at hc
  go_wp2_with (first | ((with_reducible refine (hn0 _).mono ?_); rintro e9 w9 ⟨rfl, hw9⟩; (rw [hw9]); (clear hw9 w9)) | ((with_reducible refine (hn1 _).mono ?_); rintro e9 w9 ⟨rfl, hw9⟩; (rw [hw9]); (clear hw9 w9)))
  with_reducible refine hc.mono ?_
  rintro e w12 ⟨rfl, BN⟩
  have sz12 := BN.size
  clear hc
  replace R9 := R9.keep BN
  replace k2 := k2.keep BN
  replace k3 := k3.keep BN
  replace k4 := k4.keep BN
  replace k8 := k8.keep BN
  replace k10 := k10.keep BN
  replace k11 := k11.keep BN
  replace BB := BB.trans (BN.mono BB.size)
  clear BN
  clear zx zy yx yy
  obtain ⟨gx, zx, yx⟩ := k2.at
  obtain ⟨gy, zy, yy⟩ := k4.at
  have hc := same_any (c := c2) (c' := c4) (by have := HU.out; omega) zx zy w12 yx yy
  rw [decide_eq_true rfl] at hc
  go_wp2_with (first | ((with_reducible refine (hn0 _).mono ?_); rintro e9 w9 ⟨rfl, hw9⟩; (rw [hw9]); (clear hw9 w9)) | ((with_reducible refine (hn1 _).mono ?_); rintro e9 w9 ⟨rfl, hw9⟩; (rw [hw9]); (clear hw9 w9)))
  with_reducible refine hc.mono ?_
  rintro e w13 ⟨rfl, BN⟩
  have sz13 := BN.size
  clear hc
  replace R9 := R9.keep BN
  replace k2 := k2.keep BN
  replace k3 := k3.keep BN
  replace k4 := k4.keep BN
  replace k8 := k8.keep BN
  replace k10 := k10.keep BN
  replace k11 := k11.keep BN
  replace BB := BB.trans (BN.mono BB.size)
  clear BN
  clear zx zy yx yy
  obtain ⟨gx, zx, yx⟩ := k3.at
  obtain ⟨gy, zy, yy⟩ := k4.at
  have hc := same_any (c := c3) (c' := c4) (by have := HU.out; omega) zx zy w13 yx yy
  rw [decide_eq_true rfl] at hc
  go_wp2_with (first | ((with_reducible refine (hn0 _).mono ?_); rintro e9 w9 ⟨rfl, hw9⟩; (rw [hw9]); (clear hw9 w9)) | ((with_reducible refine (hn1 _).mono ?_); rintro e9 w9 ⟨rfl, hw9⟩; (rw [hw9]); (clear hw9 w9)))
  with_reducible refine hc.mono ?_
  rintro e w14 ⟨rfl, BN⟩
  have sz14 := BN.size
  clear hc
  replace R9 := R9.keep BN
  replace k2 := k2.keep BN
  replace k3 := k3.keep BN
  replace k4 := k4.keep BN
  replace k8 := k8.keep BN
  replace k10 := k10.keep BN
  replace k11 := k11.keep BN
  replace BB := BB.trans (BN.mono BB.size)
  clear BN
  clear zx zy yx yy
  go_wp2_with (first | ((with_reducible refine (hn0 _).mono ?_); rintro e9 w9 ⟨rfl, hw9⟩; (rw [hw9]); (clear hw9 w9)) | ((with_reducible refine (hn1 _).mono ?_); rintro e9 w9 ⟨rfl, hw9⟩; (rw [hw9]); (clear hw9 w9)))
  have SS : Hid (w.heap.size < w1.heap.size ∧ w1.heap.size ≤ w2.heap.size ∧ w2.heap.size ≤ w3.heap.size ∧ w3.heap.size ≤ w7.heap.size ∧ w7.heap.size ≤ w8.heap.size ∧ w8.heap.size ≤ w9.heap.size ∧ w9.heap.size ≤ w10.heap.size) := ⟨S1.out, S2.out.2, S3.out.2, by have := S4.out; have := S8.out; omega, S8.out.2, s9, sz10⟩
  have iv : Hid (∀ i k, i < 3 → (pick3 (Value.slice a2 U.length c2) (.slice a3 U.length c3) (.slice a10 V.length c10) i).ownBlock = some k → (pick3 w1.heap.size w2.heap.size w9.heap.size i ≤ k ∧ k < pick3 w2.heap.size w3.heap.size w10.heap.size i)) := fun i k hi hk => by
    have e : i = 0 ∨ i = 1 ∨ i = 2 := by omega
    rcases e with rfl | rfl | rfl
    · exact I2.out k hk
    · exact I3.out k hk
    · exact I10.out k hk
  have hv : Hid (∀ i k, i < 3 → (pick3 (Value.slice a2 U.length c2) (.slice a3 U.length c3) (.slice a10 V.length c10) i).ownBlock = some k → w.heap.size < k ∧ k < w14.heap.size ∧ (k < w7.heap.size ∨ w8.heap.size ≤ k)) := fun i k hi hk => by
    have q := iv.out i k hi hk
    have ss := SS.out
    have e : i = 0 ∨ i = 1 ∨ i = 2 := by omega
    rcases e with rfl | rfl | rfl
    · exact ⟨by simp [pick3] at q; omega, (k2.lt k hk).2, by simp [pick3] at q; omega⟩
    · exact ⟨by simp [pick3] at q; omega, (k3.lt k hk).2, by simp [pick3] at q; omega⟩
    · exact ⟨by simp [pick3] at q; omega, (k10.lt k hk).2, by simp [pick3] at q; omega⟩
  have hf := famN (B := w.heap.size) (n := 3) (W := w14) (V := pick3 (Value.slice a2 U.length c2) (.slice a3 U.length c3) (.slice a10 V.length c10)) (F := pick3 U U V) #[.slice a2 U.length c2, .slice a3 U.length c3, .slice a10 V.length c10] 22
    (fun i hi => by
      have e : i = 0 ∨ i = 1 ∨ i = 2 := by omega
      rcases e with rfl | rfl | rfl <;> rfl)
    (fun i hi => by
      have ss := SS.out
      have e : i = 0 ∨ i = 1 ∨ i = 2 := by omega
      rcases e with rfl | rfl | rfl
      · exact k2.base (by omega)
      · exact k3.base (by omega)
      · exact k10.base (by omega))
    (fun i j k hi hj ne h1 h2 => by
      have q1 := iv.out i k hi h1
      have q2 := iv.out j k hj h2
      have ss := SS.out
      have e : i = 0 ∨ i = 1 ∨ i = 2 := by omega
      have e' : j = 0 ∨ j = 1 ∨ j = 2 := by omega
      clear h1 h2
      rcases e with rfl | rfl | rfl <;> rcases e' with rfl | rfl | rfl <;> simp [pick3] at q1 q2 ne <;> omega)
  have r2 := R9.keep ((Below.refl w14.heap.size w14).alloc (Nat.le_refl _) (.cells #[.slice a2 U.length c2, .slice a3 U.length c3, .slice a10 V.length c10] 22))
  have k8' := k8.alloc (.cells #[.slice a2 U.length c2, .slice a3 U.length c3, .slice a10 V.length c10] 22)
  have BB2 : Below w.heap.size w (w14.alloc (.cells #[.slice a2 U.length c2, .slice a3 U.length c3, .slice a10 V.length c10] 22)) := BB.alloc BB.size _
  refine calls_world (fun W => Fam w.heap.size W w14.heap.size 3 (pick3 (Value.slice a2 U.length c2) (.slice a3 U.length c3) (.slice a10 V.length c10)) (pick3 U U V) 0 ∧ Rw8 W w.heap.size (lentL D.reverse) ∧ OwnB w7.heap.size W (.slice a8 D.reverse.length c8) D.reverse ∧ Below w.heap.size w W ∧ w14.heap.size ≤ W.heap.size) ⟨hf, r2, k8', BB2, by simp⟩ ?_
  clear hf r2 BB2 k2 k3 k4 k8 k8' k10 k11 R9 BB
  rintro W8 ⟨hf, r1, k8, BB, hs⟩
  with_reducible refine (apart_any (cl := 3) (by decide) (fun i hi => by
      have hu := HU.out
      have e : i = 0 ∨ i = 1 ∨ i = 2 := by omega
      rcases e with rfl | rfl | rfl <;> simp [pick3] <;> omega) W8 BB.size hf (fun i k hi hk => by have := hv.out i k hi hk; omega)).mono ?_
  rintro e W9 ⟨rfl, hm⟩
  have r2 := r1.many hm (fun i hi e => by have := hv.out i _ hi e; omega)
  have B2 : Below w.heap.size w W9 := BB.trans (hm.below BB.size (fun i k hi hk => by have := hv.out i k hi hk; omega))
  have y8 : ∃ g, Az a8 g 0 D.reverse ∧ Bz W9 g 0 D.reverse := by
    obtain ⟨a, g, c, e, _, haz, hbz, hk, hne, _⟩ := k8.lies
    injection e with e1 e2 e3
    subst e1
    refine ⟨g, haz, ?_⟩
    by_cases h0 : D.reverse = []
    · rw [h0]; exact fun i hi => absurd hi (Nat.not_lt_zero _)
    · have hg := hne h0
      refine hbz.same (hm.block g (hk g hg).2.2 (fun i hi e => ?_))
      have q := hv.out i g hi e
      have q2 := hk g hg
      have q3 := I8.out g (by simpa [Value.ownBlock] using hg)
      omega
  obtain ⟨gz, zz, yz⟩ := y8
  clear hf hm r1 BB hs k8
  have hc := still_any (cd := c8) (by rw [LR.out]; have := HA.out.1; omega) zz W9 r2 yz
  rw [LR.out] at hc
  go_wp2_with fail
  with_reducible refine hc.mono ?_
  rintro e w99 ⟨rfl, BN⟩
  have B3 : Below w.heap.size w w99 := B2.trans (BN.mono B2.size)
  clear hc BN B2
  go_wp2
  simp [bodyPost, results, Try.results3, go_sem]
  exact B3
end Go.Proofs.Ytohdlfilldaghaa
