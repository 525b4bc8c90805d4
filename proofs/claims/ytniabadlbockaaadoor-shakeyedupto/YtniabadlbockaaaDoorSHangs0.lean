import Derived.Test.YtniabadlbockaaaDoorSFolded
import Derived.Test.YtniabadlbockaaaDoorSEqH
namespace Go.Proofs.YtniabadlbockaaaDoor
open Go.RowKit Go.Sort

set_option maxHeartbeats 1000000 in
theorem which_any (k : Int) {n : Nat} (h0 : 0 < n) (hn : n < 8589934592) (w : World) :
    Calls Tryd.prog 18 #[.int .i64 k, .int .i64 (n : Int)] w fun e w' => ∃ m : Nat, m < n ∧ e = .returned (.int .i64 (m : Int)) ∧ w' = w := by
  have hp : (0 : Int) < (n : Int) := by omega
  have a := Int.tmod_lt_of_pos k hp
  have b := Int.tmod_lt_of_pos (-k) hp
  rw [Int.neg_tmod] at b
  have A : Hid (k.tmod n < n ∧ -(k.tmod n) < n ∧ n < 8589934592) := ⟨a, b, hn⟩
  clear a b hn
  go_enter Tryd.func18, Tryd.ntmps18
  by_cases hs : k.tmod n < 0
  · have e1 : wrap64 (k.tmod n + n) = k.tmod n + n := by unfold wrap64; have := A.out; omega
    have d : decide (k.tmod n < 0) = true := decide_eq_true hs
    go_wp2
    go_ret
    refine ⟨(k.tmod n + n).toNat, by have := A.out; omega, ?_, rfl⟩
    have e2 : (((k.tmod n + n).toNat : Nat) : Int) = k.tmod n + n := Int.toNat_of_nonneg (by have := A.out; omega)
    rw [e2]
    first | rfl | (show Ending.returned (.int .i64 (wrap64 (k.tmod n + n))) = _; rw [e1])
  · have d : decide (k.tmod n < 0) = false := decide_eq_false hs
    go_wp2
    go_ret
    refine ⟨(k.tmod n).toNat, by have := A.out; omega, ?_, rfl⟩
    have e2 : (((k.tmod n).toNat : Nat) : Int) = k.tmod n := Int.toNat_of_nonneg (by omega)
    rw [e2]
    rfl

theorem one_part' {W : World} {p : Part} {v : Value} (t : TypeId) (e : v = p.val) (h : p.ok W) : Prts (W.alloc (.cells #[v] t)) W.heap.size 0 [p] := by
  subst e
  intro i hi
  have hi' : i = 0 := by simpa using hi
  subst hi'
  rw [Nat.zero_add, World.cell?_alloc_mark]
  exact ⟨rfl, h.1, h.2.1, h.2.2.keep ((Below.refl _ _).alloc (Nat.le_refl _) _)⟩

/-- A whole array loaded under a guard. -/
theorem wpList_load_want {P : Program} {ops : Array Oper} {rest : List Oper} {a : Act} {w : World} {Q : Exit → Act → World → Prop} {n gi : Nat} {gb : Bool} {ty tt : TypeId} {x : Operand} {pos : String} {after : Array Edge} (b o : Nat) (cs : List Value) (d : TypeDesc) (hc : w.rangeAt b o cs)
    (hu : P.underlying ty = some d) (hd : d.isRow = true) (hi : (P.info? ty).map (·.size) = some cs.length) (hx : a.eval x = .pointer (some ⟨b, o, none⟩)) (hw : Region.wanted ⟨some n, .load ty x, tt, pos, after, some (gi, gb)⟩ (yielded ops a.tmps) = true)
    (h : wpList P ops Q rest (a.put (some n) (.agg cs.toArray)) w) : wpList P ops Q (⟨some n, .load ty x, tt, pos, after, some (gi, gb)⟩ :: rest) a w :=
  BigFrame.wpList_want hw fun _ hK => wp_load_mid ty x rfl b o hx cs d hc hu hd hi (hK _ _ h)
theorem own_slice {B : Nat} {W : World} {v : Value} {X : List (BitVec 8)} (h : Own B W v X) : ∃ a c, v = .slice a X.length c := by
  obtain ⟨p, ev, ex, _⟩ := own_part h
  exact ⟨p.a, p.c, by rw [ev, Part.val, ex]⟩
theorem sum_own {B : Nat} {W : World} {v : Value} {X : List (BitVec 8)} (t : TypeId) (hl : X.length < 1073740000) (h : Own B W v X) (hf : Wds W 0 0 hN) (hk : Wds W 1 0 kN) :
    Calls Tryd.prog 12 #[.slice (some ⟨W.heap.size, 0, none⟩) 1 1] (W.alloc (.cells #[v] t)) fun e w' => e = .returned (.agg (byts (shaL X)).toArray) ∧ Below W.heap.size W w' := by
  obtain ⟨p, ev, ex, ok, _, _⟩ := own_part h
  subst ex
  have B := (Below.refl W.heap.size W).alloc (Nat.le_refl _) (.cells #[v] t)
  have h := sum_any (PS := [p]) (a := some ⟨W.heap.size, 0, none⟩) (cp := 1) (by rw [cat_one]; exact hl) (by show 1 ≤ _; omega) (Nat.le_refl _) (.inr rfl) _ (one_part' t ev ok) (hf.keep B) (hk.keep B)
  rw [cat_one] at h
  exact h.mono fun _ _ ⟨h1, h2⟩ => ⟨h1, B.trans (h2.mono B.size)⟩

set_option maxRecDepth 100000 in
set_option maxHeartbeats 4000000 in
theorem hangs_any {a a' : Option Addr} {bd od cd bo oo co : Nat} {X Z : List (BitVec 8)} {k : Int} (hl : X.length < 1073740000) (hc : X.length ≤ cd) (ha : At a bd od X) (hl2 : Z.length < 1073740000) (ha2 : At a' bo oo Z) (w : World) (hX : Byo w bd od X) (hZ : Byo w bo oo Z) (hf : Wds w 0 0 hN) (hk : Wds w 1 0 kN) :
    Calls Tryd.prog 5 #[.slice a X.length cd, .slice a' Z.length co, .int .i64 k] w fun e w' => e = .returned (.bool true) ∧ Below w.heap.size w w' := by
  have HH : Hid (At a bd od X ∧ Byo w bd od X ∧ Wds w 0 0 hN ∧ Wds w 1 0 kN ∧ X.length < 1073740000 ∧ X.length ≤ cd) := ⟨ha, hX, hf, hk, hl, hc⟩
  have HZ : Hid (At a' bo oo Z ∧ Byo w bo oo Z ∧ Z.length < 1073740000) := ⟨ha2, hZ, hl2⟩
  have hl' : (X.length : Int) < 1073740000 := by omega
  clear ha hX hf hk hl hc ha2 hZ hl2
  go_enter Tryd.func5, Tryd.ntmps5
  obtain ⟨D, kD⟩ : ∃ D, D = shaL X := ⟨_, rfl⟩
  have lD : Hid (D.length = 32) := by rw [kD]; exact shaL_len X
  have KD : Hid (shaL X = D) := kD.symm
  have sz : ((byts D).toArray).size = 32 := by simp [byts_len, lD.out]
  have oc := one_byts D
  have il : (Tryd.prog.info? 27).map (·.size) = some ((byts D).toArray).size := by rw [sz]; kernel_rfl
  clear kD
  go_wp2_with fail
  refine (folded_any HH.out.2.2.2.2.1 HH.out.2.2.2.2.2 HH.out.1 _ HH.out.2.1 HH.out.2.2.1 HH.out.2.2.2.1).mono ?_
  rw [KD.out]
  rintro e w1 ⟨rfl, hb⟩
  have H1 : Hid (Below w.heap.size w w1) := hb
  clear hb
  go_wp2_with ((with_reducible refine wpList_store_at (ty := 27) w1.heap.size 0 (byts D).toArray ?_ il oc ?_ ?_ ?_); rw [sz]; exact (Hsh.zeros _ rfl).there; rfl; rfl; refine wpList_world (fun V => Below w.heap.size w V ∧ Hsh V w1.heap.size D) ⟨below_setCells H1.out.size _ 0 _ (H1.out.alloc H1.out.size _), (Hsh.zeros _ rfl).stored lD.out⟩ ?_; intro w2 h2; have H2 : Hid (Below w.heap.size w w2 ∧ Hsh w2 w1.heap.size D) := h2; clear h2)
  generalize w1.heap.size = g0 at *
  refine (copied_any (by have := HH.out; omega) HH.out.1 _ (HH.out.2.1.keep H2.out.1)).mono ?_
  rintro e w3 ⟨v3, rfl, o3, hb⟩
  obtain ⟨a3, c3, e3⟩ := own_slice o3
  subst e3
  have H3 : Hid (Below w.heap.size w w3 ∧ Hsh w3 g0 D ∧ Own w2.heap.size w3 (.slice a3 X.length c3) X) := ⟨H2.out.1.trans (hb.mono H2.out.1.size), H2.out.2.keep hb, o3⟩
  clear hb o3 H1 H2
  go_wp2_with fail
  refine (sum_own _ HH.out.2.2.2.2.1 H3.out.2.2 (HH.out.2.2.1.keep H3.out.1) (HH.out.2.2.2.1.keep H3.out.1)).mono ?_
  rw [KD.out]
  rintro e w4 ⟨rfl, hb⟩
  have H4 : Hid (Below w.heap.size w w4 ∧ Hsh w4 g0 D) := ⟨H3.out.1.trans (hb.mono H3.out.1.size), H3.out.2.1.keep hb⟩
  clear hb H3
  go_wp2_with ((with_reducible refine wpList_store_at (ty := 27) w4.heap.size 0 (byts D).toArray ?_ il oc ?_ ?_ ?_); rw [sz]; exact (Hsh.zeros _ rfl).there; rfl; rfl; refine wpList_world (fun V => Below w.heap.size w V ∧ Hsh V g0 D ∧ Hsh V w4.heap.size D) ⟨below_setCells H4.out.1.size _ 0 _ (H4.out.1.alloc H4.out.1.size _), (H4.out.2.alloc _).otherCells (by have := H4.out.2.lt; omega) _, (Hsh.zeros _ rfl).stored lD.out⟩ ?_; intro w5 h5; have H5 : Hid (Below w.heap.size w w5 ∧ Hsh w5 g0 D ∧ Hsh w5 w4.heap.size D) := h5; clear h5)
  generalize w4.heap.size = g1 at *
  refine (copied_any (by have := HZ.out; omega) HZ.out.1 _ (HZ.out.2.1.keep H5.out.1)).mono ?_
  rintro e w6 ⟨v6, rfl, o6, hb⟩
  obtain ⟨a6, c6, e6⟩ := own_slice o6
  subst e6
  have H6 : Hid (Below w.heap.size w w6 ∧ Hsh w6 g0 D ∧ Hsh w6 g1 D ∧ Own w5.heap.size w6 (.slice a6 Z.length c6) Z) := ⟨H5.out.1.trans (hb.mono H5.out.1.size), H5.out.2.1.keep hb, H5.out.2.2.keep hb, o6⟩
  clear hb o6 H4 H5
  go_wp2_with fail
  refine (sum_own _ HZ.out.2.2 H6.out.2.2.2 (HH.out.2.2.1.keep H6.out.1) (HH.out.2.2.2.1.keep H6.out.1)).mono ?_
  rintro e w7 ⟨rfl, hb⟩
  have H7 : Hid (Below w.heap.size w w7 ∧ Hsh w7 g0 D ∧ Hsh w7 g1 D) := ⟨H6.out.1.trans (hb.mono H6.out.1.size), H6.out.2.1.keep hb, H6.out.2.2.1.keep hb⟩
  clear hb H6
  generalize byts (shaL Z) = NZ at *
  go_wp2_with fail
  refine (copied_any (by have := HH.out; omega) HH.out.1 _ (HH.out.2.1.keep H7.out.1)).mono ?_
  rintro e w8 ⟨v8, rfl, o8, hb⟩
  obtain ⟨a8, c8, e8⟩ := own_slice o8
  subst e8
  have H8 : Hid (Below w.heap.size w w8 ∧ Hsh w8 g0 D ∧ Hsh w8 g1 D ∧ Own w7.heap.size w8 (.slice a8 X.length c8) X) := ⟨H7.out.1.trans (hb.mono H7.out.1.size), H7.out.2.1.keep hb, H7.out.2.2.keep hb, o8⟩
  clear hb o8 H7
  go_wp2_with fail
  refine (sum_own _ HH.out.2.2.2.2.1 H8.out.2.2.2 (HH.out.2.2.1.keep H8.out.1) (HH.out.2.2.2.1.keep H8.out.1)).mono ?_
  rw [KD.out]
  rintro e w9 ⟨rfl, hb⟩
  have H9 : Hid (Below w.heap.size w w9 ∧ Hsh w9 g0 D ∧ Hsh w9 g1 D) := ⟨H8.out.1.trans (hb.mono H8.out.1.size), H8.out.2.1.keep hb, H8.out.2.2.1.keep hb⟩
  clear hb H8
  go_wp2_with ((with_reducible refine wpList_store_at (ty := 27) w9.heap.size 0 (byts D).toArray ?_ il oc ?_ ?_ ?_); rw [sz]; exact (Hsh.zeros _ rfl).there; rfl; rfl; refine wpList_world (fun V => Below w.heap.size w V ∧ Hsh V g0 D ∧ Hsh V g1 D ∧ Hsh V w9.heap.size D) ⟨below_setCells H9.out.1.size _ 0 _ (H9.out.1.alloc H9.out.1.size _), (H9.out.2.1.alloc _).otherCells (by have := H9.out.2.1.lt; omega) _, (H9.out.2.2.alloc _).otherCells (by have := H9.out.2.2.lt; omega) _, (Hsh.zeros _ rfl).stored lD.out⟩ ?_; intro wa ha; have HA : Hid (Below w.heap.size w wa ∧ Hsh wa g0 D ∧ Hsh wa g1 D ∧ Hsh wa w9.heap.size D) := ha; clear ha; refine hold ?_)
  show wpList _ _ _ _ _ _
  generalize w9.heap.size = g2 at *
  have q0 := fun w => eq_hash lD.out lD.out w
  simp only [decide_true] at q0
  have r0 := HA.out.2.1.range
  have r1 := HA.out.2.2.1.range
  have r2 := HA.out.2.2.2.range
  have ilD : (Tryd.prog.info? 27).map (·.size) = some (byts D).length := by rw [byts_len, lD.out]; kernel_rfl
  clear H9
  by_cases h0 : X.length = 0
  · have e0 : ((X.length : Int) == 0) = true := beq_iff_eq.2 (by omega)
    go_wp2_with (first | ((with_reducible refine wpList_load_want (ty := 27) g0 0 (byts D) _ r0 Tryd.underlying27 ?_ ilD ?_ ?_ ?_); rfl; rfl; rfl; simp only [Act.put, List.setIfInBounds_toArray, List.set_cons_succ, List.set_cons_zero]) | ((with_reducible refine wpList_load_want (ty := 27) g1 0 (byts D) _ r1 Tryd.underlying27 ?_ ilD ?_ ?_ ?_); rfl; rfl; rfl; simp only [Act.put, List.setIfInBounds_toArray, List.set_cons_succ, List.set_cons_zero]) | ((with_reducible refine wpList_load_want (ty := 27) g2 0 (byts D) _ r2 Tryd.underlying27 ?_ ilD ?_ ?_ ?_); rfl; rfl; rfl; simp only [Act.put, List.setIfInBounds_toArray, List.set_cons_succ, List.set_cons_zero]))
    go_ret
    exact ⟨rfl, HA.out.1⟩
  · have e0 : ((X.length : Int) == 0) = false := beq_eq_false_iff_ne.2 (by omega)
    go_wp2_with (first | ((with_reducible refine wpList_load_want (ty := 27) g0 0 (byts D) _ r0 Tryd.underlying27 ?_ ilD ?_ ?_ ?_); rfl; rfl; rfl; simp only [Act.put, List.setIfInBounds_toArray, List.set_cons_succ, List.set_cons_zero]) | ((with_reducible refine wpList_load_want (ty := 27) g1 0 (byts D) _ r1 Tryd.underlying27 ?_ ilD ?_ ?_ ?_); rfl; rfl; rfl; simp only [Act.put, List.setIfInBounds_toArray, List.set_cons_succ, List.set_cons_zero]) | ((with_reducible refine wpList_load_want (ty := 27) g2 0 (byts D) _ r2 Tryd.underlying27 ?_ ilD ?_ ?_ ?_); rfl; rfl; rfl; simp only [Act.put, List.setIfInBounds_toArray, List.set_cons_succ, List.set_cons_zero]))
    have HB : Hid (Below w.heap.size w wa) := HA.out.1
    clear r0 r1 r2 ilD HA q0
    refine (copied_any (by have := HH.out; omega) HH.out.1 _ (HH.out.2.1.keep HB.out)).mono ?_
    rintro e w4 ⟨v4, rfl, o4, hb⟩
    obtain ⟨g, c, ev, hc⟩ := own_form o4 (by omega)
    subst ev
    have H4 : Hid (Below w.heap.size w w4 ∧ Own wa.heap.size w4 (.slice (some ⟨g, 0, none⟩) X.length c) X ∧ w.heap.size ≤ wa.heap.size) := ⟨HB.out.trans (hb.mono HB.out.size), o4, HB.out.size⟩
    clear hb o4 HB
    go_wp2_with fail
    rw [show 8 * (X.length : Int) = ((8 * X.length : Nat) : Int) by omega]
    refine (which_any k (n := 8 * X.length) (by omega) (by have := HH.out; omega) _).mono ?_
    rintro e w5 ⟨m, hm, rfl, rfl⟩
    obtain ⟨q, eq⟩ : ∃ q : Nat, q = m / 8 := ⟨_, rfl⟩
    have q1 : q < X.length := by omega
    have q2 : ((m : Int) / 8).toNat = m / 8 := by omega
    have q3 : (m : Int) / 8 < (X.length : Int) := by omega
    obtain ⟨x, kx⟩ : ∃ x, X.getD (m / 8) 0 = x := ⟨_, rfl⟩
    have gq : w5.cell? ⟨g, m / 8, none⟩ = some (.int .u8 (Y x)) := by
      rw [H4.out.2.1.row.cellAt (m / 8) (by omega), ← kx]
      simp [byts, List.getD, show m / 8 < X.length by omega]
    have fq := H4.out.2.1.row.frozenAt (m / 8)
    have mb : (m : Int) < 8589934592 := by have := HH.out; omega
    obtain ⟨b, hb⟩ := Y_of (n := 2 ^ (m % 8) % 256) (by omega) (by omega)
    have vx : bits .xor .u8 (Y x) (2 ^ (m % 8) % 256) = Y (x ^^^ b) := by rw [← hb]; exact Y_xor x b
    obtain ⟨X', kX⟩ : ∃ X', X' = X.set (m / 8) (x ^^^ b) := ⟨_, rfl⟩
    have H5 : Hid (Below w.heap.size w (w5.setCell ⟨g, m / 8, none⟩ (.int .u8 (Y (x ^^^ b)))) ∧ Own wa.heap.size (w5.setCell ⟨g, m / 8, none⟩ (.int .u8 (Y (x ^^^ b)))) (.slice (some ⟨g, 0, none⟩) X.length c) X' ∧ X'.length = X.length ∧ X.length ≤ c) := by
      refine ⟨H4.out.1.setCell (Nat.le_trans H4.out.2.2 (H4.out.2.1.row.lt g rfl).1) _, ?_, by rw [kX, List.length_set], hc⟩
      have h := (H4.out.2.1.row.stored (m / 8) (.int .u8 (Y (x ^^^ b)))).1
      rw [byts_set, ← kX] at h
      rw [Own, kX, List.length_set, ← kX]
      exact h
    clear hb kx kX hm eq q1
    go_wp2_with fail
    refine calls_world (fun V => Below w.heap.size w V ∧ Own wa.heap.size V (.slice (some ⟨g, 0, none⟩) X.length c) X' ∧ X'.length = X.length ∧ X.length ≤ c) H5.out ?_
    clear H5 H4 gq fq vx hc
    rintro w6 ⟨h6, o6, l6, c6'⟩
    have HL : Hid (X'.length = X.length ∧ X'.length < 1073740000) := ⟨l6, by have := HH.out; omega⟩
    rw [← l6] at o6 c6' ⊢
    have BY : Byo w6 g 0 X' := fun i hi => by
      rw [Nat.zero_add, o6.row.cellAt i (by omega)]
      simp [byts, List.getD, hi]
    have H6 : Hid (Below w.heap.size w w6 ∧ Own wa.heap.size w6 (.slice (some ⟨g, 0, none⟩) X'.length c) X') := ⟨h6, o6⟩
    refine (folded_any (X := X') HL.out.2 c6' (.inr rfl) _ BY (HH.out.2.2.1.keep h6) (HH.out.2.2.2.1.keep h6)).mono ?_
    obtain ⟨E, kE⟩ : ∃ E, E = shaL X' := ⟨_, rfl⟩
    have lE : Hid (E.length = 32) := by rw [kE]; exact shaL_len X'
    have KE : Hid (shaL X' = E) := kE.symm
    rw [KE.out]
    rintro e w7 ⟨rfl, hb⟩
    have H7 : Hid (Below w.heap.size w w7 ∧ Own wa.heap.size w7 (.slice (some ⟨g, 0, none⟩) X'.length c) X') := ⟨H6.out.1.trans (hb.mono H6.out.1.size), own_same H6.out.2 (fun k hk => hb.block k (H6.out.2.row.lt k hk).2)⟩
    clear hb kE H6 h6 o6 BY c6' l6
    have szE : ((byts E).toArray).size = 32 := by simp [byts_len, lE.out]
    have ocE := one_byts E
    have ilE : (Tryd.prog.info? 27).map (·.size) = some ((byts E).toArray).size := by rw [szE]; kernel_rfl
    go_wp2_with ((with_reducible refine wpList_store_at (ty := 27) w7.heap.size 0 (byts E).toArray ?_ ilE ocE ?_ ?_ ?_); rw [szE]; exact (Hsh.zeros _ rfl).there; rfl; rfl; refine wpList_world (fun V => Below w.heap.size w V ∧ Own wa.heap.size V (.slice (some ⟨g, 0, none⟩) X'.length c) X' ∧ Hsh V w7.heap.size E) ⟨below_setCells H7.out.1.size _ 0 _ (H7.out.1.alloc H7.out.1.size _), own_same (H7.out.2.row.alloc _) (fun k hk => World.heap_setCells_other _ _ _ _ ((H7.out.2.row.alloc _).lt k hk).2 (by have := (H7.out.2.row.lt k hk).2; omega)), (Hsh.zeros _ rfl).stored lE.out⟩ ?_; intro w8' h8; have H8 : Hid (Below w.heap.size w w8' ∧ Own wa.heap.size w8' (.slice (some ⟨g, 0, none⟩) X'.length c) X' ∧ Hsh w8' w7.heap.size E) := h8; clear h8)
    generalize w7.heap.size = g3 at *
    (try simp only [Act.put])
    have q0 := fun w => eq_hash lE.out lE.out w
    simp only [decide_true] at q0
    have CS : Hid (∀ t, Calls Tryd.prog 12 #[.slice (some ⟨w8'.heap.size, 0, none⟩) 1 1] (w8'.drew.alloc (.cells #[.slice (some ⟨g, 0, none⟩) X'.length c] t)) fun e w' => e = .returned (.agg (byts E).toArray) ∧ Below w8'.heap.size w8' w') := by
      intro t
      have h := sum_own (W := w8'.drew) t HL.out.2 (show Own wa.heap.size w8'.drew _ X' from H8.out.2.1) (Wds.drew (HH.out.2.2.1.keep H8.out.1)) (Wds.drew (HH.out.2.2.2.1.keep H8.out.1))
      rw [KE.out] at h
      exact h.mono fun _ _ ⟨h1, h2⟩ => ⟨h1, (Below.refl _ _).drew.trans h2⟩
    have SK : Hid (∀ W, Below w8'.heap.size w8' W → W.rangeAt g3 0 (byts E)) := fun W hW => (H8.out.2.2.keep hW).range
    have un := Tryd.underlying27
    have lB : (byts E).length = 32 := by rw [byts_len, lE.out]
    have ilB : (Tryd.prog.info? 27).map (·.size) = some (byts E).length := by rw [lB]; kernel_rfl
    have o1 : ∀ v ∈ byts E, v.oneCell' = true := fun v hv => by obtain ⟨x, _, rfl⟩ := List.mem_map.1 hv; rfl
    clear ilE ocE szE il oc sz
    go_region_held (fun w' => w'.rangeAt g3 0 (byts E)) (((try dsimp only); refine SK.out _ ?_; (repeat (first | with_reducible assumption | with_reducible exact Below.refl _ _ | with_reducible refine Below.drew ?_ | with_reducible refine Below.alloc ?_ (by first | (simp; done) | (have := B1.size; simp; omega)) _)))) ((go_at_call 12; refine (CS.out _).mono ?_; rintro e wz ⟨rfl, B1⟩))
    all_goals go_wp2
    all_goals go_ret
    all_goals exact ⟨rfl, H8.out.1.trans (B1.mono H8.out.1.size)⟩

end Go.Proofs.YtniabadlbockaaaDoor
