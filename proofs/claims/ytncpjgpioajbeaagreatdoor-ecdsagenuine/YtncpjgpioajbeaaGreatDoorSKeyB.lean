import Derived.Test.YtncpjgpioajbeaaGreatDoorSMasked
import Derived.Test.YtncpjgpioajbeaaGreatDoorSHangs0
namespace Go.Proofs.YtncpjgpioajbeaaGreatDoor.S
open Go.RowKit Go.Sort

theorem row8_copied {W : World} {g : Nat} {X Z T : List (BitVec 8)} (hl : Z.length = X.length) (hr : Row8 W g (X ++ T)) : Row8 (W.setCells g 0 (byts Z)) g (Z ++ T) := by
  have e : (Z ++ T).length = (X ++ T).length := by simp [hl]
  refine ⟨fun i hi => ?_, by rw [e]; exact hr.2.setCells _ _ _⟩
  rw [e] at hi
  have hc := hr.1 i hi
  rw [Nat.zero_add] at hc ⊢
  by_cases h : i < Z.length
  · have th : W.there g 0 (byts Z).length := fun j hj => by
      rw [byts_len] at hj
      have hj2 : j < (X ++ T).length := by rw [List.length_append]; omega
      refine ⟨by rw [hr.1 j hj2]; rfl, ?_⟩
      rw [Nat.zero_add]
      exact hr.2 j hj2
    have h2 := World.rangeAt_setCells_same W g 0 (byts Z) th i (.int .u8 (Y ((Z ++ T).getD i 0))) (by simp [byts, List.getD, h, List.getElem?_append_left h])
    rw [Nat.zero_add] at h2
    exact h2
  · rw [World.cell?_setCells_out _ _ _ _ _ (fun _ _ => .inr (by rw [byts_len]; show 0 + Z.length ≤ i; omega)), hc]
    rw [List.getD, List.getD, List.getElem?_append_right (by omega), List.getElem?_append_right (by omega), hl]

/-- A copy of a text to the front of a row. -/
theorem wpList_copy_front {P : Program} {w : World} {ops : Array Oper} {rest : List Oper} {a : Act} {Q : Exit → Act → World → Prop} {nd : Nat} {tt : TypeId} {pos : String} {after : Array Edge} {d s : Operand} {dT sT elem : TypeId}
    {g n dCap m sCap bs os : Nat} {sp : Option Addr} {Z X T : List (BitVec 8)} (hu : P.underlying dT = some (.slice elem)) (hsz : (P.info? elem).map (·.size) = some 1) (hr : Row8 w g (X ++ T)) (hat : At sp bs os Z) (hby : Byo w bs os Z) (hl : Z.length = X.length) (hm : m = Z.length) (hn : Z.length ≤ n)
    (hd : a.eval d = .slice (some ⟨g, 0, none⟩) n dCap) (hs : a.eval s = .slice sp m sCap)
    (h : ∀ w', Row8 w' g (Z ++ T) → Off g w w' → wpList P ops Q rest (a.put (some nd) (goInt Z.length)) w') : wpList P ops Q (⟨some nd, .call { callee := .builtin .copy, args := #[d, s], argTypes := #[dT, sT] }, tt, pos, after, none⟩ :: rest) a w := by
  subst hm
  by_cases h0 : Z = []
  · subst h0
    have hx : X = [] := List.length_eq_zero_iff.1 (by simpa using hl.symm)
    subst hx
    refine wpList_copy_nothing rfl d s dT sT rfl elem hu hsz _ _ _ _ _ _ hd hs (by simp) (h w hr (Off.refl _ _))
  · rcases hat with h1 | h1
    · exact absurd h1 h0
    · subst h1
      refine wpList_plain rfl fun K hK => ?_
      have hrun := run_copy_cells (P := P) w dT sT tt elem g 0 n dCap ⟨bs, os, none⟩ Z.length sCap (byts Z) hu hsz (by rw [byts_len]; exact (Nat.min_eq_left hn).symm) (fun j v hv => by
          unfold byts at hv
          rw [List.getElem?_map] at hv
          obtain ⟨x, hx, rfl⟩ := Option.map_eq_some_iff.1 hv
          have hj : j < Z.length := (List.getElem?_eq_some_iff.1 hx).1
          rw [Addr.add_mid, hby j hj]
          simp [List.getD, hx]) (fun j hj => by
          rw [byts_len] at hj
          rw [hr.1 j (by rw [List.length_append]; omega)]
          rfl) (fun j hj => by
          rw [byts_len] at hj
          rw [Nat.zero_add]
          exact hr.2 j (by rw [List.length_append]; omega)) (fun v hv => by obtain ⟨x, _, rfl⟩ := List.mem_map.1 hv; rfl)
      rw [byts_len] at hrun
      unfold Oper.wp
      simp [execOp, resolve, invoke, builtin, hd, hs, hrun, Result.andThen]
      exact hK _ _ (h _ (row8_copied hl hr) ((Off.refl _ _).setCells _))

theorem sum_part {W : World} {p : Part} {v : Value} (t : TypeId) (ev : v = p.val) (ok : p.ok W) (hl : p.X.length < 1073740000) (hf : Wds W 2 0 hN) (hk : Wds W 3 0 kN) :
    Calls Tryz.prog 77 #[.slice (some ⟨W.heap.size, 0, none⟩) 1 1] (W.alloc (.cells #[v] t)) fun e w' => e = .returned (.agg (byts (shaL p.X)).toArray) ∧ Below W.heap.size W w' := by
  have B := (Below.refl W.heap.size W).alloc (Nat.le_refl _) (.cells #[v] t)
  have h := sum_any (PS := [p]) (a := some ⟨W.heap.size, 0, none⟩) (cp := 1) (by rw [cat_one]; exact hl) (by show 1 ≤ _; omega) (Nat.le_refl _) (.inr rfl) _ (one_part' t ev ok) (hf.keep B) (hk.keep B)
  rw [cat_one] at h
  exact h.mono fun _ _ ⟨h1, h2⟩ => ⟨h1, B.trans (h2.mono B.size)⟩

/-- A key as a block. -/
def keyL (X : List (BitVec 8)) : List (BitVec 8) := if 64 < X.length then shaL X ++ List.replicate 32 0 else X ++ List.replicate (64 - X.length) 0
theorem keyL_len (X : List (BitVec 8)) : (keyL X).length = 64 := by
  unfold keyL
  split
  · rw [List.length_append, shaL_len, List.length_replicate]
  · rw [List.length_append, List.length_replicate]; omega

theorem Row8.off {W W' : World} {b g : Nat} {X : List (BitVec 8)} (h : Row8 W g X) (ho : Off b W W') (ne : g ≠ b) (hl : g < W.heap.size) : Row8 W' g X :=
  ⟨h.1.off ho ne, fun i hi => by rw [World.frozen?_of_block (ho.block g hl ne)]; exact h.2 i hi⟩

set_option maxRecDepth 100000 in
set_option maxHeartbeats 4000000 in
theorem keyBlock_any {a : Option Addr} {bd od cd : Nat} {X : List (BitVec 8)} (hl : X.length < 1073740000) (hc : X.length ≤ cd) (ha : At a bd od X) (w : World) (hX : Byo w bd od X) (hf : Wds w 2 0 hN) (hk : Wds w 3 0 kN) :
    Calls Tryz.prog 73 #[.slice a X.length cd] w fun e w' => e = .returned (.agg (byts (keyL X)).toArray) ∧ Below w.heap.size w w' := by
  have HH : Hid (At a bd od X ∧ Byo w bd od X ∧ Wds w 2 0 hN ∧ Wds w 3 0 kN ∧ X.length < 1073740000 ∧ X.length ≤ cd) := ⟨ha, hX, hf, hk, hl, hc⟩
  clear ha hX hf hk hl hc
  have isz : (Tryz.prog.info? 5).map (·.size) = some 1 := by kernel_rfl
  go_enter Tryz.func73, Tryz.ntmps73
  have rp : ∀ n, n ≤ 64 → List.replicate n (0 : BitVec 8) ++ List.replicate (64 - n) 0 = List.replicate 64 0 := fun n hn => by rw [List.replicate_append_replicate]; congr 1; omega
  by_cases h64 : 64 < X.length
  · have d1 : decide (64 < (X.length : Int)) = true := decide_eq_true (by omega)
    obtain ⟨V0, kV⟩ : ∃ V0, V0 = (w.alloc (.cells #[.int .u8 0, .int .u8 0, .int .u8 0, .int .u8 0, .int .u8 0, .int .u8 0, .int .u8 0, .int .u8 0, .int .u8 0, .int .u8 0, .int .u8 0, .int .u8 0, .int .u8 0, .int .u8 0, .int .u8 0, .int .u8 0, .int .u8 0, .int .u8 0, .int .u8 0, .int .u8 0, .int .u8 0, .int .u8 0, .int .u8 0, .int .u8 0, .int .u8 0, .int .u8 0, .int .u8 0, .int .u8 0, .int .u8 0, .int .u8 0, .int .u8 0, .int .u8 0, .int .u8 0, .int .u8 0, .int .u8 0, .int .u8 0, .int .u8 0, .int .u8 0, .int .u8 0, .int .u8 0, .int .u8 0, .int .u8 0, .int .u8 0, .int .u8 0, .int .u8 0, .int .u8 0, .int .u8 0, .int .u8 0, .int .u8 0, .int .u8 0, .int .u8 0, .int .u8 0, .int .u8 0, .int .u8 0, .int .u8 0, .int .u8 0, .int .u8 0, .int .u8 0, .int .u8 0, .int .u8 0, .int .u8 0, .int .u8 0, .int .u8 0, .int .u8 0] 98)).alloc (.cells #[.int .u8 0, .int .u8 0, .int .u8 0, .int .u8 0, .int .u8 0, .int .u8 0, .int .u8 0, .int .u8 0, .int .u8 0, .int .u8 0, .int .u8 0, .int .u8 0, .int .u8 0, .int .u8 0, .int .u8 0, .int .u8 0, .int .u8 0, .int .u8 0, .int .u8 0, .int .u8 0, .int .u8 0, .int .u8 0, .int .u8 0, .int .u8 0, .int .u8 0, .int .u8 0, .int .u8 0, .int .u8 0, .int .u8 0, .int .u8 0, .int .u8 0, .int .u8 0, .int .u8 0, .int .u8 0, .int .u8 0, .int .u8 0, .int .u8 0, .int .u8 0, .int .u8 0, .int .u8 0, .int .u8 0, .int .u8 0, .int .u8 0, .int .u8 0, .int .u8 0, .int .u8 0, .int .u8 0, .int .u8 0, .int .u8 0, .int .u8 0, .int .u8 0, .int .u8 0, .int .u8 0, .int .u8 0, .int .u8 0, .int .u8 0, .int .u8 0, .int .u8 0, .int .u8 0, .int .u8 0, .int .u8 0, .int .u8 0, .int .u8 0, .int .u8 0] 98) := ⟨_, rfl⟩
    have H0 : Hid (Below w.heap.size w V0 ∧ Row8 V0 w.heap.size (List.replicate 64 0) ∧ Row8 V0 (w.heap.size + 1) (List.replicate 64 0) ∧ V0.heap.size = w.heap.size + 1 + 1) := by
      rw [kV]
      exact ⟨((Below.refl _ _).alloc (Nat.le_refl _) _).alloc (by simp) _, (Row8.zeros64 _ rfl).keep ((Below.refl _ _).alloc (Nat.le_refl _) _) (by simp), Row8.zeros64 _ (by simp), by simp⟩
    go_wp2_with fail
    rw [← kV, ← H0.out.2.2.2]
    clear kV
    refine (sum_part (p := ⟨a, bd, od, cd, X⟩) _ rfl ⟨HH.out.1, HH.out.2.2.2.2.2, HH.out.2.1.keep H0.out.1⟩ HH.out.2.2.2.2.1 (HH.out.2.2.1.keep H0.out.1) (HH.out.2.2.2.1.keep H0.out.1)).mono ?_
    dsimp only
    obtain ⟨D, kD⟩ : ∃ D, D = shaL X := ⟨_, rfl⟩
    rw [← kD]
    have lD : Hid (D.length = 32 ∧ shaL X = D) := ⟨by rw [kD]; exact shaL_len X, kD.symm⟩
    clear kD
    rintro e w1 ⟨rfl, hb⟩
    have H1 : Hid (Below w.heap.size w w1 ∧ Row8 w1 w.heap.size (List.replicate 64 0) ∧ Row8 w1 (w.heap.size + 1) (List.replicate 64 0) ∧ w.heap.size + 1 < w1.heap.size) := ⟨H0.out.1.trans (hb.mono H0.out.1.size), H0.out.2.1.keep hb (by have := H0.out; omega), H0.out.2.2.1.keep hb (by have := H0.out; omega), by have := H0.out; have := hb.size; omega⟩
    clear hb H0
    have sz : ((byts D).toArray).size = 32 := by simp [byts_len, lD.out.1]
    have oc := one_byts D
    have il : (Tryz.prog.info? 26).map (·.size) = some ((byts D).toArray).size := by rw [sz]; kernel_rfl
    go_wp2_with (first
      | ((with_reducible refine wpList_store_at (ty := 26) w1.heap.size 0 (byts D).toArray ?_ il oc ?_ ?_ ?_); rw [sz]; exact (Hsh.zeros _ rfl).there; rfl; rfl; refine wpList_world (fun V => Below w.heap.size w V ∧ Row8 V w.heap.size (List.replicate 64 0) ∧ Row8 V (w.heap.size + 1) (List.replicate 64 0) ∧ Hsh V w1.heap.size D ∧ w.heap.size + 1 < V.heap.size) ⟨below_setCells H1.out.1.size _ 0 _ (H1.out.1.alloc H1.out.1.size _), ?_, ?_, (Hsh.zeros _ rfl).stored lD.out.1, ?_⟩ ?_; exact (H1.out.2.1.keep ((Below.refl _ _).alloc (Nat.le_refl _) _) (by have := H1.out; omega)).off ((Off.refl w1.heap.size _).setCells _) (by have := H1.out; omega) (by have := H1.out; simp; omega); exact (H1.out.2.2.1.keep ((Below.refl _ _).alloc (Nat.le_refl _) _) (by have := H1.out; omega)).off ((Off.refl w1.heap.size _).setCells _) (by have := H1.out; omega) (by have := H1.out; simp; omega); (have h9 := ((Off.refl w1.heap.size (w1.alloc (.cells #[.int .u8 0, .int .u8 0, .int .u8 0, .int .u8 0, .int .u8 0, .int .u8 0, .int .u8 0, .int .u8 0, .int .u8 0, .int .u8 0, .int .u8 0, .int .u8 0, .int .u8 0, .int .u8 0, .int .u8 0, .int .u8 0, .int .u8 0, .int .u8 0, .int .u8 0, .int .u8 0, .int .u8 0, .int .u8 0, .int .u8 0, .int .u8 0, .int .u8 0, .int .u8 0, .int .u8 0, .int .u8 0, .int .u8 0, .int .u8 0, .int .u8 0, .int .u8 0] 26))).setCells (o := 0) (byts D)).size; (have := H1.out); simp at h9 ⊢; omega); intro w2' h2; have H2 : Hid (Below w.heap.size w w2' ∧ Row8 w2' w.heap.size (List.replicate 64 0) ∧ Row8 w2' (w.heap.size + 1) (List.replicate 64 0) ∧ Hsh w2' w1.heap.size D ∧ w.heap.size + 1 < w2'.heap.size) := h2; clear h2))
    (try simp only [Act.put])
    refine region_tail 2 (by kernel_rfl) (by kernel_rfl) ?_
    simp only [List.take_succ_cons, List.take_zero, List.drop_succ_cons, List.drop_zero]
    repeat (first | go_big_quiet_skip | (go_big_quiet_want; go_big_quiet_op; go_big_quiet_on))
    refine wpQuiet_nil ?_
    refine wpList_copy_front (g := w.heap.size + 1) (n := 64) (dCap := 64) (m := 32) (sCap := 32) (bs := w1.heap.size) (os := 0) (sp := some ⟨w1.heap.size, 0, none⟩) (Z := D) (X := List.replicate 32 0) (T := List.replicate 32 0) (dT := 76) Tryz.underlying76 isz (show Row8 w2'.drew _ _ from H2.out.2.2.1) (.inr rfl) ?_ (by rw [lD.out.1]; simp) lD.out.1.symm (by rw [lD.out.1]; omega) rfl rfl ?_
    · intro j hj
      rw [Nat.zero_add]
      exact H2.out.2.2.2.1.2.1 j (by have := lD.out.1; omega)
    intro w2 h2 o2
    have HV : Hid (Row8 w2 (w.heap.size + 1) (shaL X ++ List.replicate 32 0) ∧ Below w.heap.size w w2 ∧ Row8 w2 w.heap.size (List.replicate 64 0)) := ⟨by rw [lD.out.2]; exact h2, H2.out.1.drew.trans (o2.below H2.out.1.size (by omega)), (show Row8 w2'.drew _ _ from H2.out.2.1).off o2 (by omega) (by have := H2.out.2.2.2.2; show w.heap.size < w2'.heap.size; omega)⟩
    clear h2 o2
    clear sz oc il
    obtain ⟨M, kM⟩ : ∃ M, M = keyL X := ⟨_, rfl⟩
    have eM : Hid (Row8 w2 (w.heap.size + 1) M ∧ Below w.heap.size w w2 ∧ Row8 w2 w.heap.size (List.replicate 64 0)) := by
      rw [kM, keyL, if_pos h64]
      exact HV.out
    have lM : Hid (M.length = 64 ∧ keyL X = M) := ⟨by rw [kM]; exact keyL_len X, kM.symm⟩
    clear kM HV
    have rb := eM.out.1.1.range
    have sz : ((byts M).toArray).size = 64 := by simp [byts_len, lM.out.1]
    have tr : w2.there w.heap.size 0 ((byts M).toArray).size := by have h := eM.out.2.2.there; rw [List.length_replicate] at h; rw [sz]; exact h
    have oc := one_byts M
    have il : (Tryz.prog.info? 98).map (·.size) = some (byts M).length := by rw [byts_len, lM.out.1]; kernel_rfl
    have il3 : (Tryz.prog.info? 98).map (·.size) = some ((byts M).toArray).size := by rw [sz]; kernel_rfl
    go_wp2_with (first
      | ((with_reducible refine wpList_load_at (ty := 98) (w.heap.size + 1) 0 (byts M) _ rb Tryz.underlying98 ?_ il ?_ ?_); rfl; rfl; simp only [Act.put, List.setIfInBounds_toArray, List.set_cons_succ, List.set_cons_zero])
      | ((with_reducible refine wpList_store_at (ty := 98) w.heap.size 0 (byts M).toArray tr il3 oc ?_ ?_ ?_); rfl; rfl))
    have ld := run_loadVar_mid (P := Tryz.prog) (w2.setCells w.heap.size 0 (byts M)) w.heap.size 0 98 (byts M) _ (World.rangeAt_setCells_same _ _ _ _ (by simpa using tr)) Tryz.underlying98 rfl il
    refine bodyPost_ret (v := .agg (byts M).toArray) ?_ rfl ⟨by rw [lM.out.2], below_setCells (Nat.le_refl _) (byts M) 0 w2 eM.out.2.1⟩
    simp [results, Tryz.results73, Act.put, asAddr, ld]
  · have d1 : decide (64 < (X.length : Int)) = false := decide_eq_false (by omega)
    go_wp2_with ((with_reducible refine wpList_copy_front (g := w.heap.size + 1) (n := 64) (dCap := 64) (m := X.length) (sCap := cd) (Z := X) (X := List.replicate X.length 0) (T := List.replicate (64 - X.length) 0) (dT := 76) Tryz.underlying76 isz ?_ HH.out.1 ?_ ?_ ?_ ?_ ?_ ?_ ?_); rw [rp _ (by omega)]; exact Row8.zeros64 _ (by simp); exact (HH.out.2.1.keep ((Below.refl _ _).alloc (Nat.le_refl _) _)).keep ((Below.refl _ _).alloc (Nat.le_refl _) _); simp; rfl; omega; rfl; rfl; intro w2 h2 o2; have HV : Hid (Row8 w2 (w.heap.size + 1) (X ++ List.replicate (64 - X.length) 0) ∧ Below w.heap.size w w2 ∧ Row8 w2 w.heap.size (List.replicate 64 0)) := ⟨h2, (((Below.refl _ _).alloc (Nat.le_refl _) _).alloc (by simp) _).trans (o2.below (by simp; omega) (by omega)), ((Row8.zeros64 _ rfl).keep ((Below.refl _ _).alloc (Nat.le_refl _) _) (by simp)).off o2 (by omega) (by simp; omega)⟩; clear h2 o2; refine hold ?_)
    show wpList _ _ _ _ _ _
    obtain ⟨M, kM⟩ : ∃ M, M = keyL X := ⟨_, rfl⟩
    have eM : Hid (Row8 w2 (w.heap.size + 1) M ∧ Below w.heap.size w w2 ∧ Row8 w2 w.heap.size (List.replicate 64 0)) := by
      rw [kM, keyL, if_neg h64]
      exact HV.out
    have lM : Hid (M.length = 64 ∧ keyL X = M) := ⟨by rw [kM]; exact keyL_len X, kM.symm⟩
    clear kM HV
    have rb := eM.out.1.1.range
    have sz : ((byts M).toArray).size = 64 := by simp [byts_len, lM.out.1]
    have tr : w2.there w.heap.size 0 ((byts M).toArray).size := by have h := eM.out.2.2.there; rw [List.length_replicate] at h; rw [sz]; exact h
    have oc := one_byts M
    have il : (Tryz.prog.info? 98).map (·.size) = some (byts M).length := by rw [byts_len, lM.out.1]; kernel_rfl
    have il3 : (Tryz.prog.info? 98).map (·.size) = some ((byts M).toArray).size := by rw [sz]; kernel_rfl
    go_wp2_with (first
      | ((with_reducible refine wpList_load_at (ty := 98) (w.heap.size + 1) 0 (byts M) _ rb Tryz.underlying98 ?_ il ?_ ?_); rfl; rfl; simp only [Act.put, List.setIfInBounds_toArray, List.set_cons_succ, List.set_cons_zero])
      | ((with_reducible refine wpList_store_at (ty := 98) w.heap.size 0 (byts M).toArray tr il3 oc ?_ ?_ ?_); rfl; rfl))
    have ld := run_loadVar_mid (P := Tryz.prog) (w2.setCells w.heap.size 0 (byts M)) w.heap.size 0 98 (byts M) _ (World.rangeAt_setCells_same _ _ _ _ (by simpa using tr)) Tryz.underlying98 rfl il
    refine bodyPost_ret (v := .agg (byts M).toArray) ?_ rfl ⟨by rw [lM.out.2], below_setCells (Nat.le_refl _) (byts M) 0 w2 eM.out.2.1⟩
    simp [results, Tryz.results73, Act.put, asAddr, ld]

end Go.Proofs.YtncpjgpioajbeaaGreatDoor.S
