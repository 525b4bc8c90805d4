import Derived.Test.YtcgibaggponfnaaDoorKTurned
namespace Go.Proofs.YtcgibaggponfnaaDoor
open Go.RowKit Go.Sort

theorem row8_copied {W : World} {g : Nat} {X Z T : List (BitVec 8)} (hl : Z.length = X.length) (hr : Row8 W g (X ++ T)) : Row8 (W.setCells g 0 (byts Z)) g (Z ++ T) := by
  have e : (Z ++ T).length = (X ++ T).length := by simp [hl]
  refine ⟨fun i hi => ?_, by rw [e]; exact hr.2.setCells _ _ _⟩
  rw [e] at hi
  have hc := hr.1 i hi
  rw [Nat.zero_add] at hc ⊢
  by_cases h : i < Z.length
  · have th : W.there g 0 (byts Z).length := fun j hj => by
      rw [byts_len] at hj
      have hj2 : j < (X ++ T).length := by rw [List.length_append]; omega
      refine ⟨by rw [hr.1 j hj2]; rfl, ?_⟩
      rw [Nat.zero_add]
      exact hr.2 j hj2
    have h2 := World.rangeAt_setCells_same W g 0 (byts Z) th i (.int .u8 (Y ((Z ++ T).getD i 0))) (by simp [byts, List.getD, h, List.getElem?_append_left h])
    rw [Nat.zero_add] at h2
    exact h2
  · rw [World.cell?_setCells_out _ _ _ _ _ (fun _ _ => .inr (by rw [byts_len]; show 0 + Z.length ≤ i; omega)), hc]
    rw [List.getD, List.getD, List.getElem?_append_right (by omega), List.getElem?_append_right (by omega), hl]

/-- A copy of a text over another of its length. -/
theorem wpList_copy_row8 {P : Program} {w : World} {ops : Array Oper} {rest : List Oper} {o : Oper} {a : Act} {Q : Exit → Act → World → Prop} (hgd : o.guard = none) (d s : Operand) (dT sT : TypeId)
    (ho : o.op = .call { callee := .builtin .copy, args := #[d, s], argTypes := #[dT, sT] }) (elem : TypeId) (hu : P.underlying dT = some (.slice elem)) (hsz : (P.info? elem).map (·.size) = some 1)
    {g n m dCap sCap bs os : Nat} {sp : Option Addr} {X Z T : List (BitVec 8)} (hd : a.eval d = .slice (some ⟨g, 0, none⟩) n dCap) (hs : a.eval s = .slice sp m sCap) (hn : n = X.length) (hm : m = Z.length) (hl : Z.length = X.length) (hr : Row8 w g (X ++ T)) (hat : At sp bs os Z) (hby : Byo w bs os Z)
    (h : ∀ w', Row8 w' g (Z ++ T) → Off g w w' → wpList P ops Q rest (a.put o.dst (goInt Z.length)) w') : wpList P ops Q (o :: rest) a w := by
  subst hn hm
  by_cases h0 : Z = []
  · subst h0
    have hx : X = [] := List.length_eq_zero_iff.1 (by simpa using hl.symm)
    subst hx
    exact wpList_copy_nothing hgd d s dT sT ho elem hu hsz _ _ _ _ _ _ hd hs rfl (h w hr (Off.refl _ _))
  · rcases hat with h1 | h1
    · exact absurd h1 h0
    · subst h1
      refine wpList_plain hgd fun K hK => ?_
      have hrun := run_copy_cells (P := P) w dT sT o.type elem g 0 X.length dCap ⟨bs, os, none⟩ Z.length sCap (byts Z) hu hsz (by rw [byts_len, hl]; exact (Nat.min_self _).symm) (fun j v hv => by
          unfold byts at hv
          rw [List.getElem?_map] at hv
          obtain ⟨x, hx, rfl⟩ := Option.map_eq_some_iff.1 hv
          have hj : j < Z.length := (List.getElem?_eq_some_iff.1 hx).1
          rw [Addr.add_mid, hby j hj]
          simp [List.getD, hx]) (fun j hj => by
          rw [byts_len] at hj
          rw [hr.1 j (by rw [List.length_append]; omega)]
          rfl) (fun j hj => by
          rw [byts_len] at hj
          rw [Nat.zero_add]
          exact hr.2 j (by rw [List.length_append]; omega)) (fun v hv => by obtain ⟨x, _, rfl⟩ := List.mem_map.1 hv; rfl)
      rw [byts_len] at hrun
      unfold Oper.wp
      simp [execOp, ho, resolve, invoke, builtin, hd, hs, hrun, Result.andThen]
      exact hK _ _ (h _ (row8_copied hl hr) ((Off.refl _ _).setCells _))

theorem Row8.off {W W' : World} {b g : Nat} {X : List (BitVec 8)} (h : Row8 W g X) (ho : Off b W W') (ne : g ≠ b) (hl : g < W.heap.size) : Row8 W' g X :=
  ⟨h.1.off ho ne, fun i hi => by rw [World.frozen?_of_block (w := W) (a := ⟨g, i, none⟩) (ho.block g hl ne)]; exact h.2 i hi⟩
theorem Lent.ne {W : World} {B G i j : Nat} {XS : List (List (BitVec 8))} {gs : List Nat} (h : Lent W B G XS gs) (hi : i < gs.length) (hj : j < gs.length) (ne : j ≠ i) : gs.getD j 0 ≠ gs.getD i 0 := by
  rcases Nat.lt_or_gt_of_ne ne with h1 | h1
  · exact (h i hi).2.2.2 j h1
  · exact ((h j hj).2.2.2 i h1).symm
theorem Lent.copied {W W' : World} {B G i : Nat} {XS : List (List (BitVec 8))} {gs : List Nat} {Z : List (BitVec 8)} (h : Lent W B G XS gs) (hi : i < gs.length) (hx : gs.length = XS.length) (hz : Z.length = (XS.getD i []).length) (hr : Row8 W' (gs.getD i 0) (Z ++ List.replicate 200 195)) (ho : Off (gs.getD i 0) W W') : Lent W' B G (XS.set i Z) gs := by
  intro j hj
  obtain ⟨h1, h2, h3, h4⟩ := h j hj
  have hG : G ≠ gs.getD i 0 := ((h i hi).2.1.2.2).symm
  have hc := ho.cell (p := ⟨G, j, none⟩) hG h1
  by_cases e : j = i
  · subst e
    have eZ : (XS.set j Z).getD j [] = Z := by simp [List.getD, show j < XS.length by omega]
    rw [eZ, hz]
    exact ⟨hc, ⟨h2.1, Nat.lt_of_lt_of_le h2.2.1 ho.size, h2.2.2⟩, hr, h4⟩
  · have eZ : (XS.set i Z).getD j [] = XS.getD j [] := by simp [List.getD, List.getElem?_set_ne (Ne.symm e)]
    rw [eZ]
    exact ⟨hc, ⟨h2.1, Nat.lt_of_lt_of_le h2.2.1 ho.size, h2.2.2⟩, h3.off ho (h.ne hi hj e) h2.2.1, h4⟩

/-- What is lent, as parts. -/
def lentP (XS : List (List (BitVec 8))) (gs : List Nat) : List Part := (List.range gs.length).map fun i => ⟨some ⟨gs.getD i 0, 0, none⟩, gs.getD i 0, 0, (XS.getD i []).length + 200, XS.getD i []⟩
theorem lentP_len (XS : List (List (BitVec 8))) (gs : List Nat) : (lentP XS gs).length = gs.length := by simp [lentP]
theorem Lent.prts {W : World} {B G : Nat} {XS : List (List (BitVec 8))} {gs : List Nat} (h : Lent W B G XS gs) : Prts W G 0 (lentP XS gs) := by
  intro i hi
  rw [lentP_len] at hi
  obtain ⟨h1, h2, h3, h4⟩ := h i hi
  have e : (lentP XS gs).getD i .none = ⟨some ⟨gs.getD i 0, 0, none⟩, gs.getD i 0, 0, (XS.getD i []).length + 200, XS.getD i []⟩ := by simp [lentP, List.getD, hi]
  rw [e, Nat.zero_add]
  refine ⟨h1, .inr rfl, Nat.le_add_right _ _, fun j hj => ?_⟩
  have hj' : j < (XS.getD i []).length := hj
  have := h3.1 j (by rw [List.length_append]; omega)
  rw [room_at _ hj'] at this
  exact this
theorem lentP_cat {XS : List (List (BitVec 8))} {gs : List Nat} (h : gs.length = XS.length) : catX (lentP XS gs) = XS.flatten := by
  have : (lentP XS gs).map (·.X) = XS := by
    apply List.ext_getElem (by simp [lentP_len, h])
    intro i h1 h2
    simp [lentP, List.getD, h2]
  rw [catX, List.flatMap_def, this]
theorem catX_flat (PS : List Part) : catX PS = (PS.map (·.X)).flatten := List.flatMap_def ..

end Go.Proofs.YtcgibaggponfnaaDoor
