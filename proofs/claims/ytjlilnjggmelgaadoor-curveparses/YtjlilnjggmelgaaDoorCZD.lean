import Derived.Test.YtjlilnjggmelgaaDoorCZC
import Derived.Test.YtjlilnjggmelgaaDoorCZL
import Derived.Test.YtjlilnjggmelgaaDoorCPnt
import Derived.Test.YtjlilnjggmelgaaDoorCJx
namespace Go.Proofs.YtjlilnjggmelgaaDoor
open Go.RowKit Go.Sort

theorem byts_revZ {X : List Int} (h : Byts X) : Byts X.reverse := fun i => by
  by_cases k : i < X.length
  · rw [List.getD, List.getElem?_reverse k]; exact h _
  · rw [List.getD, List.getElem?_eq_none (by rw [List.length_reverse]; omega)]
    exact ⟨by decide, by decide⟩
theorem pK_num {X : List Int} (hX : Byts X) : Num (pK X).1 ∧ Num (pK X).2.1 := by
  have hz : Num (0 : Int) := ⟨by decide, by decide⟩
  have b1 := byts_takeZ (drop_bytsU hX 1) 32
  have b2 := byts_takeZ (drop_bytsU hX 33) 32
  unfold pK
  by_cases hs : shP X
  · have k1 : ((X.drop 1).take 32).length = 32 := by rw [List.length_take, List.length_drop]; have := hs.1; omega
    rw [if_pos hs]
    split
    · exact lift_nums _ (xy_num b1 k1) _
    · exact ⟨hz, hz⟩
  · rw [if_neg hs]
    by_cases hg : lgP X
    · have k1 : ((X.drop 1).take 32).length = 32 := by rw [List.length_take, List.length_drop]; have := hg.1; omega
      have k2 : ((X.drop 33).take 32).length = 32 := by rw [List.length_take, List.length_drop]; have := hg.1; omega
      rw [if_pos hg]
      split
      · split
        · exact ⟨xy_num b1 k1, xy_num b2 k2⟩
        · exact ⟨hz, hz⟩
      · exact ⟨hz, hz⟩
    · rw [if_neg hg]; exact ⟨hz, hz⟩
theorem lnumZ_any (v : Int) (w : World) : Calls Tryd.prog 7 #[.int .i64 v] w fun e w' => e = .returned (.int .i64 v) ∧ Below w.heap.size w w' := by
  go_enter Tryd.func7, Tryd.ntmps7
  go_wp2
  simp [bodyPost, results, Tryd.results7, go_sem]
  exact Below.refl _ _
/-- A point in a block that may be written. -/
def PvZ (W : World) (b : Nat) (x y : Int) (i : Bool) : Prop := Pnt W b x y i ∧ Loose W b 9
theorem PvZ.lt {W : World} {b : Nat} {x y : Int} {i : Bool} (h : PvZ W b x y i) : b < W.heap.size := h.1.lt
theorem PvZ.keep {W w1 : World} {b : Nat} {x y : Int} {i : Bool} (h : PvZ W b x y i) (hb : Below W.heap.size W w1) : PvZ w1 b x y i := ⟨h.1.keep hb, h.2.keep hb h.lt⟩
theorem PvZ.alloc {W : World} {b : Nat} {x y : Int} {i : Bool} (h : PvZ W b x y i) (ob : Obj) : PvZ (W.alloc ob) b x y i := h.keep ((Below.refl _ _).alloc (Nat.le_refl _) ob)
theorem PvZ.new {W : World} {b : Nat} {t : TypeId} {x y : Int} {i : Bool} (e : b = W.heap.size) : PvZ (W.alloc (.cells #[.int .u64 (l0 x), .int .u64 (l1 x), .int .u64 (l2 x), .int .u64 (l3 x), .int .u64 (l0 y), .int .u64 (l1 y), .int .u64 (l2 y), .int .u64 (l3 y), .bool i] t)) b x y i := ⟨Pnt.new e, by subst e; exact Loose.new _ _ _ _⟩
theorem PvZ.free {W : World} {b : Nat} {x y : Int} {i : Bool} (h : PvZ W b x y i) : W.frozen? ⟨b, 0, none⟩ = false ∧ W.frozen? ⟨b, 1, none⟩ = false ∧ W.frozen? ⟨b, 2, none⟩ = false ∧ W.frozen? ⟨b, 3, none⟩ = false ∧ W.frozen? ⟨b, 4, none⟩ = false ∧ W.frozen? ⟨b, 5, none⟩ = false ∧ W.frozen? ⟨b, 6, none⟩ = false ∧ W.frozen? ⟨b, 7, none⟩ = false ∧ W.frozen? ⟨b, 8, none⟩ = false := ⟨h.2 0 (by decide), h.2 1 (by decide), h.2 2 (by decide), h.2 3 (by decide), h.2 4 (by decide), h.2 5 (by decide), h.2 6 (by decide), h.2 7 (by decide), h.2 8 (by decide)⟩
theorem PvZ.grown {W W' : World} {b : Nat} {x y : Int} {i : Bool} {row : Option Nat} (h : PvZ W b x y i) (hg : W.grownBy W' row) (hn : row ≠ some b) : PvZ W' b x y i := by
  have e : W'.heap[b]? = W.heap[b]? := hg.block b h.lt (fun e => hn e.symm)
  refine ⟨fun k hk => ?_, fun k hk => ?_⟩
  · rw [← h.1 k hk]; simp only [World.cell?, e]
  · rw [← h.2 k hk]; simp only [World.frozen?, e]
theorem grown_cellZ (w : World) (b i : Nat) (v : Value) : w.grownBy (w.setCell ⟨b, i, none⟩ v) (some b) := ⟨rfl, rfl, rfl, by simp [World.setCell], fun k _ hk => heap_setCell_other w ⟨b, i, none⟩ k v (fun e => hk (by rw [e]))⟩
/-- Nine cells written. -/
def set9Z (W : World) (b : Nat) (x' y' : Int) (i' : Bool) : World := (((((((((W.setCell ⟨b, 0, none⟩ (.int .u64 (l0 x'))).setCell ⟨b, 1, none⟩ (.int .u64 (l1 x'))).setCell ⟨b, 2, none⟩ (.int .u64 (l2 x'))).setCell ⟨b, 3, none⟩ (.int .u64 (l3 x'))).setCell ⟨b, 4, none⟩ (.int .u64 (l0 y'))).setCell ⟨b, 5, none⟩ (.int .u64 (l1 y'))).setCell ⟨b, 6, none⟩ (.int .u64 (l2 y'))).setCell ⟨b, 7, none⟩ (.int .u64 (l3 y'))).setCell ⟨b, 8, none⟩ (.bool i'))
theorem set9Z_grown (W : World) (b : Nat) (x' y' : Int) (i' : Bool) : W.grownBy (set9Z W b x' y' i') (some b) := by
  unfold set9Z
  exact ((((((((grown_cellZ W b 0 _).trans (grown_cellZ _ b 1 _)).trans (grown_cellZ _ b 2 _)).trans (grown_cellZ _ b 3 _)).trans (grown_cellZ _ b 4 _)).trans (grown_cellZ _ b 5 _)).trans (grown_cellZ _ b 6 _)).trans (grown_cellZ _ b 7 _)).trans (grown_cellZ _ b 8 _)
theorem PvZ.set9 {W : World} {b : Nat} {x y : Int} {i : Bool} (h : PvZ W b x y i) (x' y' : Int) (i' : Bool) : PvZ (set9Z W b x' y' i') b x' y' i' := by
  obtain ⟨a0, a1, a2, a3, a4, a5, a6, a7, a8⟩ := h.1.cells
  refine ⟨fun k hk => ?_, fun k hk => ?_⟩
  · have hk' : k < 9 := by simpa using hk
    have hc : k = 0 ∨ k = 1 ∨ k = 2 ∨ k = 3 ∨ k = 4 ∨ k = 5 ∨ k = 6 ∨ k = 7 ∨ k = 8 := by omega
    unfold set9Z
    rcases hc with rfl | rfl | rfl | rfl | rfl | rfl | rfl | rfl | rfl <;> simp [go_sem, a0, a1, a2, a3, a4, a5, a6, a7, a8]
  · have := h.2 k hk
    unfold set9Z
    simp [go_sem, this]
set_option maxRecDepth 100000 in
set_option maxHeartbeats 32000000 in
theorem cparses_any {a : Option Addr} {bb ob c : Nat} {X : List Int} (hm2 : X.length ≤ 140737488351232) (hX : Byts X) (lc : X.length ≤ c) (hZ : Az a bb ob X) (w : World) (hm : Mds w) (hz : Bz w bb ob X) :
    Calls Tryd.prog 3 #[.slice a X.length c] w fun e w' => e = .returned (.bool true) ∧ Below w.heap.size w w' := by
  have hY := byts_revZ hX
  have E1 := fun w => eq_pt_yes (i := false) (pK_num hX).1 (pK_num hX).2 w
  have E2 := fun w => eq_pt_yes (i := false) (pK_num hY).1 (pK_num hY).2 w
  have LE : Hid (∀ W, Below w.heap.size w W → Calls Tryd.prog 4 #[.slice a X.length c] W fun e w' => e = .returned (.slice (some ⟨W.heap.size, 0, none⟩) X.length (X.length + 70)) ∧ Rw8 w' W.heap.size (lentL X) ∧ Below W.heap.size W w') := fun W B => lent5_any (by omega) hZ W (hz.keep B)
  have PA : Hid (∀ W g cap, Below w.heap.size w W → X.length ≤ cap → Bz W g 0 X → Calls Tryd.prog 5 #[.slice (some ⟨g, 0, none⟩) X.length cap] W fun e w' => e = .returned (.tuple #[.agg #[.int .u64 (l0 (pK X).1), .int .u64 (l1 (pK X).1), .int .u64 (l2 (pK X).1), .int .u64 (l3 (pK X).1), .int .u64 (l0 (pK X).2.1), .int .u64 (l1 (pK X).2.1), .int .u64 (l2 (pK X).2.1), .int .u64 (l3 (pK X).2.1), .bool false], .int .i64 (pK X).2.2]) ∧ Below W.heap.size W w') := fun W g cap B h1 h2 => parse_all hX h1 W (hm.keep B) h2
  have RA : Hid (∀ W, Below w.heap.size w W → Calls Tryd.prog 6 #[.slice a X.length c] W fun e w' => e = .returned (.tuple #[.agg #[.int .u64 (l0 (pK X).1), .int .u64 (l1 (pK X).1), .int .u64 (l2 (pK X).1), .int .u64 (l3 (pK X).1), .int .u64 (l0 (pK X).2.1), .int .u64 (l1 (pK X).2.1), .int .u64 (l2 (pK X).2.1), .int .u64 (l3 (pK X).2.1), .bool false], .int .i64 (pK X).2.2]) ∧ Below W.heap.size W w') := fun W B => rparse_all hX lc hZ W (hz.keep B)
  have PA2 : Hid (∀ W g cap, Below w.heap.size w W → X.length ≤ cap → Bz W g 0 X.reverse → Calls Tryd.prog 5 #[.slice (some ⟨g, 0, none⟩) X.length cap] W fun e w' => e = .returned (.tuple #[.agg #[.int .u64 (l0 (pK X.reverse).1), .int .u64 (l1 (pK X.reverse).1), .int .u64 (l2 (pK X.reverse).1), .int .u64 (l3 (pK X.reverse).1), .int .u64 (l0 (pK X.reverse).2.1), .int .u64 (l1 (pK X.reverse).2.1), .int .u64 (l2 (pK X.reverse).2.1), .int .u64 (l3 (pK X.reverse).2.1), .bool false], .int .i64 (pK X.reverse).2.2]) ∧ Below W.heap.size W w') := fun W g cap B h1 h2 => by
    have h := parse_all (cap := cap) hY (by rw [List.length_reverse]; exact h1) W (hm.keep B) h2
    rw [List.length_reverse] at h
    exact h
  have RA2 : Hid (∀ W B' v, OwnB B' W v X.reverse → Calls Tryd.prog 6 #[v] W fun e w' => e = .returned (.tuple #[.agg #[.int .u64 (l0 (pK X.reverse).1), .int .u64 (l1 (pK X.reverse).1), .int .u64 (l2 (pK X.reverse).1), .int .u64 (l3 (pK X.reverse).1), .int .u64 (l0 (pK X.reverse).2.1), .int .u64 (l1 (pK X.reverse).2.1), .int .u64 (l2 (pK X.reverse).2.1), .int .u64 (l3 (pK X.reverse).2.1), .bool false], .int .i64 (pK X.reverse).2.2]) ∧ Below W.heap.size W w') := fun W B' v h => by
    obtain ⟨a1, g1, c1, rfl, h1, z1, y1, _⟩ := h.lies
    exact rparse_all hY h1 z1 W y1
  have ST : Hid (∀ W g, Below w.heap.size w W → Rw8 W g (lentL X) → Calls Tryd.prog 8 #[.slice (some ⟨g, 0, none⟩) X.length (X.length + 70), .slice a X.length c] W fun e w' => e = .returned (.bool true) ∧ Below W.heap.size W w') := fun W g B h => still5_any (by omega) hZ W h (hz.keep B)
  have ST2 : Hid (∀ W g B' v, Rw8 W g (lentL X.reverse) → OwnB B' W v X.reverse → Calls Tryd.prog 8 #[.slice (some ⟨g, 0, none⟩) X.length (X.length + 70), v] W fun e w' => e = .returned (.bool true) ∧ Below W.heap.size W w') := fun W g B' v h ho => by
    obtain ⟨a1, g1, c1, rfl, h1, z1, y1, _⟩ := ho.lies
    have h := still5_any (cd := c1) (by rw [List.length_reverse]; omega) z1 W h y1
    rw [List.length_reverse] at h ⊢
    exact h
  have BW : Hid (∀ W, Below w.heap.size w W → Calls Tryd.prog 9 #[.slice a X.length c] W fun e w' => ∃ v, e = .returned v ∧ OwnB W.heap.size w' v X.reverse ∧ Below W.heap.size W w') := fun W B => backward5_any (by omega) hZ W (hz.keep B)
  have NU : Hid (∀ (v : Int) (w : World), Calls Tryd.prog 7 #[.int .i64 v] w fun e w' => e = .returned (.int .i64 v) ∧ Below w.heap.size w w') := fun v w => lnumZ_any v w
  obtain ⟨m, em⟩ : ∃ m, m = X.length := ⟨_, rfl⟩
  rw [← em] at hm2 lc LE PA RA PA2 ST ST2 BW ⊢
  have HM : Hid (X.length = m ∧ X.reverse.length = m ∧ m ≤ 140737488351232) := ⟨em.symm, by rw [List.length_reverse]; exact em.symm, hm2⟩
  have lm : (m : Int) ≤ 140737488351232 := by omega
  clear em hX hY hZ hz hm hm2 lc
  generalize (pK X.reverse).1 = qx at *
  generalize (pK X.reverse).2.1 = qy at *
  generalize (pK X.reverse).2.2 = qe at *
  generalize (pK X).1 = px at *
  generalize (pK X).2.1 = py at *
  generalize (pK X).2.2 = pe at *
  go_enter Tryd.func3, Tryd.ntmps3
  refine wp_seq_k fun K h => ?_
  have H : Hid _ := h
  clear h
  go_wp2_with fail
  refine H.out _ _ ?_
  clear H K
  refine wp_seq_k fun K h => ?_
  have H : Hid _ := h
  clear h
  go_wp2_with fail
  with_reducible refine (LE.out w (Below.refl _ _)).mono ?_
  rintro e w1 ⟨rfl, rG, BB⟩
  go_wp2_with fail
  refine H.out _ _ ?_
  clear H K
  refine wp_seq_k fun K h => ?_
  have H : Hid _ := h
  clear h
  go_wp2_with fail
  with_reducible refine (PA.out w1 w.heap.size (m + 70) BB (by omega) (lentL_bz rG)).mono ?_
  rintro e w2 ⟨rfl, hb⟩
  replace BB := BB.trans (hb.mono BB.size)
  replace rG := rG.keep hb
  clear hb w1
  go_wp2_with fail
  refine H.out _ _ ?_
  clear H K
  refine wp_world (fun W => Below w.heap.size w W ∧ Rw8 W w.heap.size (lentL X) ∧ PvZ W w2.heap.size px py false) ⟨BB.alloc BB.size _, rG.keep ((Below.refl _ _).alloc (Nat.le_refl _) _), PvZ.new rfl⟩ ?_
  have n1 : Hid (w.heap.size < w2.heap.size) := rG.lt
  clear BB rG
  rintro W3 ⟨BB, rG, hP⟩
  generalize w2.heap.size = b1 at *
  clear w2
  refine wp_seq_k fun K h => ?_
  have H : Hid _ := h
  clear h
  go_wp2_with fail
  with_reducible refine (RA.out W3 BB).mono ?_
  rintro e w4 ⟨rfl, hb⟩
  replace BB := BB.trans (hb.mono BB.size)
  replace rG := rG.keep hb
  replace hP := hP.keep hb
  clear hb W3
  go_wp2_with fail
  refine H.out _ _ ?_
  clear H K
  refine wp_world (fun W => Below w.heap.size w W ∧ Rw8 W w.heap.size (lentL X) ∧ PvZ W b1 px py false ∧ PvZ W w4.heap.size px py false) ⟨BB.alloc BB.size _, rG.keep ((Below.refl _ _).alloc (Nat.le_refl _) _), hP.alloc _, PvZ.new rfl⟩ ?_
  have n2 : Hid (b1 < w4.heap.size) := hP.lt
  clear BB rG hP
  rintro W5 ⟨BB, rG, hP, hQ⟩
  generalize w4.heap.size = b2 at *
  clear w4
  refine wp_seq_k fun K h => ?_
  have H : Hid _ := h
  clear h
  have gP := hP.1.cells
  have gQ := hQ.1.cells
  go_wp2_with fail
  with_reducible refine (NU.out _ W5).mono ?_
  rintro e w6 ⟨rfl, hb⟩
  replace BB := BB.trans (hb.mono BB.size)
  replace rG := rG.keep hb
  replace hP := hP.keep hb
  replace hQ := hQ.keep hb
  clear hb W5 gP gQ
  go_wp2_with fail
  with_reducible refine (ST.out w6 w.heap.size BB rG).mono ?_
  rintro e w7 ⟨rfl, hb⟩
  replace BB := BB.trans (hb.mono BB.size)
  replace rG := rG.keep hb
  replace hP := hP.keep hb
  replace hQ := hQ.keep hb
  clear hb w6
  go_wp2_with fail
  refine H.out _ _ ?_
  clear H K
  refine wp_seq_k fun K h => ?_
  have H : Hid _ := h
  clear h
  go_wp2_with fail
  have s7 : w.heap.size ≤ w7.heap.size := BB.size
  with_reducible refine (BW.out w7 BB).mono ?_
  rintro e w8 ⟨v8, rfl, o8, hb⟩
  have hQ7 : Hid (b2 < w7.heap.size) := hQ.lt
  replace BB := BB.trans (hb.mono BB.size)
  replace rG := rG.keep hb
  replace hP := hP.keep hb
  replace hQ := hQ.keep hb
  have I8 : Hid (∀ k, v8.ownBlock = some k → b2 < k) := fun k hk => Nat.lt_of_lt_of_le hQ7.out (o8.lt k hk).1
  replace o8 := o8.base s7
  clear hb hQ7 s7 w7
  obtain ⟨a8, g8, c8, rfl, q8, z8, y8, n8, m8, _⟩ := o8.lies
  rw [HM.out.2.1] at o8 I8 ⊢
  go_wp2_with fail
  refine H.out _ _ ?_
  clear H K
  refine wp_seq_k fun K h => ?_
  have H : Hid _ := h
  clear h
  have r1' : Rw8 w8 w.heap.size (X ++ List.replicate 70 195) := rG
  go_wp2_with ((refine wpList_copy_over rfl _ _ rfl rfl rfl HM.out.1.symm HM.out.2.1.symm (HM.out.2.1.trans HM.out.1.symm) r1' z8 y8 ?_); intro w9 r9 G9)
  go_wp2_with fail
  refine H.out _ _ ?_
  clear H K
  have R9 : Rw8 w9 w.heap.size (lentL X.reverse) := r9
  have m1 : Hid (w.heap.size ≠ b1 ∧ w.heap.size ≠ b2 ∧ b1 ≠ b2) := by have := n1.out; have := n2.out; exact ⟨by omega, by omega, by omega⟩
  replace BB := BB.grown G9 BB.size (fun k hk => by have := Option.some.inj hk; omega)
  replace hP := hP.grown G9 (fun e => m1.out.1 (Option.some.inj e))
  replace hQ := hQ.grown G9 (fun e => m1.out.2.1 (Option.some.inj e))
  replace o8 := o8.kept G9 (fun k hk e => by have := I8.out k hk; have := n1.out; have := n2.out; have := Option.some.inj e; omega)
  clear rG r1' r9 z8 y8 n8 m8 G9 q8 w8
  refine wp_seq_k fun K h => ?_
  have H : Hid _ := h
  clear h
  go_wp2_with fail
  with_reducible refine (PA2.out w9 w.heap.size (m + 70) BB (by omega) (lentL_bz R9)).mono ?_
  rintro e w10 ⟨rfl, hb⟩
  replace BB := BB.trans (hb.mono BB.size)
  replace R9 := R9.keep hb
  replace hP := hP.keep hb
  replace hQ := hQ.keep hb
  replace o8 := o8.keep hb
  clear hb w9
  have gP := hP.1.cells
  have fP := hP.free
  go_wp2_with fail
  have G := set9Z_grown w10 b1 qx qy false
  refine H.out _ _ ?_
  clear H K
  refine wp_world (fun W => Below w.heap.size w W ∧ Rw8 W w.heap.size (lentL X.reverse) ∧ PvZ W b1 qx qy false ∧ PvZ W b2 px py false ∧ OwnB w.heap.size W (.slice a8 m c8) X.reverse) ⟨BB.grown G BB.size (fun k hk => by have := Option.some.inj hk; have := n1.out; omega), R9.grown G (fun e => m1.out.1 (Option.some.inj e).symm), hP.set9 qx qy false, hQ.grown G (fun e => m1.out.2.2 (Option.some.inj e)), o8.kept G (fun k hk e => by have := I8.out k hk; have := n1.out; have := n2.out; have := Option.some.inj e; omega)⟩ ?_
  clear G gP fP BB R9 hP hQ o8
  rintro W11 ⟨BB, R9, hP, hQ, o8⟩
  clear w10
  refine wp_seq_k fun K h => ?_
  have H : Hid _ := h
  clear h
  go_wp2_with fail
  with_reducible refine (RA2.out W11 _ _ o8).mono ?_
  rintro e w12 ⟨rfl, hb⟩
  replace BB := BB.trans (hb.mono BB.size)
  replace R9 := R9.keep hb
  replace hP := hP.keep hb
  replace hQ := hQ.keep hb
  replace o8 := o8.keep hb
  clear hb W11
  have gQ := hQ.1.cells
  have fQ := hQ.free
  go_wp2_with fail
  refine H.out _ _ ?_
  clear H K
  have G := set9Z_grown w12 b2 qx qy false
  refine wp_world (fun W => Below w.heap.size w W ∧ Rw8 W w.heap.size (lentL X.reverse) ∧ PvZ W b1 qx qy false ∧ PvZ W b2 qx qy false ∧ OwnB w.heap.size W (.slice a8 m c8) X.reverse) ⟨BB.grown G BB.size (fun k hk => by have := Option.some.inj hk; have := n1.out; have := n2.out; omega), R9.grown G (fun e => m1.out.2.1 (Option.some.inj e).symm), hP.grown G (fun e => m1.out.2.2 (Option.some.inj e).symm), hQ.set9 qx qy false, o8.kept G (fun k hk e => by have := I8.out k hk; have := Option.some.inj e; omega)⟩ ?_
  clear G gQ fQ BB R9 hP hQ o8
  rintro W13 ⟨BB, R9, hP, hQ, o8⟩
  clear w12
  have gP := hP.1.cells
  have gQ := hQ.1.cells
  go_wp2_with fail
  with_reducible refine (NU.out _ W13).mono ?_
  rintro e w14 ⟨rfl, hb⟩
  replace BB := BB.trans (hb.mono BB.size)
  replace R9 := R9.keep hb
  replace o8 := o8.keep hb
  clear hb gP gQ hP hQ W13
  go_wp2_with fail
  with_reducible refine (ST2.out w14 _ _ _ R9 o8).mono ?_
  rintro e w15 ⟨rfl, hb⟩
  replace BB := BB.trans (hb.mono BB.size)
  clear hb R9 o8 w14
  go_wp2
  simp [bodyPost, results, Tryd.results3, go_sem]
  exact BB
end Go.Proofs.YtjlilnjggmelgaaDoor
