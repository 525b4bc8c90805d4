import Derived.Test.YtiebnlahhmngcaaGreatDoorRjA
import Derived.Test.YtiebnlahhmngcaaGreatDoorUbA
import Derived.ArgAppend
/- Layer 7: a head, put into an array of nine bytes. -/
namespace Go.Proofs.YtiebnlahhmngcaaGreatDoor
open Go.RowKit Go.Sort
/-- The first bytes of an array of nine. -/
def OwA (W : World) (g : Nat) (P : List Int) : Prop := P.length ≤ 9 ∧ W.rangeAt g 0 (P.map (Value.int .u8)) ∧ W.there g 0 9
theorem OwA.lt {W : World} {g : Nat} {P : List Int} (h : OwA W g P) : g < W.heap.size := by
  obtain ⟨v, hv⟩ := Option.isSome_iff_exists.1 (h.2.2 0 (by omega)).1
  exact World.block_lt_of_cell? W _ hv
theorem OwA.same {W W' : World} {g : Nat} {P : List Int} (h : OwA W g P) (e : W'.heap[g]? = W.heap[g]?) : OwA W' g P :=
  ⟨h.1, fun j v hv => by rw [World.cell?_of_block (w := W) (a := ⟨g, 0 + j, none⟩) e]; exact h.2.1 j v hv, fun j hj => by
    obtain ⟨h1, h2⟩ := h.2.2 j hj
    exact ⟨by rw [World.cell?_of_block (w := W) (a := ⟨g, 0 + j, none⟩) e]; exact h1, by rw [World.frozen?_of_block (w := W) (a := ⟨g, 0 + j, none⟩) e]; exact h2⟩⟩
theorem OwA.keep {W W' : World} {g : Nat} {P : List Int} (h : OwA W g P) (hb : Below W.heap.size W W') : OwA W' g P := h.same (hb.block g h.lt)
theorem OwA.bz {W : World} {g : Nat} {P : List Int} (h : OwA W g P) : Bz W g 0 P := fun i hi => h.2.1 i _ (by rw [List.getElem?_map, List.getElem?_eq_getElem hi, List.getD, List.getElem?_eq_getElem hi]; rfl)
theorem setCells_one (W : World) (g o : Nat) (v : Value) : W.setCells g o [v] = W.setCell ⟨g, o, none⟩ v := rfl
theorem OwA.snoc {W : World} {g : Nat} {P : List Int} (h : OwA W g P) (hl : P.length < 9) (x : Int) : OwA (W.setCells g P.length [.int .u8 x]) g (P ++ [x]) := by
  have lm : (P.map (Value.int .u8)).length = P.length := List.length_map _
  refine ⟨by simp; omega, fun j v hv => ?_, World.there_setCells h.2.2 _ _ _⟩
  rw [List.map_append] at hv
  by_cases hj : j < P.length
  · rw [List.getElem?_append_left (by omega)] at hv
    exact World.rangeAt_setCells_apart h.2.1 g P.length [.int .u8 x] (.inr (.inl (by rw [lm]; omega))) j v hv
  · rw [List.getElem?_append_right (by omega), lm] at hv
    have hj2 : j = P.length := by
      have := (List.getElem?_eq_some_iff.1 hv).1
      simp at this
      omega
    subst hj2
    rw [Nat.sub_self] at hv
    have ht : W.there g P.length 1 := fun k hk => by
      have := h.2.2 (P.length + k) (by omega)
      rw [Nat.zero_add] at this
      exact this
    have := World.rangeAt_setCells_same W g P.length [.int .u8 x] ht 0 v hv
    rw [Nat.zero_add]; exact this
theorem wpList_append_arr {ops : Array Oper} {rest : List Oper} {op : Oper} {a : Act} {Q : Exit → Act → World → Prop} {W : World} {g gn n c : Nat} {P : List Int} {x : Int} (hgd : op.guard = none) (s t : Operand)
    (ho : op.op = .call { callee := .builtin .append, args := #[s, t], argTypes := #[29, 29] }) (hs : a.eval s = .slice (some ⟨g, 0, none⟩) n 9) (hn : n = P.length) (hx : a.eval t = .slice (some ⟨gn, 0, none⟩) 1 c)
    (h : OwA W g P) (hl : P.length < 9) (hnew : W.cell? ⟨gn, 0, none⟩ = some (.int .u8 x))
    (hK : ∀ w', OwA w' g (P ++ [x]) → W.grownBy w' (some g) → wpList Tryz.prog ops Q rest (a.put op.dst (.slice (some ⟨g, 0, none⟩) (n + 1) 9)) w') : wpList Tryz.prog ops Q (op :: rest) a W := by
  subst hn
  obtain ⟨i0, hi, hz0, hz1, hz2⟩ := info_parts info_byte
  refine wpList_plain hgd fun K hK' => ?_
  have hr := run_append_room_cells (P := Tryz.prog) W 29 op.type 5 i0 Tryz.underlying29 hi g 0 P.length 9 ⟨gn, 0, none⟩ 1 c [.int .u8 x] (by rw [hz1]; rfl) (fun j u hu => by
    match j, hu with
    | 0, hu => simp at hu; subst hu; rw [Addr.add_lit]; exact hnew
    | j + 1, hu => simp at hu) (fun u hu => by simp at hu; subst hu; rfl) (by omega) (fun j hj => by
    have := (h.2.2 (P.length + j) (by simp at hj; omega)).1
    rw [hz1, Nat.mul_one]
    rw [Nat.zero_add] at this ⊢
    exact this) (fun j hj => by
    have := (h.2.2 (P.length + j) (by simp at hj; omega)).2
    rw [hz1, Nat.mul_one]
    rw [Nat.zero_add] at this ⊢
    exact this)
  rw [hz1, Nat.mul_one, Nat.zero_add] at hr
  unfold Oper.wp execOp
  simp only [ho, resolve, invoke, builtin, Sem.run_bind, Sem.run_pure, Result.andThen_ok, List.map_toArray, List.map_cons, List.map_nil, hs, hx, hr]
  exact hK' _ _ (hK _ (h.snoc hl x) (by rw [setCells_one]; exact grown_set _ _ _))
theorem cell_new1 (W : World) (x : Int) (t : TypeId) : (W.alloc (.cells #[.int .u8 x] t)).cell? ⟨W.heap.size, 0, none⟩ = some (.int .u8 x) := by simp [go_sem]
theorem OwA.congr {w : World} {g : Nat} {Z : List Int} {x y : Int} (h : OwA w g (Z ++ [x])) (e : x = y) : OwA w g (Z ++ [y]) := e ▸ h
theorem grown_alloc (W : World) (o : Obj) (row : Option Nat) : W.grownBy (W.alloc o) row := World.grownBy_alloc W o row
set_option maxRecDepth 100000 in
set_option maxHeartbeats 4000000 in
theorem whead_low_true {g n : Nat} (hn : n ≤ 55) (w : World) (h : OwA w g []) :
    Calls Tryz.prog 57 #[.slice (some ⟨g, 0, none⟩) 0 9, .bool true, .int .i64 (n : Int)] w fun e w' => e = .returned (.slice (some ⟨g, 0, none⟩) 1 9) ∧ OwA w' g [192 + (n : Int)] ∧ w.grownBy w' (some g) := by
  have hn' : (n : Int) ≤ 55 := by omega
  have e1 : (192 + (n : Int)) % 256 = 192 + n := by omega
  have HO : Hid (OwA w g []) := h
  clear h
  go_enter Tryz.func57, Tryz.ntmps57
  go_wp2_with ((at_builtin; go_loud (refine wpList_append_arr (P := []) rfl _ _ rfl rfl rfl rfl (HO.out.keep ((Below.refl _ _).alloc (Nat.le_refl _) _)) (by decide) (cell_new1 _ _ _) ?_); intro w3 ho hg))
  simp [bodyPost, results, Tryz.results57, go_sem]
  exact ⟨by simpa using ho, (grown_alloc _ _ _).trans hg⟩
set_option maxRecDepth 100000 in
set_option maxHeartbeats 8000000 in
theorem whead_high_true {g n : Nat} (hn : 55 < n) (hn2 : n < 16777216) (w : World) (h : OwA w g []) :
    Calls Tryz.prog 57 #[.slice (some ⟨g, 0, none⟩) 0 9, .bool true, .int .i64 (n : Int)] w fun e w' => e = .returned (.slice (some ⟨g, 0, none⟩) ((beN n).length + 1) 9) ∧ OwA w' g ((192 + 55 + ((beN n).length : Int)) :: beN n) ∧ w.grownBy w' (some g) := by
  have hn' : ¬ ((n : Int) ≤ 55) := by omega
  have hn3 : (n : Int) < 16777216 := by omega
  have c := lengthSize_any (n := n) (by omega) hn2
  have hl := beN_len n
  have hl' : ((beN n).length : Int) ≤ 3 := by omega
  have BA := be_at n
  have HO : Hid (OwA w g []) := h
  have HT : Hid (∀ i, i < (beN n).length → (beN n).take (i + 1) = (beN n).take i ++ [(beN n).getD i 0]) := fun i hi => take_snocI hi
  have HT2 : Hid ((beN n).take (beN n).length = beN n) := List.take_length
  clear h
  obtain ⟨r, er⟩ : ∃ r, r = (beN n).length := ⟨_, rfl⟩
  rw [← er] at c hl hl' BA HT HT2 ⊢
  generalize beN n = bn at *
  have HR : Hid (r = bn.length) := er
  clear er
  go_enter Tryz.func57, Tryz.ntmps57
  go_wp2_with (first | ((with_reducible refine (c _).mono ?_); rintro e1 w1 ⟨rfl, hw⟩; (rw [hw]); (clear hw w1)) | ((at_builtin; go_loud (refine wpList_append_arr (P := []) (x := 192 + 55 + (r : Int)) rfl _ _ rfl rfl rfl rfl (HO.out.keep ((Below.refl _ _).alloc (Nat.le_refl _) _)) (by decide) (cell_new1 _ _ _) ?_); intro w3 ho hg)))
  have G3 : Hid (OwA w3 g [192 + 55 + (r : Int)] ∧ w.grownBy w3 (some g)) := ⟨by simpa using ho, (grown_alloc _ _ _).trans hg⟩
  clear ho hg
  go_loopg [0, 31] r (fun k bv iv wr => ∃ i : Nat, k = r - i ∧ i ≤ r ∧ bv = .slice (some ⟨g, 0, none⟩) (i + 1) 9 ∧ iv = .int .i64 (i : Int) ∧ OwA wr g ((192 + 55 + (r : Int)) :: bn.take i) ∧ w.grownBy wr (some g))
  case atStart => exact ⟨0, rfl, Nat.zero_le _, rfl, rfl, G3.out⟩
  case round =>
    clear G3
    obtain ⟨i, hk, hi8, rfl, rfl, ho, Bw⟩ := hrel
    have HK : Hid (gk = r - i ∧ i ≤ r) := ⟨hk, hi8⟩
    have HF : Hid (OwA wr g ((192 + 55 + (r : Int)) :: bn.take i) ∧ w.grownBy wr (some g)) := ⟨ho, Bw⟩
    clear hk ho Bw
    by_cases h8 : i = r
    · subst h8
      go_wp2
      have F := HF.out
      rw [HT2.out] at F
      simp [bodyPost, results, Tryz.results57, go_sem]
      exact F
    · have hlt : i < r := by omega
      have hlt' : (i : Int) < (r : Int) := by omega
      have LN : Hid (i + 1 = ((192 + 55 + (r : Int)) :: bn.take i).length ∧ ((192 + 55 + (r : Int)) :: bn.take i).length < 9) := by
        have := HR.out
        have e : ((192 + 55 + (r : Int)) :: bn.take i).length = i + 1 := by rw [List.length_cons, List.length_take]; omega
        exact ⟨e.symm, by rw [e]; omega⟩
      have NX : Hid ((192 + 55 + (r : Int)) :: bn.take (i + 1) = ((192 + 55 + (r : Int)) :: bn.take i) ++ [bn.getD i 0]) := by
        show _ = _
        rw [HT.out i hlt]; simp
      rcases BA with ⟨r1, b0, bl⟩ | ⟨r1, b0, b1, bl⟩ | ⟨r1, b0, b1, b2⟩
      · have i1 : i = 0 := by omega
        subst r1 i1
        · go_wp2_with ((at_builtin; go_loud (refine wpList_append_arr rfl _ _ rfl rfl LN.out.1 rfl (HF.out.1.keep ((Below.refl _ _).alloc (Nat.le_refl _) _)) LN.out.2 (cell_new1 _ _ _) ?_); intro w3 ho hg))
          have G4 : w.grownBy w3 (some g) := (HF.out.2.trans (grown_alloc _ _ _)).trans hg
          clear hg
          go_roundg (1 - (0 + 1))
          case measure => have := HK.out.1; omega
          case rel => exact ⟨0 + 1, rfl, by omega, rfl, by go_num, by rw [NX.out, b0]; exact ho.congr (by first | rfl | omega | (simp; omega)), G4⟩
      · have i1 : i = 0 ∨ i = 1 := by omega
        subst r1
        rcases i1 with i1 | i1 <;> subst i1
        · go_wp2_with ((at_builtin; go_loud (refine wpList_append_arr rfl _ _ rfl rfl LN.out.1 rfl (HF.out.1.keep ((Below.refl _ _).alloc (Nat.le_refl _) _)) LN.out.2 (cell_new1 _ _ _) ?_); intro w3 ho hg))
          have G4 : w.grownBy w3 (some g) := (HF.out.2.trans (grown_alloc _ _ _)).trans hg
          clear hg
          go_roundg (2 - (0 + 1))
          case measure => have := HK.out.1; omega
          case rel => exact ⟨0 + 1, rfl, by omega, rfl, by go_num, by rw [NX.out, b0]; exact ho.congr (by first | rfl | omega | (simp; omega)), G4⟩
        · go_wp2_with ((at_builtin; go_loud (refine wpList_append_arr rfl _ _ rfl rfl LN.out.1 rfl (HF.out.1.keep ((Below.refl _ _).alloc (Nat.le_refl _) _)) LN.out.2 (cell_new1 _ _ _) ?_); intro w3 ho hg))
          have G4 : w.grownBy w3 (some g) := (HF.out.2.trans (grown_alloc _ _ _)).trans hg
          clear hg
          go_roundg (2 - (1 + 1))
          case measure => have := HK.out.1; omega
          case rel => exact ⟨1 + 1, rfl, by omega, rfl, by go_num, by rw [NX.out, b1]; exact ho.congr (by first | rfl | omega | (simp; omega)), G4⟩
      · have i1 : i = 0 ∨ i = 1 ∨ i = 2 := by omega
        subst r1
        rcases i1 with i1 | i1 | i1 <;> subst i1
        · go_wp2_with ((at_builtin; go_loud (refine wpList_append_arr rfl _ _ rfl rfl LN.out.1 rfl (HF.out.1.keep ((Below.refl _ _).alloc (Nat.le_refl _) _)) LN.out.2 (cell_new1 _ _ _) ?_); intro w3 ho hg))
          have G4 : w.grownBy w3 (some g) := (HF.out.2.trans (grown_alloc _ _ _)).trans hg
          clear hg
          go_roundg (3 - (0 + 1))
          case measure => have := HK.out.1; omega
          case rel => exact ⟨0 + 1, rfl, by omega, rfl, by go_num, by rw [NX.out, b0]; exact ho.congr (by first | rfl | omega | (simp; omega)), G4⟩
        · go_wp2_with ((at_builtin; go_loud (refine wpList_append_arr rfl _ _ rfl rfl LN.out.1 rfl (HF.out.1.keep ((Below.refl _ _).alloc (Nat.le_refl _) _)) LN.out.2 (cell_new1 _ _ _) ?_); intro w3 ho hg))
          have G4 : w.grownBy w3 (some g) := (HF.out.2.trans (grown_alloc _ _ _)).trans hg
          clear hg
          go_roundg (3 - (1 + 1))
          case measure => have := HK.out.1; omega
          case rel => exact ⟨1 + 1, rfl, by omega, rfl, by go_num, by rw [NX.out, b1]; exact ho.congr (by first | rfl | omega | (simp; omega)), G4⟩
        · go_wp2_with ((at_builtin; go_loud (refine wpList_append_arr rfl _ _ rfl rfl LN.out.1 rfl (HF.out.1.keep ((Below.refl _ _).alloc (Nat.le_refl _) _)) LN.out.2 (cell_new1 _ _ _) ?_); intro w3 ho hg))
          have G4 : w.grownBy w3 (some g) := (HF.out.2.trans (grown_alloc _ _ _)).trans hg
          clear hg
          go_roundg (3 - (2 + 1))
          case measure => have := HK.out.1; omega
          case rel => exact ⟨2 + 1, rfl, by omega, rfl, by go_num, by rw [NX.out, b2]; exact ho.congr (by first | rfl | omega | (simp; omega)), G4⟩
theorem whead_true {g n : Nat} (hn2 : n < 16777216) (w : World) (h : OwA w g []) :
    Calls Tryz.prog 57 #[.slice (some ⟨g, 0, none⟩) 0 9, .bool true, .int .i64 (n : Int)] w fun e w' => e = .returned (.slice (some ⟨g, 0, none⟩) (hdR 192 n).length 9) ∧ OwA w' g (hdR 192 n) ∧ w.grownBy w' (some g) := by
  unfold hdR
  by_cases k : n ≤ 55
  · rw [if_pos k]; exact whead_low_true k w h
  · rw [if_neg k, List.length_cons]; exact whead_high_true (by omega) hn2 w h
set_option maxRecDepth 100000 in
set_option maxHeartbeats 4000000 in
theorem whead_low_false {g n : Nat} (hn : n ≤ 55) (w : World) (h : OwA w g []) :
    Calls Tryz.prog 57 #[.slice (some ⟨g, 0, none⟩) 0 9, .bool false, .int .i64 (n : Int)] w fun e w' => e = .returned (.slice (some ⟨g, 0, none⟩) 1 9) ∧ OwA w' g [128 + (n : Int)] ∧ w.grownBy w' (some g) := by
  have hn' : (n : Int) ≤ 55 := by omega
  have e1 : (128 + (n : Int)) % 256 = 128 + n := by omega
  have HO : Hid (OwA w g []) := h
  clear h
  go_enter Tryz.func57, Tryz.ntmps57
  go_wp2_with ((at_builtin; go_loud (refine wpList_append_arr (P := []) rfl _ _ rfl rfl rfl rfl (HO.out.keep ((Below.refl _ _).alloc (Nat.le_refl _) _)) (by decide) (cell_new1 _ _ _) ?_); intro w3 ho hg))
  simp [bodyPost, results, Tryz.results57, go_sem]
  exact ⟨by simpa using ho, (grown_alloc _ _ _).trans hg⟩
set_option maxRecDepth 100000 in
set_option maxHeartbeats 8000000 in
theorem whead_high_false {g n : Nat} (hn : 55 < n) (hn2 : n < 16777216) (w : World) (h : OwA w g []) :
    Calls Tryz.prog 57 #[.slice (some ⟨g, 0, none⟩) 0 9, .bool false, .int .i64 (n : Int)] w fun e w' => e = .returned (.slice (some ⟨g, 0, none⟩) ((beN n).length + 1) 9) ∧ OwA w' g ((128 + 55 + ((beN n).length : Int)) :: beN n) ∧ w.grownBy w' (some g) := by
  have hn' : ¬ ((n : Int) ≤ 55) := by omega
  have hn3 : (n : Int) < 16777216 := by omega
  have c := lengthSize_any (n := n) (by omega) hn2
  have hl := beN_len n
  have hl' : ((beN n).length : Int) ≤ 3 := by omega
  have BA := be_at n
  have HO : Hid (OwA w g []) := h
  have HT : Hid (∀ i, i < (beN n).length → (beN n).take (i + 1) = (beN n).take i ++ [(beN n).getD i 0]) := fun i hi => take_snocI hi
  have HT2 : Hid ((beN n).take (beN n).length = beN n) := List.take_length
  clear h
  obtain ⟨r, er⟩ : ∃ r, r = (beN n).length := ⟨_, rfl⟩
  rw [← er] at c hl hl' BA HT HT2 ⊢
  generalize beN n = bn at *
  have HR : Hid (r = bn.length) := er
  clear er
  go_enter Tryz.func57, Tryz.ntmps57
  go_wp2_with (first | ((with_reducible refine (c _).mono ?_); rintro e1 w1 ⟨rfl, hw⟩; (rw [hw]); (clear hw w1)) | ((at_builtin; go_loud (refine wpList_append_arr (P := []) (x := 128 + 55 + (r : Int)) rfl _ _ rfl rfl rfl rfl (HO.out.keep ((Below.refl _ _).alloc (Nat.le_refl _) _)) (by decide) (cell_new1 _ _ _) ?_); intro w3 ho hg)))
  have G3 : Hid (OwA w3 g [128 + 55 + (r : Int)] ∧ w.grownBy w3 (some g)) := ⟨by simpa using ho, (grown_alloc _ _ _).trans hg⟩
  clear ho hg
  go_loopg [0, 31] r (fun k bv iv wr => ∃ i : Nat, k = r - i ∧ i ≤ r ∧ bv = .slice (some ⟨g, 0, none⟩) (i + 1) 9 ∧ iv = .int .i64 (i : Int) ∧ OwA wr g ((128 + 55 + (r : Int)) :: bn.take i) ∧ w.grownBy wr (some g))
  case atStart => exact ⟨0, rfl, Nat.zero_le _, rfl, rfl, G3.out⟩
  case round =>
    clear G3
    obtain ⟨i, hk, hi8, rfl, rfl, ho, Bw⟩ := hrel
    have HK : Hid (gk = r - i ∧ i ≤ r) := ⟨hk, hi8⟩
    have HF : Hid (OwA wr g ((128 + 55 + (r : Int)) :: bn.take i) ∧ w.grownBy wr (some g)) := ⟨ho, Bw⟩
    clear hk ho Bw
    by_cases h8 : i = r
    · subst h8
      go_wp2
      have F := HF.out
      rw [HT2.out] at F
      simp [bodyPost, results, Tryz.results57, go_sem]
      exact F
    · have hlt : i < r := by omega
      have hlt' : (i : Int) < (r : Int) := by omega
      have LN : Hid (i + 1 = ((128 + 55 + (r : Int)) :: bn.take i).length ∧ ((128 + 55 + (r : Int)) :: bn.take i).length < 9) := by
        have := HR.out
        have e : ((128 + 55 + (r : Int)) :: bn.take i).length = i + 1 := by rw [List.length_cons, List.length_take]; omega
        exact ⟨e.symm, by rw [e]; omega⟩
      have NX : Hid ((128 + 55 + (r : Int)) :: bn.take (i + 1) = ((128 + 55 + (r : Int)) :: bn.take i) ++ [bn.getD i 0]) := by
        show _ = _
        rw [HT.out i hlt]; simp
      rcases BA with ⟨r1, b0, bl⟩ | ⟨r1, b0, b1, bl⟩ | ⟨r1, b0, b1, b2⟩
      · have i1 : i = 0 := by omega
        subst r1 i1
        · go_wp2_with ((at_builtin; go_loud (refine wpList_append_arr rfl _ _ rfl rfl LN.out.1 rfl (HF.out.1.keep ((Below.refl _ _).alloc (Nat.le_refl _) _)) LN.out.2 (cell_new1 _ _ _) ?_); intro w3 ho hg))
          have G4 : w.grownBy w3 (some g) := (HF.out.2.trans (grown_alloc _ _ _)).trans hg
          clear hg
          go_roundg (1 - (0 + 1))
          case measure => have := HK.out.1; omega
          case rel => exact ⟨0 + 1, rfl, by omega, rfl, by go_num, by rw [NX.out, b0]; exact ho.congr (by first | rfl | omega | (simp; omega)), G4⟩
      · have i1 : i = 0 ∨ i = 1 := by omega
        subst r1
        rcases i1 with i1 | i1 <;> subst i1
        · go_wp2_with ((at_builtin; go_loud (refine wpList_append_arr rfl _ _ rfl rfl LN.out.1 rfl (HF.out.1.keep ((Below.refl _ _).alloc (Nat.le_refl _) _)) LN.out.2 (cell_new1 _ _ _) ?_); intro w3 ho hg))
          have G4 : w.grownBy w3 (some g) := (HF.out.2.trans (grown_alloc _ _ _)).trans hg
          clear hg
          go_roundg (2 - (0 + 1))
          case measure => have := HK.out.1; omega
          case rel => exact ⟨0 + 1, rfl, by omega, rfl, by go_num, by rw [NX.out, b0]; exact ho.congr (by first | rfl | omega | (simp; omega)), G4⟩
        · go_wp2_with ((at_builtin; go_loud (refine wpList_append_arr rfl _ _ rfl rfl LN.out.1 rfl (HF.out.1.keep ((Below.refl _ _).alloc (Nat.le_refl _) _)) LN.out.2 (cell_new1 _ _ _) ?_); intro w3 ho hg))
          have G4 : w.grownBy w3 (some g) := (HF.out.2.trans (grown_alloc _ _ _)).trans hg
          clear hg
          go_roundg (2 - (1 + 1))
          case measure => have := HK.out.1; omega
          case rel => exact ⟨1 + 1, rfl, by omega, rfl, by go_num, by rw [NX.out, b1]; exact ho.congr (by first | rfl | omega | (simp; omega)), G4⟩
      · have i1 : i = 0 ∨ i = 1 ∨ i = 2 := by omega
        subst r1
        rcases i1 with i1 | i1 | i1 <;> subst i1
        · go_wp2_with ((at_builtin; go_loud (refine wpList_append_arr rfl _ _ rfl rfl LN.out.1 rfl (HF.out.1.keep ((Below.refl _ _).alloc (Nat.le_refl _) _)) LN.out.2 (cell_new1 _ _ _) ?_); intro w3 ho hg))
          have G4 : w.grownBy w3 (some g) := (HF.out.2.trans (grown_alloc _ _ _)).trans hg
          clear hg
          go_roundg (3 - (0 + 1))
          case measure => have := HK.out.1; omega
          case rel => exact ⟨0 + 1, rfl, by omega, rfl, by go_num, by rw [NX.out, b0]; exact ho.congr (by first | rfl | omega | (simp; omega)), G4⟩
        · go_wp2_with ((at_builtin; go_loud (refine wpList_append_arr rfl _ _ rfl rfl LN.out.1 rfl (HF.out.1.keep ((Below.refl _ _).alloc (Nat.le_refl _) _)) LN.out.2 (cell_new1 _ _ _) ?_); intro w3 ho hg))
          have G4 : w.grownBy w3 (some g) := (HF.out.2.trans (grown_alloc _ _ _)).trans hg
          clear hg
          go_roundg (3 - (1 + 1))
          case measure => have := HK.out.1; omega
          case rel => exact ⟨1 + 1, rfl, by omega, rfl, by go_num, by rw [NX.out, b1]; exact ho.congr (by first | rfl | omega | (simp; omega)), G4⟩
        · go_wp2_with ((at_builtin; go_loud (refine wpList_append_arr rfl _ _ rfl rfl LN.out.1 rfl (HF.out.1.keep ((Below.refl _ _).alloc (Nat.le_refl _) _)) LN.out.2 (cell_new1 _ _ _) ?_); intro w3 ho hg))
          have G4 : w.grownBy w3 (some g) := (HF.out.2.trans (grown_alloc _ _ _)).trans hg
          clear hg
          go_roundg (3 - (2 + 1))
          case measure => have := HK.out.1; omega
          case rel => exact ⟨2 + 1, rfl, by omega, rfl, by go_num, by rw [NX.out, b2]; exact ho.congr (by first | rfl | omega | (simp; omega)), G4⟩
theorem whead_false {g n : Nat} (hn2 : n < 16777216) (w : World) (h : OwA w g []) :
    Calls Tryz.prog 57 #[.slice (some ⟨g, 0, none⟩) 0 9, .bool false, .int .i64 (n : Int)] w fun e w' => e = .returned (.slice (some ⟨g, 0, none⟩) (hdR 128 n).length 9) ∧ OwA w' g (hdR 128 n) ∧ w.grownBy w' (some g) := by
  unfold hdR
  by_cases k : n ≤ 55
  · rw [if_pos k]; exact whead_low_false k w h
  · rw [if_neg k, List.length_cons]; exact whead_high_false (by omega) hn2 w h
end Go.Proofs.YtiebnlahhmngcaaGreatDoor

/- Layer 7: bytes put at a room's end. -/
namespace Go.Proofs.YtiebnlahhmngcaaGreatDoor
open Go.RowKit Go.Sort
/-- A room: a whole block of bytes. -/
def Rq (W : World) (gr : Nat) (L : List Int) : Prop := W.heap[gr]? = some (.cells (L.map (Value.int .u8)).toArray 5 (0, 0))
theorem Rq.lt {W : World} {gr : Nat} {L : List Int} (h : Rq W gr L) : gr < W.heap.size := (Array.getElem?_eq_some_iff.1 h).1
theorem Rq.keep {W W' : World} {gr : Nat} {L : List Int} (h : Rq W gr L) (hb : Below W.heap.size W W') : Rq W' gr L := (hb.block gr h.lt).trans h
theorem Rq.grown {W W' : World} {gr : Nat} {L : List Int} {row : Option Nat} (h : Rq W gr L) (hg : W.grownBy W' row) (hn : row ≠ some gr) : Rq W' gr L := (hg.block gr h.lt fun e => hn e.symm).trans h
/-- Bytes written over those that end at m. -/
def ovr (L : List Int) (m : Nat) (X : List Int) : List Int := L.take (m - X.length) ++ (X ++ L.drop m)
theorem ovr_nil (L : List Int) (m : Nat) : ovr L m [] = L := by unfold ovr; simp
theorem ovr_len {L : List Int} {m : Nat} {X : List Int} (h1 : m ≤ L.length) (h2 : X.length ≤ m) : (ovr L m X).length = L.length := by
  unfold ovr
  rw [List.length_append, List.length_append, List.length_take, List.length_drop]; omega
theorem ovr_app {L : List Int} {m : Nat} {X Y : List Int} (h1 : m ≤ L.length) (h2 : X.length + Y.length ≤ m) : ovr (ovr L m X) (m - X.length) Y = ovr L m (Y ++ X) := by
  unfold ovr
  have e1 : (L.take (m - X.length)).length = m - X.length := by rw [List.length_take]; omega
  have e2 : (L.take (m - X.length) ++ (X ++ L.drop m)).take (m - X.length - Y.length) = L.take (m - X.length - Y.length) := by
    rw [List.take_append_of_le_length (by omega), List.take_take]
    congr 1; omega
  have e3 : (L.take (m - X.length) ++ (X ++ L.drop m)).drop (m - X.length) = X ++ L.drop m := by
    rw [List.drop_append_of_le_length (by omega), List.drop_of_length_le (by omega), List.nil_append]
  rw [e2, e3, List.length_append]
  rw [show m - (Y.length + X.length) = m - X.length - Y.length by omega, List.append_assoc]
theorem grown_setRow {w : World} {g : Nat} {cs : Array Value} : w.grownBy (w.setRow g cs) (some g) := ⟨rfl, rfl, rfl, by simp, fun k _ hk => setRow_other w g k _ (fun e => hk (by rw [e]))⟩
set_option maxRecDepth 100000 in
set_option maxHeartbeats 4000000 in
/-- The program's put. -/
theorem put_end {X L : List Int} {a : Option Addr} {b o c gr m n : Nat} (hL : L.length = n) (hm : m ≤ n) (hx : X.length ≤ m) (hn : n < 1000000000) (ha : Az a b o X) (w : World) (hz : Bz w b o X) (hr : Rq w gr L) :
    Calls Tryz.prog 54 #[.slice (some ⟨gr, 0, none⟩) m n, .slice a X.length c] w fun e w' => e = .returned (.slice (some ⟨gr, 0, none⟩) (m - X.length) n) ∧ Rq w' gr (ovr L m X) ∧ w.grownBy w' (some gr) := by
  have hu := Tryz.underlying29
  have hsz : (Tryz.prog.info? 5).map (·.size) = some 1 := by kernel_rfl
  obtain ⟨k, hk⟩ : ∃ k, k = m - X.length := ⟨_, rfl⟩
  have hs : (m : Int) - (X.length : Int) = (k : Int) := by omega
  have hkm : (k : Int) ≤ (m : Int) := by omega
  have hkn : (k : Int) ≤ (n : Int) := by omega
  have hmn : (m : Int) ≤ (n : Int) := by omega
  have hnn : (n : Int) < 1000000000 := by omega
  rw [← hk]
  by_cases h0 : X = []
  · subst h0
    have e : k = m := by simpa using hk
    rw [ovr_nil]
    clear hs hx ha hz hk hn hL
    subst e
    by_cases hq : n = k
    · subst hq
      go_enter Tryz.func54, Tryz.ntmps54
      go_wp2_with (refine wpList_copy_nothing rfl _ _ _ _ rfl _ hu hsz _ _ _ _ _ _ rfl rfl (by simp) ?_)
      simp [bodyPost, results, Tryz.results54, go_sem]
      exact ⟨hr, World.grownBy.refl _ _⟩
    · go_enter Tryz.func54, Tryz.ntmps54
      go_wp2_with (refine wpList_copy_nothing rfl _ _ _ _ rfl _ hu hsz _ _ _ _ _ _ rfl rfl (by simp) ?_)
      simp [bodyPost, results, Tryz.results54, go_sem]
      exact ⟨hr, World.grownBy.refl _ _⟩
  · have hp : 0 < X.length := List.length_pos_iff.2 h0
    obtain rfl := ha.cons hp
    have hlt : ¬ (n = k) := by omega
    have hlt2 : (if n = k then (⟨gr, 0, none⟩ : Addr) else ⟨gr, k, none⟩) = ⟨gr, k, none⟩ := if_neg hlt
    have HX : Hid (X.length = m - k ∧ k + X.length = m ∧ m ≤ n ∧ L.length = n ∧ k = m - X.length) := ⟨by omega, by omega, hm, hL, hk⟩
    have HR : Hid (w.heap[gr]? = some (.cells (L.map (Value.int .u8)).toArray 5 (0, 0))) := hr
    have HS : Hid (Bz w b o X) := hz
    clear hr hz hk hx ha hm hL hp h0 hn
    obtain ⟨XL, hXL⟩ : ∃ q, q = X.length := ⟨_, rfl⟩
    rw [← hXL] at hs ⊢
    have HXL : Hid (XL = X.length) := hXL
    clear hXL
    have hmin : Hid ((X.map (Value.int .u8)).length = Nat.min XL (m - k)) := by
      show _ = _
      rw [List.length_map, HXL.out, HX.out.1]
      exact (Nat.min_self _).symm
    have hfit : Hid (k + (X.map (Value.int .u8)).length ≤ (L.map (Value.int .u8)).toArray.size) := by
      show _ ≤ _
      rw [List.length_map, List.size_toArray, List.length_map]; have := HX.out; omega
    go_enter Tryz.func54, Tryz.ntmps54
    go_wp2_with (refine wpList_copy_own rfl _ _ _ _ rfl _ hu hsz gr k (m - k) (n - k) ⟨b, o, none⟩ XL c rfl rfl _ _ HR.out (X.map (Value.int .u8)) hmin.out (fun j v hv => src_bz HS.out j v hv) hfit.out (fun v hv => by obtain ⟨x, _, rfl⟩ := List.mem_map.1 hv; rfl) ?_)
    simp [bodyPost, results, Tryz.results54, go_sem]
    have e : List.take k (L.map (Value.int .u8)) ++ (X.map (Value.int .u8) ++ List.drop (k + X.length) (L.map (Value.int .u8))) = (ovr L m X).map (Value.int .u8) := by
      unfold ovr
      rw [← HX.out.2.2.2.2, List.map_append, List.map_append, List.map_take, List.map_drop, HX.out.2.1]
    rw [e]
    exact ⟨setRow_heap w gr _ _ _ _ HR.out, grown_setRow⟩
theorem slice_nine {b : Nat} (w : World) : (Instr.sliceAt 103 (.pointer (some ⟨b, 0, none⟩)) none (some (.int .i64 0)) none).run Tryz.prog w = .ok (.slice (some ⟨b, 0, none⟩) 0 9) w := by
  kernel_rfl
theorem own_nine (w : World) {cs : Array Value} {t : TypeId} (h : cs.size = 9) : OwA (w.alloc (.cells cs t)) w.heap.size [] := by
  have hn : (w.alloc (.cells cs t)).heap[w.heap.size]? = some (.cells cs t) := by
    show (w.heap.push _)[w.heap.size]? = _
    simp
  exact ⟨by simp, fun j v hv => by simp at hv, fun j hj => ⟨by rw [Nat.zero_add, cell_of_row _ _ j _ _ _ hn]; simp [h, hj], by rw [Nat.zero_add]; exact frozen_of_row _ _ j _ _ hn⟩⟩
theorem grown_low {w w1 w2 : World} {gr bh : Nat} (h1 : w.grownBy w1 (some gr)) (h2 : w1.grownBy w2 (some bh)) (hb : w.heap.size ≤ bh) : w.grownBy w2 (some gr) :=
  ⟨h2.os.trans h1.os, h2.tape.trans h1.tape, h2.output.trans h1.output, Nat.le_trans h1.size h2.size, fun k hk hn => (h2.block k (Nat.lt_of_lt_of_le hk h1.size) fun e => by have := Option.some.inj e; omega).trans (h1.block k hk hn)⟩
theorem grown_below {w w1 : World} (row : Option Nat) (h : Below w.heap.size w w1) : w.grownBy w1 row := ⟨h.os, h.tape, h.output, h.size, fun k hk _ => h.block k hk⟩
set_option maxRecDepth 100000 in
set_option maxHeartbeats 4000000 in
/-- The program's putHead. -/
theorem phead_true {L : List Int} {gr m n h : Nat} (hL : L.length = n) (hm : m ≤ n) (hx : (hdR 192 h).length ≤ m) (hn : n < 1000000000) (hh : h < 16777216) (w : World) (hr : Rq w gr L) :
    Calls Tryz.prog 34 #[.slice (some ⟨gr, 0, none⟩) m n, .bool true, .int .i64 (h : Int)] w fun e w' => e = .returned (.slice (some ⟨gr, 0, none⟩) (m - (hdR 192 h).length) n) ∧ Rq w' gr (ovr L m (hdR 192 h)) ∧ w.grownBy w' (some gr) := by
  have sn := @slice_nine w.heap.size
  have WH : Hid (∀ W g, OwA W g [] → Calls Tryz.prog 57 #[.slice (some ⟨g, 0, none⟩) 0 9, .bool true, .int .i64 (h : Int)] W fun e w' => e = .returned (.slice (some ⟨g, 0, none⟩) (hdR 192 h).length 9) ∧ OwA w' g (hdR 192 h) ∧ W.grownBy w' (some g)) := fun W g o => whead_true hh W o
  have PU : Hid (∀ W g, OwA W g (hdR 192 h) → Rq W gr L → Calls Tryz.prog 54 #[.slice (some ⟨gr, 0, none⟩) m n, .slice (some ⟨g, 0, none⟩) (hdR 192 h).length 9] W fun e w' => e = .returned (.slice (some ⟨gr, 0, none⟩) (m - (hdR 192 h).length) n) ∧ Rq w' gr (ovr L m (hdR 192 h)) ∧ W.grownBy w' (some gr)) := fun W g o r => put_end hL hm hx hn (.inr rfl) W o.bz r
  clear hL hm hx hn hh
  generalize hdR 192 h = X at *
  have hgr := hr.lt
  have HO : Hid (∀ cs : Array Value, ∀ t, cs.size = 9 → OwA (w.alloc (.cells cs t)) w.heap.size [] ∧ Rq (w.alloc (.cells cs t)) gr L ∧ w.grownBy (w.alloc (.cells cs t)) (some gr)) := fun cs t hc => ⟨own_nine w hc, hr.keep ((Below.refl _ _).alloc (Nat.le_refl _) _), grown_alloc _ _ _⟩
  go_enter Tryz.func34, Tryz.ntmps34
  go_wp2_with (first
    | (go_at_call 57; (with_reducible refine (WH.out _ w.heap.size (HO.out _ _ rfl).1).mono ?_); rintro e1 w1 ⟨rfl, o1, g1⟩; (have r1 : Rq w1 gr L := (HO.out _ _ rfl).2.1.grown g1 (fun e => by have := Option.some.inj e; omega)); (have g2 : w.grownBy w1 (some gr) := grown_low (HO.out _ _ rfl).2.2 g1 (Nat.le_refl _)))
    | (go_at_call 54; (with_reducible refine (PU.out _ w.heap.size o1 r1).mono ?_); rintro e2 w2 ⟨rfl, r2, g3⟩))
  simp [bodyPost, results, Tryz.results34, go_sem]
  exact ⟨r2, g2.trans g3⟩
set_option maxRecDepth 100000 in
set_option maxHeartbeats 4000000 in
/-- The program's putHead. -/
theorem phead_false {L : List Int} {gr m n h : Nat} (hL : L.length = n) (hm : m ≤ n) (hx : (hdR 128 h).length ≤ m) (hn : n < 1000000000) (hh : h < 16777216) (w : World) (hr : Rq w gr L) :
    Calls Tryz.prog 34 #[.slice (some ⟨gr, 0, none⟩) m n, .bool false, .int .i64 (h : Int)] w fun e w' => e = .returned (.slice (some ⟨gr, 0, none⟩) (m - (hdR 128 h).length) n) ∧ Rq w' gr (ovr L m (hdR 128 h)) ∧ w.grownBy w' (some gr) := by
  have sn := @slice_nine w.heap.size
  have WH : Hid (∀ W g, OwA W g [] → Calls Tryz.prog 57 #[.slice (some ⟨g, 0, none⟩) 0 9, .bool false, .int .i64 (h : Int)] W fun e w' => e = .returned (.slice (some ⟨g, 0, none⟩) (hdR 128 h).length 9) ∧ OwA w' g (hdR 128 h) ∧ W.grownBy w' (some g)) := fun W g o => whead_false hh W o
  have PU : Hid (∀ W g, OwA W g (hdR 128 h) → Rq W gr L → Calls Tryz.prog 54 #[.slice (some ⟨gr, 0, none⟩) m n, .slice (some ⟨g, 0, none⟩) (hdR 128 h).length 9] W fun e w' => e = .returned (.slice (some ⟨gr, 0, none⟩) (m - (hdR 128 h).length) n) ∧ Rq w' gr (ovr L m (hdR 128 h)) ∧ W.grownBy w' (some gr)) := fun W g o r => put_end hL hm hx hn (.inr rfl) W o.bz r
  clear hL hm hx hn hh
  generalize hdR 128 h = X at *
  have hgr := hr.lt
  have HO : Hid (∀ cs : Array Value, ∀ t, cs.size = 9 → OwA (w.alloc (.cells cs t)) w.heap.size [] ∧ Rq (w.alloc (.cells cs t)) gr L ∧ w.grownBy (w.alloc (.cells cs t)) (some gr)) := fun cs t hc => ⟨own_nine w hc, hr.keep ((Below.refl _ _).alloc (Nat.le_refl _) _), grown_alloc _ _ _⟩
  go_enter Tryz.func34, Tryz.ntmps34
  go_wp2_with (first
    | (go_at_call 57; (with_reducible refine (WH.out _ w.heap.size (HO.out _ _ rfl).1).mono ?_); rintro e1 w1 ⟨rfl, o1, g1⟩; (have r1 : Rq w1 gr L := (HO.out _ _ rfl).2.1.grown g1 (fun e => by have := Option.some.inj e; omega)); (have g2 : w.grownBy w1 (some gr) := grown_low (HO.out _ _ rfl).2.2 g1 (Nat.le_refl _)))
    | (go_at_call 54; (with_reducible refine (PU.out _ w.heap.size o1 r1).mono ?_); rintro e2 w2 ⟨rfl, r2, g3⟩))
  simp [bodyPost, results, Tryz.results34, go_sem]
  exact ⟨r2, g2.trans g3⟩
set_option maxRecDepth 100000 in
set_option maxHeartbeats 4000000 in
/-- The program's putText. -/
theorem ptext_any {X L : List Int} {a : Option Addr} {b o c gr m n : Nat} (hL : L.length = n) (hm : m ≤ n) (hx : (encX X).length ≤ m) (hn : n < 1000000000) (hX : X.length < 16777216) (ha : Az a b o X) (w0 w : World) (hB : Below w0.heap.size w0 w) (hz : Bz w0 b o X) (hgr : w0.heap.size ≤ gr) (hr : Rq w gr L) :
    Calls Tryz.prog 32 #[.slice (some ⟨gr, 0, none⟩) m n, .slice a X.length c] w fun e w' => e = .returned (.slice (some ⟨gr, 0, none⟩) (m - (encX X).length) n) ∧ Rq w' gr (ovr L m (encX X)) ∧ w.grownBy w' (some gr) := by
  have hxl : X.length ≤ (encX X).length := by unfold encX; split <;> simp
  have PU : Hid (Calls Tryz.prog 54 #[.slice (some ⟨gr, 0, none⟩) m n, .slice a X.length c] w fun e w' => e = .returned (.slice (some ⟨gr, 0, none⟩) (m - X.length) n) ∧ Rq w' gr (ovr L m X) ∧ w.grownBy w' (some gr)) := put_end hL hm (by omega) hn ha w (hz.keep hB) hr
  have BA : Hid (∀ W, w.grownBy W (some gr) → Calls Tryz.prog 55 #[.slice a X.length c] W fun e w' => e = .returned (.bool (bareB X)) ∧ w' = W) := fun W g => bare_any ha W ((hz.keep hB).grown g fun hne e => by
    have : b < w0.heap.size := World.block_lt_of_cell? w0 _ (hz 0 (List.length_pos_iff.2 hne))
    have := Option.some.inj e
    omega)
  have PH : Hid (bareB X = false → ∀ W, Rq W gr (ovr L m X) → Calls Tryz.prog 34 #[.slice (some ⟨gr, 0, none⟩) (m - X.length) n, .bool false, .int .i64 (X.length : Int)] W fun e w' => e = .returned (.slice (some ⟨gr, 0, none⟩) (m - (encX X).length) n) ∧ Rq w' gr (ovr L m (encX X)) ∧ W.grownBy w' (some gr)) := fun hb W r => by
    have e : encX X = hdR 128 X.length ++ X := by unfold encX; rw [hb]; rfl
    rw [e] at hx ⊢
    rw [List.length_append] at hx ⊢
    have k := phead_false (L := ovr L m X) (gr := gr) (m := m - X.length) (n := n) (h := X.length) (by rw [ovr_len (by omega) (by omega)]; exact hL) (by omega) (by omega) hn hX W r
    rw [ovr_app (by omega) (by omega)] at k
    rw [show m - ((hdR 128 X.length).length + X.length) = m - X.length - (hdR 128 X.length).length by omega]
    exact k
  clear hz hr
  cases hb : bareB X with
  | true =>
    have e : encX X = X := by unfold encX; rw [hb]; rfl
    rw [e]
    rw [hb] at BA
    clear PH hxl hx e
    generalize X.length = XL at *
    go_enter Tryz.func32, Tryz.ntmps32
    go_wp2_with (first
      | (go_at_call 54; (with_reducible refine PU.out.mono ?_); rintro e1 w1 ⟨rfl, r1, g1⟩)
      | (go_at_call 55; (with_reducible refine (BA.out _ g1).mono ?_); rintro e2 w2 ⟨rfl, hw⟩; (rw [hw]); (clear hw w2)))
    simp [bodyPost, results, Tryz.results32, go_sem]
    exact ⟨r1, g1⟩
  | false =>
    have PH' : Hid (∀ W, Rq W gr (ovr L m X) → Calls Tryz.prog 34 #[.slice (some ⟨gr, 0, none⟩) (m - X.length) n, .bool false, .int .i64 (X.length : Int)] W fun e w' => e = .returned (.slice (some ⟨gr, 0, none⟩) (m - (encX X).length) n) ∧ Rq w' gr (ovr L m (encX X)) ∧ W.grownBy w' (some gr)) := PH.out hb
    rw [hb] at BA
    clear PH hxl hx
    generalize (encX X).length = EL at *
    generalize encX X = EX at *
    generalize hXL : X.length = XL at *
    go_enter Tryz.func32, Tryz.ntmps32
    go_wp2_with (first
      | (go_at_call 54; (with_reducible refine PU.out.mono ?_); rintro e1 w1 ⟨rfl, r1, g1⟩)
      | (go_at_call 55; (with_reducible refine (BA.out _ g1).mono ?_); rintro e2 w2 ⟨rfl, hw⟩; (rw [hw]); (clear hw w2))
      | (go_at_call 34; (with_reducible refine (PH'.out _ r1).mono ?_); rintro e3 w3 ⟨rfl, r3, g3⟩))
    simp [bodyPost, results, Tryz.results32, go_sem]
    exact ⟨r3, g1.trans g3⟩
end Go.Proofs.YtiebnlahhmngcaaGreatDoor
