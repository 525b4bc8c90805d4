import Derived.Test.YtaefmdofchjofaaRxY
import Derived.Test.YtaefmdofchjofaaRsE
import Derived.ArgAppend
/- Layer 7: a head, put into an array of nine bytes. -/
namespace Go.Proofs.Ytaefmdofchjofaa
open Go.RowKit Go.Sort
/-- The first bytes of an array of nine. -/
def OwA (W : World) (g : Nat) (P : List Int) : Prop := P.length ≤ 9 ∧ W.rangeAt g 0 (P.map (Value.int .u8)) ∧ W.there g 0 9
theorem OwA.lt {W : World} {g : Nat} {P : List Int} (h : OwA W g P) : g < W.heap.size := by
  obtain ⟨v, hv⟩ := Option.isSome_iff_exists.1 (h.2.2 0 (by omega)).1
  exact World.block_lt_of_cell? W _ hv
theorem OwA.same {W W' : World} {g : Nat} {P : List Int} (h : OwA W g P) (e : W'.heap[g]? = W.heap[g]?) : OwA W' g P :=
  ⟨h.1, fun j v hv => by rw [World.cell?_of_block (w := W) (a := ⟨g, 0 + j, none⟩) e]; exact h.2.1 j v hv, fun j hj => by
    obtain ⟨h1, h2⟩ := h.2.2 j hj
    exact ⟨by rw [World.cell?_of_block (w := W) (a := ⟨g, 0 + j, none⟩) e]; exact h1, by rw [World.frozen?_of_block (w := W) (a := ⟨g, 0 + j, none⟩) e]; exact h2⟩⟩
theorem OwA.keep {W W' : World} {g : Nat} {P : List Int} (h : OwA W g P) (hb : Below W.heap.size W W') : OwA W' g P := h.same (hb.block g h.lt)
theorem OwA.bz {W : World} {g : Nat} {P : List Int} (h : OwA W g P) : Bz W g 0 P := fun i hi => h.2.1 i _ (by rw [List.getElem?_map, List.getElem?_eq_getElem hi, List.getD, List.getElem?_eq_getElem hi]; rfl)
theorem setCells_one (W : World) (g o : Nat) (v : Value) : W.setCells g o [v] = W.setCell ⟨g, o, none⟩ v := rfl
theorem OwA.snoc {W : World} {g : Nat} {P : List Int} (h : OwA W g P) (hl : P.length < 9) (x : Int) : OwA (W.setCells g P.length [.int .u8 x]) g (P ++ [x]) := by
  have lm : (P.map (Value.int .u8)).length = P.length := List.length_map _
  refine ⟨by simp; omega, fun j v hv => ?_, World.there_setCells h.2.2 _ _ _⟩
  rw [List.map_append] at hv
  by_cases hj : j < P.length
  · rw [List.getElem?_append_left (by omega)] at hv
    exact World.rangeAt_setCells_apart h.2.1 g P.length [.int .u8 x] (.inr (.inl (by rw [lm]; omega))) j v hv
  · rw [List.getElem?_append_right (by omega), lm] at hv
    have hj2 : j = P.length := by
      have := (List.getElem?_eq_some_iff.1 hv).1
      simp at this
      omega
    subst hj2
    rw [Nat.sub_self] at hv
    have ht : W.there g P.length 1 := fun k hk => by
      have := h.2.2 (P.length + k) (by omega)
      rw [Nat.zero_add] at this
      exact this
    have := World.rangeAt_setCells_same W g P.length [.int .u8 x] ht 0 v hv
    rw [Nat.zero_add]; exact this
theorem wpList_append_arr {ops : Array Oper} {rest : List Oper} {op : Oper} {a : Act} {Q : Exit → Act → World → Prop} {W : World} {g gn n c : Nat} {P : List Int} {x : Int} (hgd : op.guard = none) (s t : Operand)
    (ho : op.op = .call { callee := .builtin .append, args := #[s, t], argTypes := #[29, 29] }) (hs : a.eval s = .slice (some ⟨g, 0, none⟩) n 9) (hn : n = P.length) (hx : a.eval t = .slice (some ⟨gn, 0, none⟩) 1 c)
    (h : OwA W g P) (hl : P.length < 9) (hnew : W.cell? ⟨gn, 0, none⟩ = some (.int .u8 x))
    (hK : ∀ w', OwA w' g (P ++ [x]) → W.grownBy w' (some g) → wpList Try.prog ops Q rest (a.put op.dst (.slice (some ⟨g, 0, none⟩) (n + 1) 9)) w') : wpList Try.prog ops Q (op :: rest) a W := by
  subst hn
  obtain ⟨i0, hi, hz0, hz1, hz2⟩ := info_parts info_byte
  refine wpList_plain hgd fun K hK' => ?_
  have hr := run_append_room_cells (P := Try.prog) W 29 op.type 5 i0 Try.underlying29 hi g 0 P.length 9 ⟨gn, 0, none⟩ 1 c [.int .u8 x] (by rw [hz1]; rfl) (fun j u hu => by
    match j, hu with
    | 0, hu => simp at hu; subst hu; rw [Addr.add_lit]; exact hnew
    | j + 1, hu => simp at hu) (fun u hu => by simp at hu; subst hu; rfl) (by omega) (fun j hj => by
    have := (h.2.2 (P.length + j) (by simp at hj; omega)).1
    rw [hz1, Nat.mul_one]
    rw [Nat.zero_add] at this ⊢
    exact this) (fun j hj => by
    have := (h.2.2 (P.length + j) (by simp at hj; omega)).2
    rw [hz1, Nat.mul_one]
    rw [Nat.zero_add] at this ⊢
    exact this)
  rw [hz1, Nat.mul_one, Nat.zero_add] at hr
  unfold Oper.wp execOp
  simp only [ho, resolve, invoke, builtin, Sem.run_bind, Sem.run_pure, Result.andThen_ok, List.map_toArray, List.map_cons, List.map_nil, hs, hx, hr]
  exact hK' _ _ (hK _ (h.snoc hl x) (by rw [setCells_one]; exact grown_set _ _ _))
theorem cell_new1 (W : World) (x : Int) (t : TypeId) : (W.alloc (.cells #[.int .u8 x] t)).cell? ⟨W.heap.size, 0, none⟩ = some (.int .u8 x) := by simp [go_sem]
theorem OwA.congr {w : World} {g : Nat} {Z : List Int} {x y : Int} (h : OwA w g (Z ++ [x])) (e : x = y) : OwA w g (Z ++ [y]) := e ▸ h
theorem grown_alloc (W : World) (o : Obj) (row : Option Nat) : W.grownBy (W.alloc o) row := World.grownBy_alloc W o row
set_option maxRecDepth 100000 in
set_option maxHeartbeats 4000000 in
theorem whead_low_true {g n : Nat} (hn : n ≤ 55) (w : World) (h : OwA w g []) :
    Calls Try.prog 72 #[.slice (some ⟨g, 0, none⟩) 0 9, .bool true, .int .i64 (n : Int)] w fun e w' => e = .returned (.slice (some ⟨g, 0, none⟩) 1 9) ∧ OwA w' g [192 + (n : Int)] ∧ w.grownBy w' (some g) := by
  have hn' : (n : Int) ≤ 55 := by omega
  have e1 : (192 + (n : Int)) % 256 = 192 + n := by omega
  have HO : Hid (OwA w g []) := h
  clear h
  go_enter Try.func72, Try.ntmps72
  go_wp2_with ((at_builtin; go_loud (refine wpList_append_arr (P := []) rfl _ _ rfl rfl rfl rfl (HO.out.keep ((Below.refl _ _).alloc (Nat.le_refl _) _)) (by decide) (cell_new1 _ _ _) ?_); intro w3 ho hg))
  simp [bodyPost, results, Try.results72, go_sem]
  exact ⟨by simpa using ho, (grown_alloc _ _ _).trans hg⟩
set_option maxRecDepth 100000 in
set_option maxHeartbeats 8000000 in
theorem whead_high_true {g n : Nat} (hn : 55 < n) (hn2 : n < 16777216) (w : World) (h : OwA w g []) :
    Calls Try.prog 72 #[.slice (some ⟨g, 0, none⟩) 0 9, .bool true, .int .i64 (n : Int)] w fun e w' => e = .returned (.slice (some ⟨g, 0, none⟩) ((beN n).length + 1) 9) ∧ OwA w' g ((192 + 55 + ((beN n).length : Int)) :: beN n) ∧ w.grownBy w' (some g) := by
  have hn' : ¬ ((n : Int) ≤ 55) := by omega
  have hn3 : (n : Int) < 16777216 := by omega
  have c := lengthSize_any (n := n) (by omega) hn2
  have hl := beN_len n
  have hl' : ((beN n).length : Int) ≤ 3 := by omega
  have BA := be_at n
  have HO : Hid (OwA w g []) := h
  have HT : Hid (∀ i, i < (beN n).length → (beN n).take (i + 1) = (beN n).take i ++ [(beN n).getD i 0]) := fun i hi => take_snocI hi
  have HT2 : Hid ((beN n).take (beN n).length = beN n) := List.take_length
  clear h
  obtain ⟨r, er⟩ : ∃ r, r = (beN n).length := ⟨_, rfl⟩
  rw [← er] at c hl hl' BA HT HT2 ⊢
  generalize beN n = bn at *
  have HR : Hid (r = bn.length) := er
  clear er
  go_enter Try.func72, Try.ntmps72
  go_wp2_with (first | ((with_reducible refine (c _).mono ?_); rintro e1 w1 ⟨rfl, hw⟩; (rw [hw]); (clear hw w1)) | ((at_builtin; go_loud (refine wpList_append_arr (P := []) (x := 192 + 55 + (r : Int)) rfl _ _ rfl rfl rfl rfl (HO.out.keep ((Below.refl _ _).alloc (Nat.le_refl _) _)) (by decide) (cell_new1 _ _ _) ?_); intro w3 ho hg)))
  have G3 : Hid (OwA w3 g [192 + 55 + (r : Int)] ∧ w.grownBy w3 (some g)) := ⟨by simpa using ho, (grown_alloc _ _ _).trans hg⟩
  clear ho hg
  go_loopg [0, 31] r (fun k bv iv wr => ∃ i : Nat, k = r - i ∧ i ≤ r ∧ bv = .slice (some ⟨g, 0, none⟩) (i + 1) 9 ∧ iv = .int .i64 (i : Int) ∧ OwA wr g ((192 + 55 + (r : Int)) :: bn.take i) ∧ w.grownBy wr (some g))
  case atStart => exact ⟨0, rfl, Nat.zero_le _, rfl, rfl, G3.out⟩
  case round =>
    clear G3
    obtain ⟨i, hk, hi8, rfl, rfl, ho, Bw⟩ := hrel
    have HK : Hid (gk = r - i ∧ i ≤ r) := ⟨hk, hi8⟩
    have HF : Hid (OwA wr g ((192 + 55 + (r : Int)) :: bn.take i) ∧ w.grownBy wr (some g)) := ⟨ho, Bw⟩
    clear hk ho Bw
    by_cases h8 : i = r
    · subst h8
      go_wp2
      have F := HF.out
      rw [HT2.out] at F
      simp [bodyPost, results, Try.results72, go_sem]
      exact F
    · have hlt : i < r := by omega
      have hlt' : (i : Int) < (r : Int) := by omega
      have LN : Hid (i + 1 = ((192 + 55 + (r : Int)) :: bn.take i).length ∧ ((192 + 55 + (r : Int)) :: bn.take i).length < 9) := by
        have := HR.out
        have e : ((192 + 55 + (r : Int)) :: bn.take i).length = i + 1 := by rw [List.length_cons, List.length_take]; omega
        exact ⟨e.symm, by rw [e]; omega⟩
      have NX : Hid ((192 + 55 + (r : Int)) :: bn.take (i + 1) = ((192 + 55 + (r : Int)) :: bn.take i) ++ [bn.getD i 0]) := by
        show _ = _
        rw [HT.out i hlt]; simp
      rcases BA with ⟨r1, b0, bl⟩ | ⟨r1, b0, b1, bl⟩ | ⟨r1, b0, b1, b2⟩
      · have i1 : i = 0 := by omega
        subst r1 i1
        · go_wp2_with ((at_builtin; go_loud (refine wpList_append_arr rfl _ _ rfl rfl LN.out.1 rfl (HF.out.1.keep ((Below.refl _ _).alloc (Nat.le_refl _) _)) LN.out.2 (cell_new1 _ _ _) ?_); intro w3 ho hg))
          have G4 : w.grownBy w3 (some g) := (HF.out.2.trans (grown_alloc _ _ _)).trans hg
          clear hg
          go_roundg (1 - (0 + 1))
          case measure => have := HK.out.1; omega
          case rel => exact ⟨0 + 1, rfl, by omega, rfl, by go_num, by rw [NX.out, b0]; exact ho.congr (by first | rfl | omega | (simp; omega)), G4⟩
      · have i1 : i = 0 ∨ i = 1 := by omega
        subst r1
        rcases i1 with i1 | i1 <;> subst i1
        · go_wp2_with ((at_builtin; go_loud (refine wpList_append_arr rfl _ _ rfl rfl LN.out.1 rfl (HF.out.1.keep ((Below.refl _ _).alloc (Nat.le_refl _) _)) LN.out.2 (cell_new1 _ _ _) ?_); intro w3 ho hg))
          have G4 : w.grownBy w3 (some g) := (HF.out.2.trans (grown_alloc _ _ _)).trans hg
          clear hg
          go_roundg (2 - (0 + 1))
          case measure => have := HK.out.1; omega
          case rel => exact ⟨0 + 1, rfl, by omega, rfl, by go_num, by rw [NX.out, b0]; exact ho.congr (by first | rfl | omega | (simp; omega)), G4⟩
        · go_wp2_with ((at_builtin; go_loud (refine wpList_append_arr rfl _ _ rfl rfl LN.out.1 rfl (HF.out.1.keep ((Below.refl _ _).alloc (Nat.le_refl _) _)) LN.out.2 (cell_new1 _ _ _) ?_); intro w3 ho hg))
          have G4 : w.grownBy w3 (some g) := (HF.out.2.trans (grown_alloc _ _ _)).trans hg
          clear hg
          go_roundg (2 - (1 + 1))
          case measure => have := HK.out.1; omega
          case rel => exact ⟨1 + 1, rfl, by omega, rfl, by go_num, by rw [NX.out, b1]; exact ho.congr (by first | rfl | omega | (simp; omega)), G4⟩
      · have i1 : i = 0 ∨ i = 1 ∨ i = 2 := by omega
        subst r1
        rcases i1 with i1 | i1 | i1 <;> subst i1
        · go_wp2_with ((at_builtin; go_loud (refine wpList_append_arr rfl _ _ rfl rfl LN.out.1 rfl (HF.out.1.keep ((Below.refl _ _).alloc (Nat.le_refl _) _)) LN.out.2 (cell_new1 _ _ _) ?_); intro w3 ho hg))
          have G4 : w.grownBy w3 (some g) := (HF.out.2.trans (grown_alloc _ _ _)).trans hg
          clear hg
          go_roundg (3 - (0 + 1))
          case measure => have := HK.out.1; omega
          case rel => exact ⟨0 + 1, rfl, by omega, rfl, by go_num, by rw [NX.out, b0]; exact ho.congr (by first | rfl | omega | (simp; omega)), G4⟩
        · go_wp2_with ((at_builtin; go_loud (refine wpList_append_arr rfl _ _ rfl rfl LN.out.1 rfl (HF.out.1.keep ((Below.refl _ _).alloc (Nat.le_refl _) _)) LN.out.2 (cell_new1 _ _ _) ?_); intro w3 ho hg))
          have G4 : w.grownBy w3 (some g) := (HF.out.2.trans (grown_alloc _ _ _)).trans hg
          clear hg
          go_roundg (3 - (1 + 1))
          case measure => have := HK.out.1; omega
          case rel => exact ⟨1 + 1, rfl, by omega, rfl, by go_num, by rw [NX.out, b1]; exact ho.congr (by first | rfl | omega | (simp; omega)), G4⟩
        · go_wp2_with ((at_builtin; go_loud (refine wpList_append_arr rfl _ _ rfl rfl LN.out.1 rfl (HF.out.1.keep ((Below.refl _ _).alloc (Nat.le_refl _) _)) LN.out.2 (cell_new1 _ _ _) ?_); intro w3 ho hg))
          have G4 : w.grownBy w3 (some g) := (HF.out.2.trans (grown_alloc _ _ _)).trans hg
          clear hg
          go_roundg (3 - (2 + 1))
          case measure => have := HK.out.1; omega
          case rel => exact ⟨2 + 1, rfl, by omega, rfl, by go_num, by rw [NX.out, b2]; exact ho.congr (by first | rfl | omega | (simp; omega)), G4⟩
theorem whead_true {g n : Nat} (hn2 : n < 16777216) (w : World) (h : OwA w g []) :
    Calls Try.prog 72 #[.slice (some ⟨g, 0, none⟩) 0 9, .bool true, .int .i64 (n : Int)] w fun e w' => e = .returned (.slice (some ⟨g, 0, none⟩) (hdR 192 n).length 9) ∧ OwA w' g (hdR 192 n) ∧ w.grownBy w' (some g) := by
  unfold hdR
  by_cases k : n ≤ 55
  · rw [if_pos k]; exact whead_low_true k w h
  · rw [if_neg k, List.length_cons]; exact whead_high_true (by omega) hn2 w h
set_option maxRecDepth 100000 in
set_option maxHeartbeats 4000000 in
theorem whead_low_false {g n : Nat} (hn : n ≤ 55) (w : World) (h : OwA w g []) :
    Calls Try.prog 72 #[.slice (some ⟨g, 0, none⟩) 0 9, .bool false, .int .i64 (n : Int)] w fun e w' => e = .returned (.slice (some ⟨g, 0, none⟩) 1 9) ∧ OwA w' g [128 + (n : Int)] ∧ w.grownBy w' (some g) := by
  have hn' : (n : Int) ≤ 55 := by omega
  have e1 : (128 + (n : Int)) % 256 = 128 + n := by omega
  have HO : Hid (OwA w g []) := h
  clear h
  go_enter Try.func72, Try.ntmps72
  go_wp2_with ((at_builtin; go_loud (refine wpList_append_arr (P := []) rfl _ _ rfl rfl rfl rfl (HO.out.keep ((Below.refl _ _).alloc (Nat.le_refl _) _)) (by decide) (cell_new1 _ _ _) ?_); intro w3 ho hg))
  simp [bodyPost, results, Try.results72, go_sem]
  exact ⟨by simpa using ho, (grown_alloc _ _ _).trans hg⟩
set_option maxRecDepth 100000 in
set_option maxHeartbeats 8000000 in
theorem whead_high_false {g n : Nat} (hn : 55 < n) (hn2 : n < 16777216) (w : World) (h : OwA w g []) :
    Calls Try.prog 72 #[.slice (some ⟨g, 0, none⟩) 0 9, .bool false, .int .i64 (n : Int)] w fun e w' => e = .returned (.slice (some ⟨g, 0, none⟩) ((beN n).length + 1) 9) ∧ OwA w' g ((128 + 55 + ((beN n).length : Int)) :: beN n) ∧ w.grownBy w' (some g) := by
  have hn' : ¬ ((n : Int) ≤ 55) := by omega
  have hn3 : (n : Int) < 16777216 := by omega
  have c := lengthSize_any (n := n) (by omega) hn2
  have hl := beN_len n
  have hl' : ((beN n).length : Int) ≤ 3 := by omega
  have BA := be_at n
  have HO : Hid (OwA w g []) := h
  have HT : Hid (∀ i, i < (beN n).length → (beN n).take (i + 1) = (beN n).take i ++ [(beN n).getD i 0]) := fun i hi => take_snocI hi
  have HT2 : Hid ((beN n).take (beN n).length = beN n) := List.take_length
  clear h
  obtain ⟨r, er⟩ : ∃ r, r = (beN n).length := ⟨_, rfl⟩
  rw [← er] at c hl hl' BA HT HT2 ⊢
  generalize beN n = bn at *
  have HR : Hid (r = bn.length) := er
  clear er
  go_enter Try.func72, Try.ntmps72
  go_wp2_with (first | ((with_reducible refine (c _).mono ?_); rintro e1 w1 ⟨rfl, hw⟩; (rw [hw]); (clear hw w1)) | ((at_builtin; go_loud (refine wpList_append_arr (P := []) (x := 128 + 55 + (r : Int)) rfl _ _ rfl rfl rfl rfl (HO.out.keep ((Below.refl _ _).alloc (Nat.le_refl _) _)) (by decide) (cell_new1 _ _ _) ?_); intro w3 ho hg)))
  have G3 : Hid (OwA w3 g [128 + 55 + (r : Int)] ∧ w.grownBy w3 (some g)) := ⟨by simpa using ho, (grown_alloc _ _ _).trans hg⟩
  clear ho hg
  go_loopg [0, 31] r (fun k bv iv wr => ∃ i : Nat, k = r - i ∧ i ≤ r ∧ bv = .slice (some ⟨g, 0, none⟩) (i + 1) 9 ∧ iv = .int .i64 (i : Int) ∧ OwA wr g ((128 + 55 + (r : Int)) :: bn.take i) ∧ w.grownBy wr (some g))
  case atStart => exact ⟨0, rfl, Nat.zero_le _, rfl, rfl, G3.out⟩
  case round =>
    clear G3
    obtain ⟨i, hk, hi8, rfl, rfl, ho, Bw⟩ := hrel
    have HK : Hid (gk = r - i ∧ i ≤ r) := ⟨hk, hi8⟩
    have HF : Hid (OwA wr g ((128 + 55 + (r : Int)) :: bn.take i) ∧ w.grownBy wr (some g)) := ⟨ho, Bw⟩
    clear hk ho Bw
    by_cases h8 : i = r
    · subst h8
      go_wp2
      have F := HF.out
      rw [HT2.out] at F
      simp [bodyPost, results, Try.results72, go_sem]
      exact F
    · have hlt : i < r := by omega
      have hlt' : (i : Int) < (r : Int) := by omega
      have LN : Hid (i + 1 = ((128 + 55 + (r : Int)) :: bn.take i).length ∧ ((128 + 55 + (r : Int)) :: bn.take i).length < 9) := by
        have := HR.out
        have e : ((128 + 55 + (r : Int)) :: bn.take i).length = i + 1 := by rw [List.length_cons, List.length_take]; omega
        exact ⟨e.symm, by rw [e]; omega⟩
      have NX : Hid ((128 + 55 + (r : Int)) :: bn.take (i + 1) = ((128 + 55 + (r : Int)) :: bn.take i) ++ [bn.getD i 0]) := by
        show _ = _
        rw [HT.out i hlt]; simp
      rcases BA with ⟨r1, b0, bl⟩ | ⟨r1, b0, b1, bl⟩ | ⟨r1, b0, b1, b2⟩
      · have i1 : i = 0 := by omega
        subst r1 i1
        · go_wp2_with ((at_builtin; go_loud (refine wpList_append_arr rfl _ _ rfl rfl LN.out.1 rfl (HF.out.1.keep ((Below.refl _ _).alloc (Nat.le_refl _) _)) LN.out.2 (cell_new1 _ _ _) ?_); intro w3 ho hg))
          have G4 : w.grownBy w3 (some g) := (HF.out.2.trans (grown_alloc _ _ _)).trans hg
          clear hg
          go_roundg (1 - (0 + 1))
          case measure => have := HK.out.1; omega
          case rel => exact ⟨0 + 1, rfl, by omega, rfl, by go_num, by rw [NX.out, b0]; exact ho.congr (by first | rfl | omega | (simp; omega)), G4⟩
      · have i1 : i = 0 ∨ i = 1 := by omega
        subst r1
        rcases i1 with i1 | i1 <;> subst i1
        · go_wp2_with ((at_builtin; go_loud (refine wpList_append_arr rfl _ _ rfl rfl LN.out.1 rfl (HF.out.1.keep ((Below.refl _ _).alloc (Nat.le_refl _) _)) LN.out.2 (cell_new1 _ _ _) ?_); intro w3 ho hg))
          have G4 : w.grownBy w3 (some g) := (HF.out.2.trans (grown_alloc _ _ _)).trans hg
          clear hg
          go_roundg (2 - (0 + 1))
          case measure => have := HK.out.1; omega
          case rel => exact ⟨0 + 1, rfl, by omega, rfl, by go_num, by rw [NX.out, b0]; exact ho.congr (by first | rfl | omega | (simp; omega)), G4⟩
        · go_wp2_with ((at_builtin; go_loud (refine wpList_append_arr rfl _ _ rfl rfl LN.out.1 rfl (HF.out.1.keep ((Below.refl _ _).alloc (Nat.le_refl _) _)) LN.out.2 (cell_new1 _ _ _) ?_); intro w3 ho hg))
          have G4 : w.grownBy w3 (some g) := (HF.out.2.trans (grown_alloc _ _ _)).trans hg
          clear hg
          go_roundg (2 - (1 + 1))
          case measure => have := HK.out.1; omega
          case rel => exact ⟨1 + 1, rfl, by omega, rfl, by go_num, by rw [NX.out, b1]; exact ho.congr (by first | rfl | omega | (simp; omega)), G4⟩
      · have i1 : i = 0 ∨ i = 1 ∨ i = 2 := by omega
        subst r1
        rcases i1 with i1 | i1 | i1 <;> subst i1
        · go_wp2_with ((at_builtin; go_loud (refine wpList_append_arr rfl _ _ rfl rfl LN.out.1 rfl (HF.out.1.keep ((Below.refl _ _).alloc (Nat.le_refl _) _)) LN.out.2 (cell_new1 _ _ _) ?_); intro w3 ho hg))
          have G4 : w.grownBy w3 (some g) := (HF.out.2.trans (grown_alloc _ _ _)).trans hg
          clear hg
          go_roundg (3 - (0 + 1))
          case measure => have := HK.out.1; omega
          case rel => exact ⟨0 + 1, rfl, by omega, rfl, by go_num, by rw [NX.out, b0]; exact ho.congr (by first | rfl | omega | (simp; omega)), G4⟩
        · go_wp2_with ((at_builtin; go_loud (refine wpList_append_arr rfl _ _ rfl rfl LN.out.1 rfl (HF.out.1.keep ((Below.refl _ _).alloc (Nat.le_refl _) _)) LN.out.2 (cell_new1 _ _ _) ?_); intro w3 ho hg))
          have G4 : w.grownBy w3 (some g) := (HF.out.2.trans (grown_alloc _ _ _)).trans hg
          clear hg
          go_roundg (3 - (1 + 1))
          case measure => have := HK.out.1; omega
          case rel => exact ⟨1 + 1, rfl, by omega, rfl, by go_num, by rw [NX.out, b1]; exact ho.congr (by first | rfl | omega | (simp; omega)), G4⟩
        · go_wp2_with ((at_builtin; go_loud (refine wpList_append_arr rfl _ _ rfl rfl LN.out.1 rfl (HF.out.1.keep ((Below.refl _ _).alloc (Nat.le_refl _) _)) LN.out.2 (cell_new1 _ _ _) ?_); intro w3 ho hg))
          have G4 : w.grownBy w3 (some g) := (HF.out.2.trans (grown_alloc _ _ _)).trans hg
          clear hg
          go_roundg (3 - (2 + 1))
          case measure => have := HK.out.1; omega
          case rel => exact ⟨2 + 1, rfl, by omega, rfl, by go_num, by rw [NX.out, b2]; exact ho.congr (by first | rfl | omega | (simp; omega)), G4⟩
theorem whead_false {g n : Nat} (hn2 : n < 16777216) (w : World) (h : OwA w g []) :
    Calls Try.prog 72 #[.slice (some ⟨g, 0, none⟩) 0 9, .bool false, .int .i64 (n : Int)] w fun e w' => e = .returned (.slice (some ⟨g, 0, none⟩) (hdR 128 n).length 9) ∧ OwA w' g (hdR 128 n) ∧ w.grownBy w' (some g) := by
  unfold hdR
  by_cases k : n ≤ 55
  · rw [if_pos k]; exact whead_low_false k w h
  · rw [if_neg k, List.length_cons]; exact whead_high_false (by omega) hn2 w h
end Go.Proofs.Ytaefmdofchjofaa
