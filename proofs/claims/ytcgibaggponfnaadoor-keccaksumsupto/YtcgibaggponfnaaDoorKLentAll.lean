import Derived.Test.YtcgibaggponfnaaDoorKStill
namespace Go.Proofs.YtcgibaggponfnaaDoor
open Go.RowKit Go.Sort

theorem info_bytes : (Tryd.prog.info? 27).map (fun i => (i.zero, i.size, i.bytes)) = some (some (.slice none 0 0), 1, 24) := by kernel_rfl

/-- 'make([][]byte, n)'. -/
theorem wpList_make_24 {P : Program} (w : World) {ops : Array Oper} {rest : List Oper} {o : Oper} {a : Act} {Q : Exit → Act → World → Prop}
    (hg : o.guard = none) (l c : Operand) (t : TypeId) (hop : o.op = Op.makeSlice t l c)
    (e : TypeId) (i : TypeInfo) (z : Value) (ht : P.underlying t = some (.slice e)) (hi : P.info? e = some i) (hz : i.zero = some z) (hsize : i.size = 1) (hz1 : z.cells = #[z]) (hby : i.bytes = 24)
    (kl kc : IntKind) (L C : Int) (n m : Nat) (hl : a.eval l = .int kl L) (hc : a.eval c = .int kc C) (eL : L = (n : Int)) (eC : C = (m : Int)) (hnm : n ≤ m) (hm : m ≤ 2147483648)
    (hK : wpList P ops Q rest (a.put o.dst (.slice (some ⟨w.heap.size, 0, none⟩) n m)) (w.alloc (.cells (madeCells #[z] m) e))) :
    wpList P ops Q (o :: rest) a w := by
  subst eL eC
  refine wpList_plain hg fun K hK' => ?_
  have hr := run_make (P := P) w t e i z ht hi hz kl kc n m (by omega) (by omega) (by rw [hby]; omega) (by omega)
  simp only [Int.toNat_natCast, hsize, Nat.mul_one, hz1] at hr
  unfold Oper.wp
  simp [execOp, hop, hl, hc, hr, Result.andThen]
  exact hK' _ _ hK

theorem made_slices (n : Nat) : madeCells #[Value.slice none 0 0] n = (List.replicate n (Value.slice none 0 0)).toArray := by
  have := toList_madeCells_one (Value.slice none 0 0) n
  apply Array.toList_inj.1
  rw [this]

theorem Row8.keep {W w1 : World} {g : Nat} {X : List (BitVec 8)} (h : Row8 W g X) (hb : Below W.heap.size W w1) (hl : g < W.heap.size) : Row8 w1 g X := ⟨h.1.keep hb, h.2.keep hb hl⟩
theorem Row8.far {W : World} {b' g i : Nat} {v : Value} {X : List (BitVec 8)} (h : Row8 W g X) (ne : b' ≠ g) : Row8 (W.setCell ⟨b', i, none⟩ v) g X := ⟨h.1.far ne, h.2.set _ _⟩

/-- Block G lends these texts, as many as there are blocks in gs: each in a block of its own, with room behind. -/
def Lent (W : World) (B G : Nat) (XS : List (List (BitVec 8))) (gs : List Nat) : Prop :=
  ∀ i, i < gs.length → W.cell? ⟨G, i, none⟩ = some (.slice (some ⟨gs.getD i 0, 0, none⟩) (XS.getD i []).length ((XS.getD i []).length + 200)) ∧ (B ≤ gs.getD i 0 ∧ gs.getD i 0 < W.heap.size ∧ gs.getD i 0 ≠ G) ∧ Row8 W (gs.getD i 0) (XS.getD i [] ++ List.replicate 200 195) ∧ (∀ j, j < i → gs.getD j 0 ≠ gs.getD i 0)
theorem Lent.keep {W w1 : World} {B G : Nat} {XS : List (List (BitVec 8))} {gs : List Nat} (h : Lent W B G XS gs) (hb : Below W.heap.size W w1) : Lent w1 B G XS gs := fun i hi => by
  obtain ⟨h1, h2, h3, h4⟩ := h i hi
  exact ⟨cell_keep hb h1, ⟨h2.1, Nat.lt_of_lt_of_le h2.2.1 hb.size, h2.2.2⟩, h3.keep hb h2.2.1, h4⟩
theorem Lent.past {W : World} {B G m : Nat} {v : Value} {XS : List (List (BitVec 8))} {gs : List Nat} (h : Lent W B G XS gs) (hm : gs.length ≤ m) : Lent (W.setCell ⟨G, m, none⟩ v) B G XS gs := fun i hi => by
  obtain ⟨h1, h2, h3, h4⟩ := h i hi
  have ne : (⟨G, m, none⟩ : Addr) ≠ ⟨G, i, none⟩ := by first | (simp; done) | (simp; omega)
  exact ⟨by rw [World.cell?_setCell_other _ _ _ _ ne]; exact h1, ⟨h2.1, by rw [World.size_setCell]; exact h2.2.1, h2.2.2⟩, h3.far (Ne.symm h2.2.2), h4⟩
/-- A row of n cells, each there and not frozen. -/
def Cls (W : World) (G n : Nat) : Prop := G < W.heap.size ∧ (∀ i, i < n → ∃ v, W.cell? ⟨G, i, none⟩ = some v) ∧ Loose W G n
theorem Cls.keep {W w1 : World} {G n : Nat} (h : Cls W G n) (hb : Below W.heap.size W w1) : Cls w1 G n :=
  ⟨Nat.lt_of_lt_of_le h.1 hb.size, fun i hi => by obtain ⟨v, hv⟩ := h.2.1 i hi; exact ⟨v, cell_keep hb hv⟩, h.2.2.keep hb h.1⟩
theorem Cls.set {W : World} {G n i : Nat} {u : Value} (h : Cls W G n) : Cls (W.setCell ⟨G, i, none⟩ u) G n := by
  refine ⟨by rw [World.size_setCell]; exact h.1, fun j hj => ?_, h.2.2.set _ _⟩
  obtain ⟨v, hv⟩ := h.2.1 j hj
  by_cases e : i = j
  · subst e; exact ⟨u, World.cell?_setCell_same _ _ _ hv⟩
  · have ne : (⟨G, i, none⟩ : Addr) ≠ ⟨G, j, none⟩ := by simp; done
    exact ⟨v, by rw [World.cell?_setCell_other _ _ _ _ ne]; exact hv⟩
theorem Cls.made {W : World} {G n : Nat} {v : Value} {t : TypeId} (h : W.heap[G]? = some (.cells (List.replicate n v).toArray t (0, 0))) : Cls W G n := by
  refine ⟨(Array.getElem?_eq_some_iff.1 h).1, fun i hi => ⟨v, ?_⟩, fun i _ => frozen_of_row W G i _ t h⟩
  rw [cell_of_row W G i _ t _ h]
  simp [hi]
theorem Lent.push {W : World} {B G g n : Nat} {XS : List (List (BitVec 8))} {gs : List Nat} (h : Lent W B G XS gs) (hc : Cls W G n) (hn : gs.length < n) (hg : B ≤ g ∧ g < W.heap.size ∧ g ≠ G) (hr : Row8 W g (XS.getD gs.length [] ++ List.replicate 200 195)) (hd : ∀ i, i < gs.length → gs.getD i 0 ≠ g) :
    Lent (W.setCell ⟨G, gs.length, none⟩ (.slice (some ⟨g, 0, none⟩) (XS.getD gs.length []).length ((XS.getD gs.length []).length + 200))) B G XS (gs ++ [g]) := by
  intro i hi
  rw [List.length_append, List.length_singleton] at hi
  by_cases e : i = gs.length
  · subst e
    obtain ⟨v, hv⟩ := hc.2.1 gs.length hn
    have eg : (gs ++ [g]).getD gs.length 0 = g := by simp [List.getD]
    rw [eg]
    refine ⟨World.cell?_setCell_same _ _ _ hv, ⟨hg.1, by rw [World.size_setCell]; exact hg.2.1, hg.2.2⟩, hr.far (Ne.symm hg.2.2), fun j hj => ?_⟩
    rw [show (gs ++ [g]).getD j 0 = gs.getD j 0 by simp [List.getD, List.getElem?_append_left hj]]
    exact hd j hj
  · have hi' : i < gs.length := by omega
    have eg : ∀ j, j < gs.length → (gs ++ [g]).getD j 0 = gs.getD j 0 := fun j hj => by simp [List.getD, List.getElem?_append_left hj]
    obtain ⟨h1, h2, h3, h4⟩ := (h.past (Nat.le_refl _) : Lent (W.setCell ⟨G, gs.length, none⟩ (.slice (some ⟨g, 0, none⟩) (XS.getD gs.length []).length ((XS.getD gs.length []).length + 200))) B G XS gs) i hi'
    rw [eg i hi']
    exact ⟨h1, h2, h3, fun j hj => by rw [eg j (by omega)]; exact h4 j hj⟩

set_option maxHeartbeats 4000000 in
theorem lentAll_any {a : Option Addr} {bp op cp : Nat} {PS : List Part} (hs : (catX PS).length < 1073741824) (hn : PS.length ≤ 1073741824) (ha : PS = [] ∨ a = some ⟨bp, op, none⟩) (w : World) (hP : Prts w bp op PS) :
    Calls Tryd.prog 20 #[.slice a PS.length cp] w fun e w' => ∃ G gs ge, e = .returned (.slice (some ⟨G, 0, none⟩) PS.length (PS.length + 1)) ∧ w.heap.size ≤ G ∧ gs.length = PS.length ∧ Lent w' w.heap.size G (PS.map (·.X)) gs ∧ Cls w' G (PS.length + 1) ∧ w'.cell? ⟨G, PS.length, none⟩ = some (.slice (some ⟨ge, 0, none⟩) 1 1) ∧ w'.cell? ⟨ge, 0, none⟩ = some (.int .u8 195) ∧ (∀ i, i < PS.length → gs.getD i 0 ≠ ge) ∧ Below w.heap.size w w' := by
  obtain ⟨i0, hi, hz0, hz1, hz2⟩ := info_parts info_bytes
  have HZ : Hid (Tryd.prog.info? 27 = some i0 ∧ i0.zero = some (.slice none 0 0) ∧ i0.size = 1 ∧ i0.bytes = 24) := ⟨hi, hz0, hz1, hz2⟩
  have HA : Hid (Prts w bp op PS ∧ (PS = [] ∨ a = some ⟨bp, op, none⟩) ∧ (catX PS).length < 1073741824 ∧ PS.length ≤ 1073741824) := ⟨hP, ha, hs, hn⟩
  have nb : (PS.length : Int) ≤ 1073741824 := by omega
  clear hP ha hs hi hz0 hz1 hz2 hn
  go_enter Tryd.func20, Tryd.ntmps20
  go_wp2_with (first
    | (at_make; refine wpList_make_24 _ rfl _ _ 33 rfl 27 i0 (.slice none 0 0) Tryd.underlying33 HZ.out.1 HZ.out.2.1 HZ.out.2.2.1 rfl HZ.out.2.2.2 .i64 .i64 _ _ (PS.length + 1) (PS.length + 1) rfl rfl (by omega) (by omega) (by omega) (by have := HA.out.2.2.2; omega) ?_; rw [made_slices]; refine wpList_world (fun W => W.heap[w.heap.size]? = some (.cells (List.replicate (PS.length + 1) (Value.slice none 0 0)).toArray 27 (0, 0)) ∧ Below w.heap.size w W) ⟨heap_new _ _, (Below.refl _ _).alloc (Nat.le_refl _) _⟩ ?_; intro w1 h1; obtain ⟨hrow, B1⟩ := h1))
  have H1 : Hid (Cls w1 w.heap.size (PS.length + 1) ∧ Below w.heap.size w w1) := ⟨Cls.made hrow, B1⟩
  clear hrow B1
  obtain ⟨XS, kX⟩ : ∃ XS, XS = PS.map (·.X) := ⟨_, rfl⟩
  have KX : Hid (XS = PS.map (·.X)) := kX
  clear kX
  go_loopg [4] PS.length (fun k iv wr => ∃ gs : List Nat, k = PS.length - gs.length ∧ gs.length ≤ PS.length ∧ iv = .int .i64 gs.length ∧ Lent wr w.heap.size w.heap.size XS gs ∧ Cls wr w.heap.size (PS.length + 1) ∧ Below w.heap.size w wr)
  case atStart => exact ⟨[], rfl, Nat.zero_le _, rfl, fun i hi => absurd hi (Nat.not_lt_zero _), H1.out⟩
  case round =>
    clear H1
    obtain ⟨gs, hk, hi9, rfl, hL, hC, hB⟩ := hrel
    have HK : Hid (gk = PS.length - gs.length ∧ gs.length ≤ PS.length) := ⟨hk, hi9⟩
    have HF : Hid (Lent wr w.heap.size w.heap.size XS gs ∧ Cls wr w.heap.size (PS.length + 1) ∧ Below w.heap.size w wr) := ⟨hL, hC, hB⟩
    clear hk hi9 hL hC hB
    by_cases h8 : gs.length = PS.length
    · rw [h8]
      obtain ⟨v, gv⟩ := HF.out.2.1.2.1 PS.length (by omega)
      have gA : ∀ o, (wr.alloc o).cell? ⟨w.heap.size, PS.length, none⟩ = some v := fun o => cell_keep ((Below.refl _ _).alloc (Nat.le_refl _) o) gv
      have fA : ∀ o, (wr.alloc o).frozen? ⟨w.heap.size, PS.length, none⟩ = false := fun o => (HF.out.2.1.2.2.alloc HF.out.2.1.1 o) PS.length (by omega)
      have H8 : Hid (gs.length = PS.length) := h8
      clear gv
      go_wp2
      go_ret
      refine ⟨w.heap.size, gs, wr.heap.size, rfl, Nat.le_refl _, H8.out, ?_, (HF.out.2.1.keep ((Below.refl _ _).alloc (Nat.le_refl _) _)).set, World.cell?_setCell_same _ _ _ (gA _), ?_, fun i hi => ?_, (HF.out.2.2.alloc HF.out.2.2.size _).setCell (Nat.le_refl _) _⟩
      · rw [← KX.out]
        exact (HF.out.1.keep ((Below.refl _ _).alloc (Nat.le_refl _) _)).past (by rw [H8.out]; exact Nat.le_refl _)
      · rw [World.cell?_setCell_far _ _ _ _ (Nat.ne_of_lt HF.out.2.1.1)]
        exact cell_one_new _ _ _ 0 _ rfl
      · have := (HF.out.1 i (by rw [H8.out]; exact hi)).2.1.2.1
        omega
    · have hlt : gs.length < PS.length := by have := HK.out; omega
      have ea : a = some ⟨bp, op, none⟩ := by
        rcases HA.out.2.1 with h | h
        · rw [h] at hlt; simp at hlt
        · exact h
      subst ea
      obtain ⟨p, kp⟩ : ∃ p, p = PS.getD gs.length .none := ⟨_, rfl⟩
      have EX : Hid (XS.getD gs.length [] = p.X) := show XS.getD gs.length [] = p.X by rw [KX.out, kp]; simp [List.getD, hlt]
      have g0 : wr.cell? ⟨bp, op + gs.length, none⟩ = some (.slice p.a p.X.length p.c) := by
        have h := (HA.out.1 gs.length hlt).1
        rw [HF.out.2.2.cell (p := ⟨bp, op + gs.length, none⟩) (World.block_lt_of_cell? w _ h), h, ← kp]
        rfl
      have OK : Hid (At p.a p.b p.o p.X ∧ Byo wr p.b p.o p.X ∧ p.X.length < 1073741824) := by
        have h := (HA.out.1 gs.length hlt).2
        rw [← kp] at h
        refine ⟨h.1, fun j hj => by rw [HF.out.2.2.cell (p := ⟨p.b, p.o + j, none⟩) (World.block_lt_of_cell? w _ (h.2.2 j hj))]; exact h.2.2 j hj, ?_⟩
        have h1 := catX_le (PS := PS) (gs.length + 1)
        rw [catX_next hlt, List.length_append, ← kp] at h1
        have := HA.out.2.2.1
        omega
      clear kp
      go_wp2_with fail
      refine (lent_any OK.out.2.2 OK.out.1 _ OK.out.2.1).mono ?_
      rintro e w5 ⟨g, rfl, hg, hr, hb⟩
      have I5 : Hid (Lent w5 w.heap.size w.heap.size XS gs ∧ Cls w5 w.heap.size (PS.length + 1) ∧ Below w.heap.size w w5 ∧ Row8 w5 g (p.X ++ List.replicate 200 195) ∧ wr.heap.size ≤ g) := ⟨HF.out.1.keep hb, HF.out.2.1.keep hb, HF.out.2.2.trans (hb.mono HF.out.2.2.size), hr, hg⟩
      clear hb hr hg
      obtain ⟨v, gv⟩ := I5.out.2.1.2.1 gs.length (by omega)
      have fv := I5.out.2.1.2.2 gs.length (by omega)
      go_wp2
      go_roundg (PS.length - (gs.length + 1))
      case measure => have := HK.out; omega
      case rel =>
        refine ⟨gs ++ [g], by simp, by simp; omega, by simp, ?_, I5.out.2.1.set, I5.out.2.2.1.setCell (Nat.le_refl _) _⟩
        rw [← EX.out]
        have lg : g < w5.heap.size := World.block_lt_of_cell? w5 ⟨g, 0 + 0, none⟩ (I5.out.2.2.2.1.1 0 (by rw [List.length_append, List.length_replicate]; omega))
        refine I5.out.1.push I5.out.2.1 (by omega) ⟨by have := HF.out.2.1.1; have := I5.out.2.2.2.2; omega, lg, by have := HF.out.2.1.1; have := I5.out.2.2.2.2; omega⟩ (by rw [EX.out]; exact I5.out.2.2.2.1) fun i hi => ?_
        have := (HF.out.1 i hi).2.1.2.1
        have := I5.out.2.2.2.2
        omega

end Go.Proofs.YtcgibaggponfnaaDoor
