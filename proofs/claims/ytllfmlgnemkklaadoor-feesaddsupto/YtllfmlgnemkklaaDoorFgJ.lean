import Derived.Test.YtllfmlgnemkklaaDoorFgD
import Derived.Test.YtllfmlgnemkklaaDoorTxZA
import Derived.Test.YtllfmlgnemkklaaDoorTsD
import Derived.Test.YtllfmlgnemkklaaDoorFgG
import Derived.Test.YtllfmlgnemkklaaDoorQBar
import Derived.Deep.AppendLies
/- Layer 18: copied; blocks written and made. -/
namespace Go.Proofs.YtllfmlgnemkklaaDoor
open Go.RowKit Go.Sort
set_option maxRecDepth 100000 in
set_option maxHeartbeats 4000000 in
theorem fcopied_any {a : Option Addr} {bd od cd : Nat} {X : List Int} (hl : X.length < 140737488355000) (ha : Az a bd od X) (w : World) (hX : Bz w bd od X) :
    Calls Tryd.prog 10 #[.slice a X.length cd] w fun e w' => ∃ v, e = .returned v ∧ OwnB w.heap.size w' v X ∧ Below w.heap.size w w' := by
  have hl' : (X.length : Int) < 140737488355000 := by omega
  obtain ⟨i0, hi, hz0, hz1, hz2⟩ := info_parts info_byte
  have HA : Hid (Az a bd od X ∧ Bz w bd od X ∧ X.length < 140737488355000) := ⟨ha, hX, hl⟩
  clear ha hX hl
  go_enter Tryd.func10, Tryd.ntmps10
  go_wp2_with fail
  go_loopg [3, 4] X.length (fun k lv iv wr => ∃ i : Nat, k = X.length - i ∧ i ≤ X.length ∧ iv = .int .i64 i ∧ OwnB w.heap.size wr lv (X.take i) ∧ Below w.heap.size w wr)
  case atStart => exact ⟨0, rfl, Nat.zero_le _, rfl, OwnB.nil _ _, Below.refl _ _⟩
  case round =>
    obtain ⟨i, hk, hi9, rfl, hown, B⟩ := hrel
    have HK : Hid (gk = X.length - i) := hk
    have HF : Hid (OwnB w.heap.size wr u3 (X.take i) ∧ Below w.heap.size w wr) := ⟨hown, B⟩
    clear hk hown B
    by_cases h8 : i = X.length
    · subst h8
      have HR : Hid (X.take X.length = X) := List.take_length
      go_wp2
      simp [bodyPost, results, Tryd.results10, go_sem]
      exact ⟨by have h := HF.out.1; rw [HR.out] at h; exact h, HF.out.2⟩
    · have hlt : i < X.length := by omega
      have hlt' : (i : Int) < (X.length : Int) := by omega
      have ea : a = some ⟨bd, od, none⟩ := HA.out.1.cons (by omega)
      subst ea
      have gx : wr.cell? ⟨bd, od + i, none⟩ = some (.int .u8 (X.getD i 0)) := by
        have h := HA.out.2.1 i (by omega)
        rw [HF.out.2.cell (p := ⟨bd, od + i, none⟩) (World.block_lt_of_cell? w _ h)]; exact h
      have NX : Hid (X.take (i + 1) = X.take i ++ [X.getD i 0]) := take_snocI hlt
      have LR : Hid ((X.take i).length = i ∧ i < 140737488355000) := ⟨by rw [List.length_take]; omega, by have := HA.out; omega⟩
      generalize X.getD i 0 = x at *
      go_wp2_with ((at_builtin; (refine wpList_append_own_at _ rfl _ _ 27 rfl w.heap.size 5 i0 (.int .u8 0) 1 1 Tryd.underlying27 hi hz0 hz1 hz2 rfl (by decide) u3 _ _ rfl (HF.out.1.alloc _).row ⟨wr.heap.size, 0, none⟩ 1 1 [.int .u8 x] rfl rfl (cell_one_new _ _ _) (fun u hu => by simp at hu; subst hu; rfl) (by unfold maxLen; have := LR.out; omega) (by have := LR.out; omega) (by have := HF.out.2.size; simp; omega) ?_); intro v' w3 hown' hgrow3 hnil3 hblk))
      have HO : Hid (OwnB w.heap.size w3 v' (X.take (i + 1)) ∧ Below w.heap.size w w3) := by
        refine ⟨?_, ?_⟩
        · rw [NX.out, OwnB, List.length_append, List.map_append]
          exact hown'
        · exact (HF.out.2.alloc HF.out.2.size _).grown hgrow3 (by have := HF.out.2.size; simp; omega) (fun k hk => (HF.out.1.row.lt k hk).1)
      clear hown' hgrow3 hnil3 hblk
      go_roundg (X.length - (i + 1))
      case measure => have := HK.out; omega
      case rel => exact ⟨i + 1, rfl, by omega, by go_num, HO.out⟩
theorem wr_grown {W V V' : World} {b : Nat} {row : Option Nat} (h : tq.Wr W V b) (g : V.grownBy V' row) (hr : ∀ k, row = some k → W.heap.size ≤ k) : tq.Wr W V' b :=
  ⟨g.os.trans h.os, g.tape.trans h.tape, g.output.trans h.output, Nat.le_trans h.size g.size, fun k hk hb => (g.block k (by have := h.size; omega) (fun e => by have := hr k e.symm; omega)).trans (h.block k hk hb)⟩
theorem wr_but {W V V' : World} {b : Nat} (h : tq.Wr W V b) (g : tq.But V V' b) : tq.Wr W V' b :=
  ⟨g.os.trans h.os, g.tape.trans h.tape, g.output.trans h.output, by rw [g.size]; exact h.size, fun k hk hb => (g.block k hb).trans (h.block k hk hb)⟩
theorem but_grownBy {V V' : World} {b : Nat} (g : tq.But V V' b) : V.grownBy V' (some b) := ⟨g.os, g.tape, g.output, by rw [g.size]; exact Nat.le_refl _, fun k _ hk => g.block k (fun e => hk (by rw [e]))⟩
theorem ownB_but {B b : Nat} {V V' : World} {v : Value} {L : List Int} (h : OwnB B V v L) (g : tq.But V V' b) (hb : b < B) : OwnB B V' v L :=
  World.ownsRow.kept h (but_grownBy g) (by
    cases e : v.ownBlock with
    | none => exact .inl rfl
    | some k => exact .inr fun q => by have := (h.row.lt k e).1; have := Option.some.inj q; omega)
/-- What the first n bytes cost. -/
def gs (z q : Int) (X : List Int) (n : Nat) : Int := z * (zer X n : Nat) + q * ((n : Int) - (zer X n : Nat))
theorem gs_0 (z q : Int) (X : List Int) : gs z q X 0 = 0 := by unfold gs; simp [zer]
theorem gs_yes {z q : Int} {X : List Int} {n : Nat} (h : X.getD n 0 = 0) : gs z q X (n + 1) = gs z q X n + z := by
  unfold gs
  rw [zer, if_pos h]
  have e : ((zer X n + 1 : Nat) : Int) = (zer X n : Int) + 1 := by omega
  rw [e, Int.mul_add, Int.mul_one, show ((n + 1 : Nat) : Int) - ((zer X n : Int) + 1) = (n : Int) - (zer X n : Int) by omega]
  omega
theorem gs_no {z q : Int} {X : List Int} {n : Nat} (h : ¬ X.getD n 0 = 0) : gs z q X (n + 1) = gs z q X n + q := by
  unfold gs
  rw [zer, if_neg h, Nat.add_zero, show ((n + 1 : Nat) : Int) - (zer X n : Int) = (n : Int) - (zer X n : Int) + 1 by omega, Int.mul_add, Int.mul_one]
  omega
theorem gs_bd {X : List Int} {z q : Int} {n : Nat} (hl : n < 1000000000) (hz : 0 ≤ z ∧ z ≤ 40) (hq : 0 ≤ q ∧ q ≤ 40) : 0 ≤ gs z q X n ∧ gs z q X n ≤ 80000000000 := by
  have h := zer_le X n
  unfold gs
  have z0 : (0 : Int) ≤ (zer X n : Int) := by omega
  have m1 : 0 ≤ z * (zer X n : Int) := Int.mul_nonneg hz.1 z0
  have m2 : z * (zer X n : Int) ≤ 40 * (zer X n : Int) := Int.mul_le_mul_of_nonneg_right hz.2 z0
  have m3 : 0 ≤ q * ((n : Int) - (zer X n : Int)) := Int.mul_nonneg hq.1 (by omega)
  have m4 : q * ((n : Int) - (zer X n : Int)) ≤ 40 * ((n : Int) - (zer X n : Int)) := Int.mul_le_mul_of_nonneg_right hq.2 (by omega)
  omega
theorem zer_add (X Y : List Int) : ∀ n, n ≤ Y.length → zer (X ++ Y) (X.length + n) = zer X X.length + zer Y n
  | 0, _ => zer_app _ (Nat.le_refl _)
  | n + 1, h => by
    rw [← Nat.add_assoc, zer, zer, zer_add X Y n (by omega)]
    have : (X ++ Y).getD (X.length + n) 0 = Y.getD n 0 := by rw [List.getD, List.getD, List.getElem?_append_right (by omega), Nat.add_sub_cancel_left]
    rw [this]; omega
theorem gdT_add (X Y : List Int) (z q : Int) : gdT (X ++ Y) z q = gdT X z q + gs z q Y Y.length := by
  unfold gdT gs
  rw [List.length_append, zer_add X Y _ (Nat.le_refl _)]
  have e1 : ((zer X X.length + zer Y Y.length : Nat) : Int) = (zer X X.length : Int) + (zer Y Y.length : Int) := by omega
  have e2 : ((X.length + Y.length : Nat) : Int) = (X.length : Int) + (Y.length : Int) := by omega
  rw [e1, e2, Int.mul_add, show (X.length : Int) + (Y.length : Int) - ((zer X X.length : Int) + (zer Y Y.length : Int)) = ((X.length : Int) - (zer X X.length : Int)) + ((Y.length : Int) - (zer Y Y.length : Int)) by omega, Int.mul_add]
  omega
theorem wp_append_ownJ {P : Program} {w : World} {o : Oper} {a : Act} {K : Act → World → Prop} {Q : Exit → Act → World → Prop} (s x : Operand) (t : TypeId)
    (ho : o.op = .call { callee := .builtin .append, args := #[s, x], argTypes := #[t, t] })
    (base : Nat) (e : TypeId) (i : TypeInfo) (z : Value) (size bytes : Nat) (ht : P.underlying t = some (.slice e)) (hi : P.info? e = some i) (hz : i.zero = some z)
    (hsize : i.size = size) (hby : i.bytes = bytes) (hzs : z.cells.size = size) (hsz : 0 < size)
    (v : Value) (n : Nat) (xs : List Value) (hs : a.eval s = v) (hown : w.ownsRow base e size v n xs)
    (ad : Addr) (m c : Nat) (news : List Value) (hx : a.eval x = .slice (some ad) m c) (hl : news.length = m * size) (hnews : ∀ j u, news[j]? = some u → w.cell? (ad.add j) = some u) (h1 : ∀ u ∈ news, u.oneCell' = true)
    (h63 : n + m ≤ maxLen) (hbytes : (n + m) * bytes ≤ 140737488355328) (hbase : base ≤ w.heap.size)
    (h : ∀ v' w', w'.ownsRow base e size v' (n + m) (xs ++ news) → w.grownBy w' v.ownBlock → (v'.ownBlock = v.ownBlock ∨ v'.ownBlock = some w.heap.size) → K (a.put o.dst v') w') : o.wp P a w K Q := by
  obtain ⟨v', w', hr, h2, h3, h4, h5⟩ := run_append_own_at (P := P) w base t o.type e i z size bytes ht hi hz hsize hby hzs hsz v n xs hown ad m c news hl hnews h1 h63 hbytes hbase
  unfold Oper.wp execOp
  simp only [ho, resolve, invoke, builtin, Sem.run_bind, Sem.run_pure, Result.andThen_ok, List.map_toArray, List.map_cons, List.map_nil, hs, hx, hr]
  exact h v' w' h2 h3 h5
theorem heap_cellJ {W W' : World} {b i : Nat} (h : W'.heap[b]? = W.heap[b]?) : W'.cell? ⟨b, i, none⟩ = W.cell? ⟨b, i, none⟩ := World.cell?_of_block (w := W) (a := ⟨b, i, none⟩) h
theorem rt_setJ {W : World} {b i : Nat} {L : List Value} {v : Value} (h : W.rangeAt b 0 L) (t : W.there b 0 L.length) (hi : i < L.length) : (W.setCell ⟨b, i, none⟩ v).rangeAt b 0 (L.set i v) ∧ (W.setCell ⟨b, i, none⟩ v).there b 0 L.length := by
  have c0 := (t i hi).1
  rw [Nat.zero_add] at c0
  refine ⟨fun j u hu => ?_, fun j hj => ⟨?_, ?_⟩⟩
  · rw [Nat.zero_add]
    by_cases e : j = i
    · subst e
      rw [List.getElem?_set_self hi] at hu
      obtain rfl := Option.some.inj hu
      exact World.cell?_setCell_same' _ _ _ c0
    · rw [List.getElem?_set_ne (fun x => e x.symm)] at hu
      have := h j u hu
      rw [Nat.zero_add] at this
      rw [World.cell?_setCell_other _ _ _ _ (by intro x; exact e (by injection x with _ h; exact h.symm))]
      exact this
  · have := (t j hj).1
    rw [Nat.zero_add] at this ⊢
    by_cases e : j = i
    · subst e; rw [World.cell?_setCell_same' _ _ _ c0]; rfl
    · rw [World.cell?_setCell_other _ _ _ _ (by intro x; exact e (by injection x with _ h; exact h.symm))]
      exact this
  · rw [World.frozen?_setCell]
    exact (t j hj).2
/-- A transaction in a block of its own, its data gathered. -/
def Gth (V0 wr : World) (b : Nat) (C : List Value) (L : List Int) : Prop := tq.Wr V0 wr b ∧ ∃ a c, wr.rangeAt b 0 (C.set 41 (.slice a L.length c)) ∧ wr.there b 0 61 ∧ OwnB V0.heap.size wr (.slice a L.length c) L
end Go.Proofs.YtllfmlgnemkklaaDoor
