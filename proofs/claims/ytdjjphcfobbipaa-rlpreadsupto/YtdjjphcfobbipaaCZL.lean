import Derived.Test.YtdjjphcfobbipaaUbA
import Derived.Laws.CopyOwn
import Derived.Deep.OwnRows
import Derived.Deep.MidRow
import Derived.Lib.LazyBuf
import Derived.Test.YtdjjphcfobbipaaRjC
namespace Go.Proofs.Ytdjjphcfobbipaa
open Go.RowKit Go.Sort
theorem wpList_worldZ {P : Program} {ops : Array Oper} {Q : Exit → Act → World → Prop} {rest : List Oper} {a : Act} {w : World} (S : World → Prop) (h : S w) (k : ∀ W, S W → wpList P ops Q rest a W) : wpList P ops Q rest a w := k w h
theorem wpList_make_capZ {P : Program} (w : World) {ops : Array Oper} {rest : List Oper} {o : Oper} {a : Act} {Q : Exit → Act → World → Prop}
    (hg : o.guard = none) (l c : Operand) (t : TypeId) (hop : o.op = Op.makeSlice t l c)
    (e : TypeId) (i : TypeInfo) (z : Value) (ht : P.underlying t = some (.slice e)) (hi : P.info? e = some i) (hz : i.zero = some z) (hsize : i.size = 1) (hz1 : z.cells = #[z]) (hby : i.bytes = 1)
    (kl kc : IntKind) (L C : Int) (n m : Nat) (hl : a.eval l = .int kl L) (hc : a.eval c = .int kc C) (eL : L = (n : Int)) (eC : C = (m : Int)) (hnm : n ≤ m) (hm : m ≤ 281474976710656)
    (hK : wpList P ops Q rest (a.put o.dst (.slice (some ⟨w.heap.size, 0, none⟩) n m)) (w.alloc (.cells (madeCells #[z] m) e))) :
    wpList P ops Q (o :: rest) a w := by
  subst eL eC
  refine wpList_plain hg fun K hK' => ?_
  have hr := run_make (P := P) w t e i z ht hi hz kl kc n m (by omega) (by omega) (by rw [hby]; omega) (by omega)
  simp only [Int.toNat_natCast, hsize, Nat.mul_one, hz1] at hr
  unfold Oper.wp
  simp [execOp, hop, hl, hc, hr, Result.andThen]
  exact hK' _ _ hK
theorem made_bytesZ (n : Nat) : madeCells #[Value.int .u8 0] n = (List.replicate n (Value.int .u8 0)).toArray := by
  have := toList_madeCells_one (Value.int .u8 0) n
  apply Array.toList_inj.1
  rw [this]
theorem heap_newZ (w : World) (o : Obj) : (w.alloc o).heap[w.heap.size]? = some o := by
  show (w.heap.push o)[w.heap.size]? = some o
  simp

/-- A list and its marks. -/
def mk70 (X : List Int) (i : Nat) : List Int := X ++ (List.replicate i 195 ++ List.replicate (70 - i) 0)
theorem mk70_len (X : List Int) {i : Nat} (h : i ≤ 70) : (mk70 X i).length = X.length + 70 := by simp [mk70]; omega
theorem mk70_set (X : List Int) {i : Nat} (h : i < 70) : (mk70 X i).set (X.length + i) 195 = mk70 X (i + 1) := by
  obtain ⟨k, hk⟩ : ∃ k, 70 - i = k + 1 := ⟨69 - i, by omega⟩
  rw [mk70, mk70, hk, show 70 - (i + 1) = k by omega, List.set_append_right _ _ (by omega), Nat.add_sub_cancel_left, List.set_append_right _ _ (by simp), List.length_replicate, Nat.sub_self, List.replicate_succ (n := k), List.set_cons_zero, List.replicate_succ', List.append_assoc]
  rfl
/-- With all its marks. -/
def lentL (X : List Int) : List Int := X ++ List.replicate 70 195
theorem mk70_all (X : List Int) : mk70 X 70 = lentL X := by simp [mk70, lentL]
/-- Block g holds just these bytes, and may be written. -/
def Rw8 (W : World) (g : Nat) (X : List Int) : Prop := W.heap[g]? = some (.cells (X.map (Value.int .u8)).toArray 5 (0, 0))
theorem Rw8.lt {W : World} {g : Nat} {X : List Int} (h : Rw8 W g X) : g < W.heap.size := (Array.getElem?_eq_some_iff.1 h).1
theorem Rw8.keep {W W' : World} {g : Nat} {X : List Int} (h : Rw8 W g X) (hb : Below W.heap.size W W') : Rw8 W' g X := (hb.block g h.lt).trans h
theorem Rw8.bz {W : World} {g : Nat} {X : List Int} (h : Rw8 W g X) : Bz W g 0 X := fun i hi => by
  rw [Nat.zero_add, cell_of_row W g i _ _ _ h]
  simp [List.getD, hi]
theorem Rw8.free {W : World} {g : Nat} {X : List Int} (h : Rw8 W g X) (i : Nat) : W.frozen? ⟨g, i, none⟩ = false := frozen_of_row W g i _ _ h
theorem Rw8.set {W : World} {g i : Nat} {X : List Int} (h : Rw8 W g X) (u : Int) : Rw8 (W.setCell ⟨g, i, none⟩ (.int .u8 u)) g (X.set i u) := by
  have := heap_setCell_same W g i _ 5 (.int .u8 u) h
  rw [Rw8, this, List.map_set, List.setIfInBounds_toArray]
theorem Rw8.grown {W W' : World} {g : Nat} {X : List Int} {row : Option Nat} (h : Rw8 W g X) (hg : W.grownBy W' row) (hn : row ≠ some g) : Rw8 W' g X := (hg.block g h.lt (fun e => hn e.symm)).trans h
theorem src_of {a : Option Addr} {bd od g : Nat} {X : List Int} {w w1 : World} (ha : Az a bd od X) (hX : Bz w bd od X) (B : Below w.heap.size w w1) :
    0 < (X.map (Value.int .u8)).length → (some (⟨g, 0, none⟩ : Addr)) = some ⟨g, 0, none⟩ ∧ ∃ ad, a = some ad ∧ ∀ j v, (X.map (Value.int .u8))[j]? = some v → w1.cell? (ad.add j) = some v := by
  intro h0
  refine ⟨rfl, ?_⟩
  rcases ha with h | h
  · rw [h] at h0; simp at h0
  · refine ⟨_, h, fun j v hv => ?_⟩
    rw [List.getElem?_map] at hv
    obtain ⟨x, hx, rfl⟩ := Option.map_eq_some_iff.1 hv
    have hj : j < X.length := (List.getElem?_eq_some_iff.1 hx).1
    have hc := hX j hj
    rw [Addr.add_mid, B.cell (p := ⟨bd, od + j, none⟩) (World.block_lt_of_cell? w _ hc), hc]
    simp [List.getD, hx]
theorem splice_ints (X : List Int) (k : Nat) : splice (List.replicate (X.length + k) (Value.int .u8 0)) 0 (X.map (Value.int .u8)) = (X ++ List.replicate k 0).map (Value.int .u8) := by
  simp [splice, List.drop_replicate]
theorem lentL_at (X : List Int) {i : Nat} (h : i < X.length) : (lentL X).getD i 0 = X.getD i 0 := by
  rw [lentL, List.getD, List.getElem?_append_left h, List.getD]
theorem lentL_past (X : List Int) {i : Nat} (h : X.length ≤ i) (h2 : i < X.length + 70) : (lentL X).getD i 0 = 195 := by
  rw [lentL, List.getD, List.getElem?_append_right h, List.getElem?_replicate, if_pos (by omega)]; rfl
theorem lentL_len (X : List Int) : (lentL X).length = X.length + 70 := by simp [lentL]
theorem lentL_bz {W : World} {g : Nat} {X : List Int} (h : Rw8 W g (lentL X)) : Bz W g 0 X := h.bz.front
end Go.Proofs.Ytdjjphcfobbipaa

/- Layer 7: Join of both sides. -/
namespace Go.Proofs.Ytdjjphcfobbipaa
open Go.RowKit Go.Sort

/-- A text where a slice points. -/
def Tz (W : World) (v : Value) (X : List Int) : Prop := ∃ a g p c, v = .slice a X.length c ∧ X.length ≤ c ∧ Az a g p X ∧ (a = none → c = 0) ∧ Bz W g p X
theorem Tz.keep {W W' : World} {v : Value} {X : List Int} (h : Tz W v X) (hb : Below W.heap.size W W') : Tz W' v X := by
  obtain ⟨a, g, p, c, h1, h2, h3, h4, h5⟩ := h
  exact ⟨a, g, p, c, h1, h2, h3, h4, h5.keep hb⟩
/-- Texts in a row. -/
def Pz (W : World) (b o : Nat) (XS : List (List Int)) (V : Nat → Value) : Prop := ∀ i, i < XS.length → W.cell? ⟨b, o + i, none⟩ = some (V i) ∧ Tz W (V i) (XS.getD i [])
theorem Pz.keep {W W' : World} {b o : Nat} {XS : List (List Int)} {V : Nat → Value} (h : Pz W b o XS V) (hb : Below W.heap.size W W') : Pz W' b o XS V := fun i hi => ⟨cell_keep hb (h i hi).1, (h i hi).2.keep hb⟩
def AzP (a : Option Addr) (b o : Nat) (XS : List (List Int)) : Prop := XS = [] ∨ a = some ⟨b, o, none⟩
theorem AzP.cons {a : Option Addr} {b o : Nat} {XS : List (List Int)} (h : AzP a b o XS) (hl : 0 < XS.length) : a = some ⟨b, o, none⟩ := by
  rcases h with h | h
  · rw [h] at hl; exact absurd hl (Nat.lt_irrefl _)
  · exact h
def lenS (XS : List (List Int)) : Nat → Nat
  | 0 => 0
  | i + 1 => lenS XS i + (XS.getD i []).length
theorem lenS_mono (XS : List (List Int)) {i : Nat} : ∀ n, i ≤ n → lenS XS i ≤ lenS XS n
  | 0, h => by obtain rfl := Nat.le_zero.1 h; exact Nat.le_refl _
  | n + 1, h => by
    by_cases k : i = n + 1
    · rw [k]; exact Nat.le_refl _
    · have h1 := lenS_mono XS n (i := i) (by omega)
      show lenS XS i ≤ lenS XS n + _
      omega
def flS (XS : List (List Int)) : Nat → List Int
  | 0 => []
  | i + 1 => flS XS i ++ XS.getD i []
theorem flS_len (XS : List (List Int)) : ∀ n, (flS XS n).length = lenS XS n
  | 0 => rfl
  | n + 1 => by rw [flS, List.length_append, flS_len XS n, lenS]
def LimS (n : Nat) : Prop := n ≤ 1048576
theorem LimS.le {n : Nat} (h : LimS n) : n ≤ 1048576 := h
end Go.Proofs.Ytdjjphcfobbipaa

/- Layer 7: the program's Join. -/
namespace Go.Proofs.Ytdjjphcfobbipaa
open Go.RowKit Go.Sort

theorem own_empty (w : World) (m : Nat) (hm : m ≤ maxLen) : OwnB w.heap.size (w.alloc (.cells (madeCells #[Value.int .u8 0] m) 5)) (.slice (some ⟨w.heap.size, 0, none⟩) 0 m) [] := by
  refine ⟨rfl, .inr ⟨w.heap.size, m, madeCells #[Value.int .u8 0] m, rfl, Nat.le_refl _, ?_, Nat.zero_le _, hm, by simp [madeCells], rfl⟩⟩
  show (w.heap.push _)[w.heap.size]? = _
  simp
end Go.Proofs.Ytdjjphcfobbipaa
