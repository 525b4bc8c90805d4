import Derived.Test.YtahekhamhdfkdaaRjB
import Derived.Test.YtahekhamhdfkdaaUbA
import Derived.Laws.CopyOwn
import Derived.Deep.OwnRows
import Derived.Deep.MidRow
import Derived.Lib.LazyBuf
/- Layer 7: append of a whole list; the document's before. -/
namespace Go.Proofs.Ytahekhamhdfkdaa
open Go.RowKit Go.Sort

/-- append(v, x...): x any list that can be read. -/
theorem run_append_rd {B : Nat} {w : World} {v : Value} {a : Option Addr} {g p c : Nat} {P Q : List Int} {ty : TypeId} (h : OwnB B w v P) (ha : Az a g p Q) (hnc : a = none → c = 0) (hz : Bz w g p Q) (hl : P.length + Q.length < 140737488355000) (hB : B ≤ w.heap.size) :
    ∃ v' w', (Builtin.append_ #[22, 22] ty #[v, .slice a Q.length c]).run Try.prog w = .ok v' w' ∧ OwnB B w' v' (P ++ Q) ∧ w.grownBy w' v.ownBlock := by
  obtain ⟨i0, hi, hz0, hz1, hz2⟩ := info_parts info_byte
  have eo : ∀ {w' : World} {v' : Value}, w'.ownsRow B 5 1 v' (P.length + Q.length) (P.map (Value.int .u8) ++ Q.map (Value.int .u8)) → OwnB B w' v' (P ++ Q) := fun {w'} {v'} h => by
    rw [OwnB, List.length_append, List.map_append]; exact h
  by_cases q0 : Q = []
  · subst q0
    cases a with
    | none =>
      obtain rfl := hnc rfl
      exact ⟨v, w, run_append_owned_none (P := Try.prog) w B 22 ty 5 i0 1 Try.underlying22 hi v P.length _ h, by rw [List.append_nil]; exact h, World.grownBy.refl _ _⟩
    | some ad =>
      obtain ⟨v', w', hr, h2, h3, _, _⟩ := run_append_own_at (P := Try.prog) w B 22 ty 5 i0 (.int .u8 0) 1 1 Try.underlying22 hi hz0 hz1 hz2 rfl (by decide) v P.length _ h ad 0 c [] rfl (fun j u hu => by simp at hu) (fun u hu => by cases hu) (by unfold maxLen; simp at hl; omega) (by simp at hl; omega) hB
      exact ⟨v', w', hr, eo h2, h3⟩
  · obtain rfl : a = some ⟨g, p, none⟩ := ha.resolve_left q0
    obtain ⟨v', w', hr, h2, h3, _, _⟩ := run_append_own_at (P := Try.prog) w B 22 ty 5 i0 (.int .u8 0) 1 1 Try.underlying22 hi hz0 hz1 hz2 rfl (by decide) v P.length _ h ⟨g, p, none⟩ Q.length c (Q.map (Value.int .u8)) (by simp) (fun j u hu => by
      rw [List.getElem?_map] at hu
      obtain ⟨x, hx, rfl⟩ := Option.map_eq_some_iff.1 hu
      have hj : j < Q.length := (List.getElem?_eq_some_iff.1 hx).1
      rw [Addr.add_mid, hz j hj]
      simp [List.getD, hx]) (fun u hu => by obtain ⟨y, _, rfl⟩ := List.mem_map.1 hu; rfl) (by unfold maxLen; omega) (by omega) hB
    exact ⟨v', w', hr, eo h2, h3⟩
theorem wpList_append_rd {ops : Array Oper} {rest : List Oper} {o : Oper} {a : Act} {Q : Exit → Act → World → Prop} {w : World} {B : Nat} {v : Value} {sa : Option Addr} {g p c n : Nat} {P1 Q1 : List Int} (hgd : o.guard = none) (s t : Operand)
    (ho : o.op = .call { callee := .builtin .append, args := #[s, t], argTypes := #[22, 22] }) (hs : a.eval s = v) (hx : a.eval t = .slice sa n c) (hn : n = Q1.length)
    (h : OwnB B w v P1) (ha : Az sa g p Q1) (hnc : sa = none → c = 0) (hz : Bz w g p Q1) (hl : P1.length + Q1.length < 140737488355000) (hB : B ≤ w.heap.size)
    (hK : ∀ v' w', OwnB B w' v' (P1 ++ Q1) → w.grownBy w' v.ownBlock → wpList Try.prog ops Q rest (a.put o.dst v') w') :
    wpList Try.prog ops Q (o :: rest) a w := by
  subst hn
  refine wpList_plain hgd fun K hK2 => ?_
  obtain ⟨v', w', hr, h2, h3⟩ := run_append_rd (ty := o.type) (c := c) h ha hnc hz hl hB
  unfold Oper.wp execOp
  simp only [ho, resolve, invoke, builtin, Sem.run_bind, Sem.run_pure, Result.andThen_ok, List.map_toArray, List.map_cons, List.map_nil, hs, hx, hr]
  exact hK2 _ _ (hK v' w' h2 h3)
theorem withHead_any {B : Nat} {v : Value} {P : List Int} {n : Nat} (hn2 : n < 16777216) (hp : P.length < 1000000000) (w : World) (hB : B ≤ w.heap.size) (h : OwnB B w v P) :
    Calls Try.prog 41 #[v, .bool true, .int .i64 (n : Int)] w fun e w' => ∃ v', e = .returned v' ∧ OwnB B w' v' (P ++ hdR 192 n) ∧ Below B w w' := by
  by_cases k : n ≤ 55
  · have e : hdR 192 n = [192 + (n : Int)] := by unfold hdR; rw [if_pos k]
    rw [e]; exact withHead_low k hp w hB h
  · have e : hdR 192 n = (192 + 55 + ((beN n).length : Int)) :: beN n := by unfold hdR; rw [if_neg k]
    rw [e]; exact withHead_high (by omega) hn2 hp w hB h
end Go.Proofs.Ytahekhamhdfkdaa

namespace Go.Proofs.Ytahekhamhdfkdaa
open Go.RowKit Go.Sort
theorem wpList_make_capZ {P : Program} (w : World) {ops : Array Oper} {rest : List Oper} {o : Oper} {a : Act} {Q : Exit → Act → World → Prop}
    (hg : o.guard = none) (l c : Operand) (t : TypeId) (hop : o.op = Op.makeSlice t l c)
    (e : TypeId) (i : TypeInfo) (z : Value) (ht : P.underlying t = some (.slice e)) (hi : P.info? e = some i) (hz : i.zero = some z) (hsize : i.size = 1) (hz1 : z.cells = #[z]) (hby : i.bytes = 1)
    (kl kc : IntKind) (L C : Int) (n m : Nat) (hl : a.eval l = .int kl L) (hc : a.eval c = .int kc C) (eL : L = (n : Int)) (eC : C = (m : Int)) (hnm : n ≤ m) (hm : m ≤ 281474976710656)
    (hK : wpList P ops Q rest (a.put o.dst (.slice (some ⟨w.heap.size, 0, none⟩) n m)) (w.alloc (.cells (madeCells #[z] m) e))) :
    wpList P ops Q (o :: rest) a w := by
  subst eL eC
  refine wpList_plain hg fun K hK' => ?_
  have hr := run_make (P := P) w t e i z ht hi hz kl kc n m (by omega) (by omega) (by rw [hby]; omega) (by omega)
  simp only [Int.toNat_natCast, hsize, Nat.mul_one, hz1] at hr
  unfold Oper.wp
  simp [execOp, hop, hl, hc, hr, Result.andThen]
  exact hK' _ _ hK
/-- Block g holds just these bytes, and may be written. -/
def Rw8 (W : World) (g : Nat) (X : List Int) : Prop := W.heap[g]? = some (.cells (X.map (Value.int .u8)).toArray 5 (0, 0))
theorem Rw8.lt {W : World} {g : Nat} {X : List Int} (h : Rw8 W g X) : g < W.heap.size := (Array.getElem?_eq_some_iff.1 h).1
theorem Rw8.keep {W W' : World} {g : Nat} {X : List Int} (h : Rw8 W g X) (hb : Below W.heap.size W W') : Rw8 W' g X := (hb.block g h.lt).trans h
theorem Rw8.bz {W : World} {g : Nat} {X : List Int} (h : Rw8 W g X) : Bz W g 0 X := fun i hi => by
  rw [Nat.zero_add, cell_of_row W g i _ _ _ h]
  simp [List.getD, hi]
theorem Rw8.free {W : World} {g : Nat} {X : List Int} (h : Rw8 W g X) (i : Nat) : W.frozen? ⟨g, i, none⟩ = false := frozen_of_row W g i _ _ h
theorem Rw8.set {W : World} {g i : Nat} {X : List Int} (h : Rw8 W g X) (u : Int) : Rw8 (W.setCell ⟨g, i, none⟩ (.int .u8 u)) g (X.set i u) := by
  have := heap_setCell_same W g i _ 5 (.int .u8 u) h
  rw [Rw8, this, List.map_set, List.setIfInBounds_toArray]
theorem Rw8.grown {W W' : World} {g : Nat} {X : List Int} {row : Option Nat} (h : Rw8 W g X) (hg : W.grownBy W' row) (hn : row ≠ some g) : Rw8 W' g X := (hg.block g h.lt (fun e => hn e.symm)).trans h
end Go.Proofs.Ytahekhamhdfkdaa

/- Layer 7: Join of both sides. -/
namespace Go.Proofs.Ytahekhamhdfkdaa
open Go.RowKit Go.Sort

/-- A text where a slice points. -/
def Tz (W : World) (v : Value) (X : List Int) : Prop := ∃ a g p c, v = .slice a X.length c ∧ X.length ≤ c ∧ Az a g p X ∧ (a = none → c = 0) ∧ Bz W g p X
theorem Tz.keep {W W' : World} {v : Value} {X : List Int} (h : Tz W v X) (hb : Below W.heap.size W W') : Tz W' v X := by
  obtain ⟨a, g, p, c, h1, h2, h3, h4, h5⟩ := h
  exact ⟨a, g, p, c, h1, h2, h3, h4, h5.keep hb⟩
/-- Texts in a row. -/
def Pz (W : World) (b o : Nat) (XS : List (List Int)) (V : Nat → Value) : Prop := ∀ i, i < XS.length → W.cell? ⟨b, o + i, none⟩ = some (V i) ∧ Tz W (V i) (XS.getD i [])
theorem Pz.keep {W W' : World} {b o : Nat} {XS : List (List Int)} {V : Nat → Value} (h : Pz W b o XS V) (hb : Below W.heap.size W W') : Pz W' b o XS V := fun i hi => ⟨cell_keep hb (h i hi).1, (h i hi).2.keep hb⟩
def AzP (a : Option Addr) (b o : Nat) (XS : List (List Int)) : Prop := XS = [] ∨ a = some ⟨b, o, none⟩
theorem AzP.cons {a : Option Addr} {b o : Nat} {XS : List (List Int)} (h : AzP a b o XS) (hl : 0 < XS.length) : a = some ⟨b, o, none⟩ := by
  rcases h with h | h
  · rw [h] at hl; exact absurd hl (Nat.lt_irrefl _)
  · exact h
def lenS (XS : List (List Int)) : Nat → Nat
  | 0 => 0
  | i + 1 => lenS XS i + (XS.getD i []).length
theorem lenS_mono (XS : List (List Int)) {i : Nat} : ∀ n, i ≤ n → lenS XS i ≤ lenS XS n
  | 0, h => by obtain rfl := Nat.le_zero.1 h; exact Nat.le_refl _
  | n + 1, h => by
    by_cases k : i = n + 1
    · rw [k]; exact Nat.le_refl _
    · have h1 := lenS_mono XS n (i := i) (by omega)
      show lenS XS i ≤ lenS XS n + _
      omega
def flS (XS : List (List Int)) : Nat → List Int
  | 0 => []
  | i + 1 => flS XS i ++ XS.getD i []
theorem flS_len (XS : List (List Int)) : ∀ n, (flS XS n).length = lenS XS n
  | 0 => rfl
  | n + 1 => by rw [flS, List.length_append, flS_len XS n, lenS]
def LimS (n : Nat) : Prop := n ≤ 1048576
theorem LimS.le {n : Nat} (h : LimS n) : n ≤ 1048576 := h
end Go.Proofs.Ytahekhamhdfkdaa
