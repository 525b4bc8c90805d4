import Derived.Test.YtahekhamhdfkdaaUbA
import Derived.Test.YtahekhamhdfkdaaShelf
import Derived.Deep.OwnRows
import Derived.Laws.CopyOwn
import Derived.Deep.MidRow
import Derived.Lib.LazyBuf
/- Layer 7: the head of a list, as both write it. -/
namespace Go.Proofs.Ytahekhamhdfkdaa
open Go.RowKit Go.Sort

/-- A number's bytes, the highest first (of numbers below 2^24). -/
def beN (n : Nat) : List Int := if n < 256 then [(n : Int)] else if n < 65536 then [(n : Int) / 256, (n : Int) % 256] else [(n : Int) / 65536, (n : Int) / 256 % 256, (n : Int) % 256]
/-- A head. -/
def hdR (f : Int) (n : Nat) : List Int := if n ≤ 55 then [f + n] else (f + 55 + (beN n).length) :: beN n
theorem beN_len (n : Nat) : 1 ≤ (beN n).length ∧ (beN n).length ≤ 3 := by
  unfold beN
  split
  · exact ⟨Nat.le_refl 1, by show 1 ≤ 3; decide⟩
  · split
    · exact ⟨by show 1 ≤ 2; decide, by show 2 ≤ 3; decide⟩
    · exact ⟨by show 1 ≤ 3; decide, Nat.le_refl 3⟩
theorem hdR_len (f : Int) (n : Nat) : (hdR f n).length ≤ 4 := by
  unfold hdR
  have := beN_len n
  split
  · exact (by decide : 1 ≤ 4)
  · rw [List.length_cons]; omega
theorem bl_le {n k : Nat} (h : n < 2 ^ k) (hk : k ≤ 64) : Lib.bitLen n ≤ k := Lib.bitLen_le n k hk h
theorem bl_ge {n k : Nat} (h : 2 ^ k ≤ n) (hn : n < 2 ^ 64) : k < Lib.bitLen n := by
  have h0 : n ≠ 0 := by have := Nat.one_le_two_pow (n := k); omega
  have := (Lib.bitLenAux_bounds 64 n hn h0).2.2
  have e : n < 2 ^ Lib.bitLen n := this
  exact (Nat.pow_lt_pow_iff_right (by decide : 1 < 2)).1 (Nat.lt_of_le_of_lt h e)
theorem lsize {n : Nat} (h0 : 0 < n) (h1 : n < 16777216) : (Lib.bitLen n + 7) / 8 = (beN n).length := by
  unfold beN
  have a0 := bl_ge (k := 0) (n := n) (by rw [Nat.pow_zero]; exact h0) (by omega)
  by_cases k1 : n < 256
  · rw [if_pos k1]
    have a1 := bl_le (k := 8) (n := n) (by simpa using k1) (by decide)
    show _ = 1
    omega
  · rw [if_neg k1]
    have a1 := bl_ge (k := 8) (n := n) (by simp; omega) (by omega)
    by_cases k2 : n < 65536
    · rw [if_pos k2]
      have a2 := bl_le (k := 16) (n := n) (by simpa using k2) (by decide)
      show _ = 2
      omega
    · rw [if_neg k2]
      have a2 := bl_ge (k := 16) (n := n) (by simp; omega) (by omega)
      have a3 := bl_le (k := 24) (n := n) (by simpa using h1) (by decide)
      show _ = 3
      omega
theorem lengthSize_any {n : Nat} (h0 : 0 < n) (h1 : n < 16777216) (w : World) :
    Calls Try.prog 56 #[.int .i64 (n : Int)] w fun e w' => e = .returned (.int .i64 ((beN n).length : Int)) ∧ w' = w := by
  have c := Try.bits_Len (n : Int)
  have e := lsize h0 h1
  have hb := bl_le (k := 24) (n := n) (by simpa using h1) (by decide)
  have e2 : ((Lib.bitLen n : Int) + 7).tdiv 8 = ((beN n).length : Int) := by
    rw [Int.tdiv_eq_ediv_of_nonneg (by omega)]; omega
  have e3 : ((Lib.bitLen n : Int) + 7) / 8 = ((beN n).length : Int) := by omega
  have c2 : ∀ w, Calls Try.prog 62 #[.int .u64 (n : Int)] w fun e w' => e = .returned (.int .i64 (Lib.bitLen n : Int)) ∧ w' = w := fun w => by
    have := c w (by omega) (by omega)
    rwa [Int.toNat_natCast] at this
  have hn1 : (n : Int) < 16777216 := by omega
  have hb' : (Lib.bitLen n : Int) ≤ 24 := by omega
  clear e c hb
  generalize Lib.bitLen n = bl at *
  generalize (beN n).length = r at *
  go_enter Try.func56, Try.ntmps56
  go_wp2_with ((with_reducible refine (c2 _).mono ?_); rintro e1 w1 ⟨rfl, hw⟩; (rw [hw]); (clear hw w1))
  simp [bodyPost, results, Try.results56, go_sem]
  all_goals first | exact e3 | exact e2 | omega
theorem headSize_any {n : Nat} (h1 : n < 16777216) (w : World) :
    Calls Try.prog 40 #[.int .i64 (n : Int)] w fun e w' => e = .returned (.int .i64 ((hdR 192 n).length : Int)) ∧ w' = w := by
  by_cases k : n ≤ 55
  · have hk : (n : Int) ≤ 55 := by omega
    have e : (hdR 192 n).length = 1 := by unfold hdR; rw [if_pos k]; rfl
    rw [e]
    go_enter Try.func40, Try.ntmps40
    go_wp2
    simp [bodyPost, results, Try.results40, go_sem]
  · have hk : ¬ ((n : Int) ≤ 55) := by omega
    have c := lengthSize_any (n := n) (by omega) h1
    have e : (hdR 192 n).length = (beN n).length + 1 := by unfold hdR; rw [if_neg k]; rfl
    have hl := (beN_len n).2
    have hl' : ((beN n).length : Int) ≤ 3 := by omega
    rw [e]
    generalize (beN n).length = r at *
    clear e hl
    go_enter Try.func40, Try.ntmps40
    go_wp2_with ((with_reducible refine (c _).mono ?_); rintro e1 w1 ⟨rfl, hw⟩; (rw [hw]); (clear hw w1))
    simp [bodyPost, results, Try.results40, go_sem]
    omega
end Go.Proofs.Ytahekhamhdfkdaa

/- Layer 7: withHead, the document's before. -/
namespace Go.Proofs.Ytahekhamhdfkdaa
open Go.RowKit Go.Sort

/-- The bytes that the loop writes. -/
theorem be_at (n : Nat) : ((beN n).length = 1 ∧ (beN n).getD 0 0 = n ∧ n < 256) ∨ ((beN n).length = 2 ∧ (beN n).getD 0 0 = (n : Int) / 256 ∧ (beN n).getD 1 0 = (n : Int) % 256 ∧ n < 65536) ∨ ((beN n).length = 3 ∧ (beN n).getD 0 0 = (n : Int) / 65536 ∧ (beN n).getD 1 0 = (n : Int) / 256 % 256 ∧ (beN n).getD 2 0 = (n : Int) % 256) := by
  unfold beN
  by_cases k1 : n < 256
  · rw [if_pos k1]; exact .inl ⟨rfl, rfl, k1⟩
  · rw [if_neg k1]
    by_cases k2 : n < 65536
    · rw [if_pos k2]; exact .inr (.inl ⟨rfl, rfl, rfl, k2⟩)
    · rw [if_neg k2]; exact .inr (.inr ⟨rfl, rfl, rfl, rfl⟩)
end Go.Proofs.Ytahekhamhdfkdaa

namespace Go.Proofs.Ytahekhamhdfkdaa
open Go.RowKit Go.Sort
/-- Block g holds just these bytes, and may be written. -/
def Rw8 (W : World) (g : Nat) (X : List Int) : Prop := W.heap[g]? = some (.cells (X.map (Value.int .u8)).toArray 5 (0, 0))
theorem Rw8.lt {W : World} {g : Nat} {X : List Int} (h : Rw8 W g X) : g < W.heap.size := (Array.getElem?_eq_some_iff.1 h).1
theorem Rw8.keep {W W' : World} {g : Nat} {X : List Int} (h : Rw8 W g X) (hb : Below W.heap.size W W') : Rw8 W' g X := (hb.block g h.lt).trans h
theorem Rw8.bz {W : World} {g : Nat} {X : List Int} (h : Rw8 W g X) : Bz W g 0 X := fun i hi => by
  rw [Nat.zero_add, cell_of_row W g i _ _ _ h]
  simp [List.getD, hi]
theorem Rw8.free {W : World} {g : Nat} {X : List Int} (h : Rw8 W g X) (i : Nat) : W.frozen? ⟨g, i, none⟩ = false := frozen_of_row W g i _ _ h
theorem Rw8.set {W : World} {g i : Nat} {X : List Int} (h : Rw8 W g X) (u : Int) : Rw8 (W.setCell ⟨g, i, none⟩ (.int .u8 u)) g (X.set i u) := by
  have := heap_setCell_same W g i _ 5 (.int .u8 u) h
  rw [Rw8, this, List.map_set, List.setIfInBounds_toArray]
theorem Rw8.grown {W W' : World} {g : Nat} {X : List Int} {row : Option Nat} (h : Rw8 W g X) (hg : W.grownBy W' row) (hn : row ≠ some g) : Rw8 W' g X := (hg.block g h.lt (fun e => hn e.symm)).trans h
end Go.Proofs.Ytahekhamhdfkdaa

/- Layer 7: append of a whole list; the document's before. -/
namespace Go.Proofs.Ytahekhamhdfkdaa
open Go.RowKit Go.Sort

/-- append(v, x...): x any list that can be read. -/
theorem run_append_rd {B : Nat} {w : World} {v : Value} {a : Option Addr} {g p c : Nat} {P Q : List Int} {ty : TypeId} (h : OwnB B w v P) (ha : Az a g p Q) (hnc : a = none → c = 0) (hz : Bz w g p Q) (hl : P.length + Q.length < 140737488355000) (hB : B ≤ w.heap.size) :
    ∃ v' w', (Builtin.append_ #[22, 22] ty #[v, .slice a Q.length c]).run Try.prog w = .ok v' w' ∧ OwnB B w' v' (P ++ Q) ∧ w.grownBy w' v.ownBlock := by
  obtain ⟨i0, hi, hz0, hz1, hz2⟩ := info_parts info_byte
  have eo : ∀ {w' : World} {v' : Value}, w'.ownsRow B 5 1 v' (P.length + Q.length) (P.map (Value.int .u8) ++ Q.map (Value.int .u8)) → OwnB B w' v' (P ++ Q) := fun {w'} {v'} h => by
    rw [OwnB, List.length_append, List.map_append]; exact h
  by_cases q0 : Q = []
  · subst q0
    cases a with
    | none =>
      obtain rfl := hnc rfl
      exact ⟨v, w, run_append_owned_none (P := Try.prog) w B 22 ty 5 i0 1 Try.underlying22 hi v P.length _ h, by rw [List.append_nil]; exact h, World.grownBy.refl _ _⟩
    | some ad =>
      obtain ⟨v', w', hr, h2, h3, _, _⟩ := run_append_own_at (P := Try.prog) w B 22 ty 5 i0 (.int .u8 0) 1 1 Try.underlying22 hi hz0 hz1 hz2 rfl (by decide) v P.length _ h ad 0 c [] rfl (fun j u hu => by simp at hu) (fun u hu => by cases hu) (by unfold maxLen; simp at hl; omega) (by simp at hl; omega) hB
      exact ⟨v', w', hr, eo h2, h3⟩
  · obtain rfl : a = some ⟨g, p, none⟩ := ha.resolve_left q0
    obtain ⟨v', w', hr, h2, h3, _, _⟩ := run_append_own_at (P := Try.prog) w B 22 ty 5 i0 (.int .u8 0) 1 1 Try.underlying22 hi hz0 hz1 hz2 rfl (by decide) v P.length _ h ⟨g, p, none⟩ Q.length c (Q.map (Value.int .u8)) (by simp) (fun j u hu => by
      rw [List.getElem?_map] at hu
      obtain ⟨x, hx, rfl⟩ := Option.map_eq_some_iff.1 hu
      have hj : j < Q.length := (List.getElem?_eq_some_iff.1 hx).1
      rw [Addr.add_mid, hz j hj]
      simp [List.getD, hx]) (fun u hu => by obtain ⟨y, _, rfl⟩ := List.mem_map.1 hu; rfl) (by unfold maxLen; omega) (by omega) hB
    exact ⟨v', w', hr, eo h2, h3⟩
theorem wpList_append_rd {ops : Array Oper} {rest : List Oper} {o : Oper} {a : Act} {Q : Exit → Act → World → Prop} {w : World} {B : Nat} {v : Value} {sa : Option Addr} {g p c n : Nat} {P1 Q1 : List Int} (hgd : o.guard = none) (s t : Operand)
    (ho : o.op = .call { callee := .builtin .append, args := #[s, t], argTypes := #[22, 22] }) (hs : a.eval s = v) (hx : a.eval t = .slice sa n c) (hn : n = Q1.length)
    (h : OwnB B w v P1) (ha : Az sa g p Q1) (hnc : sa = none → c = 0) (hz : Bz w g p Q1) (hl : P1.length + Q1.length < 140737488355000) (hB : B ≤ w.heap.size)
    (hK : ∀ v' w', OwnB B w' v' (P1 ++ Q1) → w.grownBy w' v.ownBlock → wpList Try.prog ops Q rest (a.put o.dst v') w') :
    wpList Try.prog ops Q (o :: rest) a w := by
  subst hn
  refine wpList_plain hgd fun K hK2 => ?_
  obtain ⟨v', w', hr, h2, h3⟩ := run_append_rd (ty := o.type) (c := c) h ha hnc hz hl hB
  unfold Oper.wp execOp
  simp only [ho, resolve, invoke, builtin, Sem.run_bind, Sem.run_pure, Result.andThen_ok, List.map_toArray, List.map_cons, List.map_nil, hs, hx, hr]
  exact hK2 _ _ (hK v' w' h2 h3)
end Go.Proofs.Ytahekhamhdfkdaa

/- Layer 7: Join of both sides. -/
namespace Go.Proofs.Ytahekhamhdfkdaa
open Go.RowKit Go.Sort

/-- A text where a slice points. -/
def Tz (W : World) (v : Value) (X : List Int) : Prop := ∃ a g p c, v = .slice a X.length c ∧ X.length ≤ c ∧ Az a g p X ∧ (a = none → c = 0) ∧ Bz W g p X
theorem Tz.keep {W W' : World} {v : Value} {X : List Int} (h : Tz W v X) (hb : Below W.heap.size W W') : Tz W' v X := by
  obtain ⟨a, g, p, c, h1, h2, h3, h4, h5⟩ := h
  exact ⟨a, g, p, c, h1, h2, h3, h4, h5.keep hb⟩
/-- Texts in a row. -/
def Pz (W : World) (b o : Nat) (XS : List (List Int)) (V : Nat → Value) : Prop := ∀ i, i < XS.length → W.cell? ⟨b, o + i, none⟩ = some (V i) ∧ Tz W (V i) (XS.getD i [])
theorem Pz.keep {W W' : World} {b o : Nat} {XS : List (List Int)} {V : Nat → Value} (h : Pz W b o XS V) (hb : Below W.heap.size W W') : Pz W' b o XS V := fun i hi => ⟨cell_keep hb (h i hi).1, (h i hi).2.keep hb⟩
def AzP (a : Option Addr) (b o : Nat) (XS : List (List Int)) : Prop := XS = [] ∨ a = some ⟨b, o, none⟩
theorem AzP.cons {a : Option Addr} {b o : Nat} {XS : List (List Int)} (h : AzP a b o XS) (hl : 0 < XS.length) : a = some ⟨b, o, none⟩ := by
  rcases h with h | h
  · rw [h] at hl; exact absurd hl (Nat.lt_irrefl _)
  · exact h
def LimS (n : Nat) : Prop := n ≤ 1048576
theorem LimS.le {n : Nat} (h : LimS n) : n ≤ 1048576 := h
end Go.Proofs.Ytahekhamhdfkdaa

/- Layer 7: the program's Join. -/
namespace Go.Proofs.Ytahekhamhdfkdaa
open Go.RowKit Go.Sort

end Go.Proofs.Ytahekhamhdfkdaa
