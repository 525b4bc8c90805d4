import Derived.Test.YtkbmonlbgnnjlaaDoorUbA
import Derived.Test.YtkbmonlbgnnjlaaDoorShelf
import Derived.Deep.OwnRows
import Derived.Laws.CopyOwn
import Derived.Deep.MidRow
import Derived.Lib.LazyBuf
import Derived.Test.YtkbmonlbgnnjlaaDoorRoomy
import Derived.Test.YtkbmonlbgnnjlaaDoorGet
/- Layer 7: the head of a list, as both write it. -/
namespace Go.Proofs.YtkbmonlbgnnjlaaDoor
open Go.RowKit Go.Sort

/-- A number's bytes, the highest first (of numbers below 2^24). -/
def beN (n : Nat) : List Int := if n < 256 then [(n : Int)] else if n < 65536 then [(n : Int) / 256, (n : Int) % 256] else [(n : Int) / 65536, (n : Int) / 256 % 256, (n : Int) % 256]
/-- A head. -/
def hdR (f : Int) (n : Nat) : List Int := if n ≤ 55 then [f + n] else (f + 55 + (beN n).length) :: beN n
theorem beN_len (n : Nat) : 1 ≤ (beN n).length ∧ (beN n).length ≤ 3 := by
  unfold beN
  split
  · exact ⟨Nat.le_refl 1, by show 1 ≤ 3; decide⟩
  · split
    · exact ⟨by show 1 ≤ 2; decide, by show 2 ≤ 3; decide⟩
    · exact ⟨by show 1 ≤ 3; decide, Nat.le_refl 3⟩
theorem hdR_len (f : Int) (n : Nat) : (hdR f n).length ≤ 4 := by
  unfold hdR
  have := beN_len n
  split
  · exact (by decide : 1 ≤ 4)
  · rw [List.length_cons]; omega
theorem put_at (n : Nat) {t : Nat} (h : t < 32) : (putL (n : Int)).getD t 0 = (n : Int) / 256 ^ (31 - t) % 256 := putL_getD _ h
theorem put_low {n t w : Nat} (hw : n < 256 ^ w) (h : t + w < 32) : (putL (n : Int)).getD t 0 = 0 := by
  rw [put_at n (by omega)]
  have e : ((n : Int) / 256 ^ (31 - t)) = 0 := by
    apply Int.ediv_eq_zero_of_lt (by omega)
    have h1 : 256 ^ w ≤ 256 ^ (31 - t) := Nat.pow_le_pow_right (by decide) (by omega)
    have h2 : n < 256 ^ (31 - t) := Nat.lt_of_lt_of_le hw h1
    have h3 : ((n : Nat) : Int) < ((256 ^ (31 - t) : Nat) : Int) := Int.ofNat_lt.2 h2
    rw [Int.natCast_pow] at h3
    exact h3
  rw [e]; rfl
theorem drop_ext {l m : List Int} {k : Nat} (hl : l.length = k + m.length) (h : ∀ i, i < m.length → l.getD (k + i) 0 = m.getD i 0) : l.drop k = m := by
  refine List.ext_getElem (by rw [List.length_drop]; omega) fun i h1 h2 => ?_
  have := h i h2
  rw [List.getElem_drop]
  rwa [List.getD, List.getD, List.getElem?_eq_getElem (by omega), List.getElem?_eq_getElem h2] at this
theorem strip_be {n : Nat} (h0 : 0 < n) (h1 : n < 16777216) : stripL (putL (n : Int)) = beN n := by
  have hl := putL_len (n : Int)
  have d31 := put_at n (t := 31) (by decide)
  have d30 := put_at n (t := 30) (by decide)
  have d29 := put_at n (t := 29) (by decide)
  simp only [show 31 - 31 = 0 from rfl, show 31 - 30 = 1 from rfl, show 31 - 29 = 2 from rfl, Int.pow_zero, Int.pow_one, show (256 : Int) ^ 2 = 65536 from rfl, Int.ediv_one] at d31 d30 d29
  unfold beN
  by_cases k1 : n < 256
  · rw [if_pos k1]
    rw [strip_zeros 31 _ (fun t ht => put_low (w := 1) (by simpa using k1) (by omega)) (fun _ => by rw [d31]; omega) (by omega)]
    refine drop_ext (by rw [hl]; rfl) fun i hi => ?_
    obtain rfl : i = 0 := by simpa using hi
    rw [d31]; show _ = (n : Int); omega
  · rw [if_neg k1]
    by_cases k2 : n < 65536
    · rw [if_pos k2]
      rw [strip_zeros 30 _ (fun t ht => put_low (w := 2) (by simpa using k2) (by omega)) (fun _ => by rw [d30]; omega) (by omega)]
      refine drop_ext (by rw [hl]; rfl) fun i hi => ?_
      have hi' : i < 2 := hi
      have : i = 0 ∨ i = 1 := by omega
      rcases this with rfl | rfl
      · rw [d30]; show _ = (n : Int) / 256; omega
      · rw [d31]; rfl
    · rw [if_neg k2]
      rw [strip_zeros 29 _ (fun t ht => put_low (w := 3) (by simpa using h1) (by omega)) (fun _ => by rw [d29]; omega) (by omega)]
      refine drop_ext (by rw [hl]; rfl) fun i hi => ?_
      have hi' : i < 3 := hi
      have : i = 0 ∨ i = 1 ∨ i = 2 := by omega
      rcases this with rfl | rfl | rfl
      · rw [d29]; show _ = (n : Int) / 65536; omega
      · rw [d30]; rfl
      · rw [d31]; rfl
theorem bl_le {n k : Nat} (h : n < 2 ^ k) (hk : k ≤ 64) : Lib.bitLen n ≤ k := Lib.bitLen_le n k hk h
theorem bl_ge {n k : Nat} (h : 2 ^ k ≤ n) (hn : n < 2 ^ 64) : k < Lib.bitLen n := by
  have h0 : n ≠ 0 := by have := Nat.one_le_two_pow (n := k); omega
  have := (Lib.bitLenAux_bounds 64 n hn h0).2.2
  have e : n < 2 ^ Lib.bitLen n := this
  exact (Nat.pow_lt_pow_iff_right (by decide : 1 < 2)).1 (Nat.lt_of_le_of_lt h e)
theorem lsize {n : Nat} (h0 : 0 < n) (h1 : n < 16777216) : (Lib.bitLen n + 7) / 8 = (beN n).length := by
  unfold beN
  have a0 := bl_ge (k := 0) (n := n) (by rw [Nat.pow_zero]; exact h0) (by omega)
  by_cases k1 : n < 256
  · rw [if_pos k1]
    have a1 := bl_le (k := 8) (n := n) (by simpa using k1) (by decide)
    show _ = 1
    omega
  · rw [if_neg k1]
    have a1 := bl_ge (k := 8) (n := n) (by simp; omega) (by omega)
    by_cases k2 : n < 65536
    · rw [if_pos k2]
      have a2 := bl_le (k := 16) (n := n) (by simpa using k2) (by decide)
      show _ = 2
      omega
    · rw [if_neg k2]
      have a2 := bl_ge (k := 16) (n := n) (by simp; omega) (by omega)
      have a3 := bl_le (k := 24) (n := n) (by simpa using h1) (by decide)
      show _ = 3
      omega
theorem lengthSize_any {n : Nat} (h0 : 0 < n) (h1 : n < 16777216) (w : World) :
    Calls Tryd.prog 62 #[.int .i64 (n : Int)] w fun e w' => e = .returned (.int .i64 ((beN n).length : Int)) ∧ w' = w := by
  have c := Tryd.bits_Len (n : Int)
  have e := lsize h0 h1
  have hb := bl_le (k := 24) (n := n) (by simpa using h1) (by decide)
  have e2 : ((Lib.bitLen n : Int) + 7).tdiv 8 = ((beN n).length : Int) := by
    rw [Int.tdiv_eq_ediv_of_nonneg (by omega)]; omega
  have e3 : ((Lib.bitLen n : Int) + 7) / 8 = ((beN n).length : Int) := by omega
  have c2 : ∀ w, Calls Tryd.prog 66 #[.int .u64 (n : Int)] w fun e w' => e = .returned (.int .i64 (Lib.bitLen n : Int)) ∧ w' = w := fun w => by
    have := c w (by omega) (by omega)
    rwa [Int.toNat_natCast] at this
  have hn1 : (n : Int) < 16777216 := by omega
  have hb' : (Lib.bitLen n : Int) ≤ 24 := by omega
  clear e c hb
  generalize Lib.bitLen n = bl at *
  generalize (beN n).length = r at *
  go_enter Tryd.func62, Tryd.ntmps62
  go_wp2_with ((with_reducible refine (c2 _).mono ?_); rintro e1 w1 ⟨rfl, hw⟩; (rw [hw]); (clear hw w1))
  simp [bodyPost, results, Tryd.results62, go_sem]
  all_goals first | exact e3 | exact e2 | omega
theorem headSize_any {n : Nat} (h1 : n < 16777216) (w : World) :
    Calls Tryd.prog 48 #[.int .i64 (n : Int)] w fun e w' => e = .returned (.int .i64 ((hdR 192 n).length : Int)) ∧ w' = w := by
  by_cases k : n ≤ 55
  · have hk : (n : Int) ≤ 55 := by omega
    have e : (hdR 192 n).length = 1 := by unfold hdR; rw [if_pos k]; rfl
    rw [e]
    go_enter Tryd.func48, Tryd.ntmps48
    go_wp2
    simp [bodyPost, results, Tryd.results48, go_sem]
  · have hk : ¬ ((n : Int) ≤ 55) := by omega
    have c := lengthSize_any (n := n) (by omega) h1
    have e : (hdR 192 n).length = (beN n).length + 1 := by unfold hdR; rw [if_neg k]; rfl
    have hl := (beN_len n).2
    have hl' : ((beN n).length : Int) ≤ 3 := by omega
    rw [e]
    generalize (beN n).length = r at *
    clear e hl
    go_enter Tryd.func48, Tryd.ntmps48
    go_wp2_with ((with_reducible refine (c _).mono ?_); rintro e1 w1 ⟨rfl, hw⟩; (rw [hw]); (clear hw w1))
    simp [bodyPost, results, Tryd.results48, go_sem]
    omega
end Go.Proofs.YtkbmonlbgnnjlaaDoor

/- Layer 7: withHead, the document's before. -/
namespace Go.Proofs.YtkbmonlbgnnjlaaDoor
open Go.RowKit Go.Sort

/-- The bytes that the loop writes. -/
theorem be_at (n : Nat) : ((beN n).length = 1 ∧ (beN n).getD 0 0 = n ∧ n < 256) ∨ ((beN n).length = 2 ∧ (beN n).getD 0 0 = (n : Int) / 256 ∧ (beN n).getD 1 0 = (n : Int) % 256 ∧ n < 65536) ∨ ((beN n).length = 3 ∧ (beN n).getD 0 0 = (n : Int) / 65536 ∧ (beN n).getD 1 0 = (n : Int) / 256 % 256 ∧ (beN n).getD 2 0 = (n : Int) % 256) := by
  unfold beN
  by_cases k1 : n < 256
  · rw [if_pos k1]; exact .inl ⟨rfl, rfl, k1⟩
  · rw [if_neg k1]
    by_cases k2 : n < 65536
    · rw [if_pos k2]; exact .inr (.inl ⟨rfl, rfl, rfl, k2⟩)
    · rw [if_neg k2]; exact .inr (.inr ⟨rfl, rfl, rfl, rfl⟩)
end Go.Proofs.YtkbmonlbgnnjlaaDoor

namespace Go.Proofs.YtkbmonlbgnnjlaaDoor
open Go.RowKit Go.Sort
/-- Block g holds just these bytes, and may be written. -/
def Rw8 (W : World) (g : Nat) (X : List Int) : Prop := W.heap[g]? = some (.cells (X.map (Value.int .u8)).toArray 5 (0, 0))
theorem Rw8.lt {W : World} {g : Nat} {X : List Int} (h : Rw8 W g X) : g < W.heap.size := (Array.getElem?_eq_some_iff.1 h).1
theorem Rw8.keep {W W' : World} {g : Nat} {X : List Int} (h : Rw8 W g X) (hb : Below W.heap.size W W') : Rw8 W' g X := (hb.block g h.lt).trans h
theorem Rw8.bz {W : World} {g : Nat} {X : List Int} (h : Rw8 W g X) : Bz W g 0 X := fun i hi => by
  rw [Nat.zero_add, cell_of_row W g i _ _ _ h]
  simp [List.getD, hi]
theorem Rw8.free {W : World} {g : Nat} {X : List Int} (h : Rw8 W g X) (i : Nat) : W.frozen? ⟨g, i, none⟩ = false := frozen_of_row W g i _ _ h
theorem Rw8.set {W : World} {g i : Nat} {X : List Int} (h : Rw8 W g X) (u : Int) : Rw8 (W.setCell ⟨g, i, none⟩ (.int .u8 u)) g (X.set i u) := by
  have := heap_setCell_same W g i _ 5 (.int .u8 u) h
  rw [Rw8, this, List.map_set, List.setIfInBounds_toArray]
theorem Rw8.grown {W W' : World} {g : Nat} {X : List Int} {row : Option Nat} (h : Rw8 W g X) (hg : W.grownBy W' row) (hn : row ≠ some g) : Rw8 W' g X := (hg.block g h.lt (fun e => hn e.symm)).trans h
end Go.Proofs.YtkbmonlbgnnjlaaDoor

/- Layer 7: append of a whole list; the document's before. -/
namespace Go.Proofs.YtkbmonlbgnnjlaaDoor
open Go.RowKit Go.Sort

/-- append(v, x...): x any list that can be read. -/
theorem run_append_rd {B : Nat} {w : World} {v : Value} {a : Option Addr} {g p c : Nat} {P Q : List Int} {ty : TypeId} (h : OwnB B w v P) (ha : Az a g p Q) (hnc : a = none → c = 0) (hz : Bz w g p Q) (hl : P.length + Q.length < 140737488355000) (hB : B ≤ w.heap.size) :
    ∃ v' w', (Builtin.append_ #[33, 33] ty #[v, .slice a Q.length c]).run Tryd.prog w = .ok v' w' ∧ OwnB B w' v' (P ++ Q) ∧ w.grownBy w' v.ownBlock := by
  obtain ⟨i0, hi, hz0, hz1, hz2⟩ := info_parts info_byte
  have eo : ∀ {w' : World} {v' : Value}, w'.ownsRow B 5 1 v' (P.length + Q.length) (P.map (Value.int .u8) ++ Q.map (Value.int .u8)) → OwnB B w' v' (P ++ Q) := fun {w'} {v'} h => by
    rw [OwnB, List.length_append, List.map_append]; exact h
  by_cases q0 : Q = []
  · subst q0
    cases a with
    | none =>
      obtain rfl := hnc rfl
      exact ⟨v, w, run_append_owned_none (P := Tryd.prog) w B 33 ty 5 i0 1 Tryd.underlying33 hi v P.length _ h, by rw [List.append_nil]; exact h, World.grownBy.refl _ _⟩
    | some ad =>
      obtain ⟨v', w', hr, h2, h3, _, _⟩ := run_append_own_at (P := Tryd.prog) w B 33 ty 5 i0 (.int .u8 0) 1 1 Tryd.underlying33 hi hz0 hz1 hz2 rfl (by decide) v P.length _ h ad 0 c [] rfl (fun j u hu => by simp at hu) (fun u hu => by cases hu) (by unfold maxLen; simp at hl; omega) (by simp at hl; omega) hB
      exact ⟨v', w', hr, eo h2, h3⟩
  · obtain rfl : a = some ⟨g, p, none⟩ := ha.resolve_left q0
    obtain ⟨v', w', hr, h2, h3, _, _⟩ := run_append_own_at (P := Tryd.prog) w B 33 ty 5 i0 (.int .u8 0) 1 1 Tryd.underlying33 hi hz0 hz1 hz2 rfl (by decide) v P.length _ h ⟨g, p, none⟩ Q.length c (Q.map (Value.int .u8)) (by simp) (fun j u hu => by
      rw [List.getElem?_map] at hu
      obtain ⟨x, hx, rfl⟩ := Option.map_eq_some_iff.1 hu
      have hj : j < Q.length := (List.getElem?_eq_some_iff.1 hx).1
      rw [Addr.add_mid, hz j hj]
      simp [List.getD, hx]) (fun u hu => by obtain ⟨y, _, rfl⟩ := List.mem_map.1 hu; rfl) (by unfold maxLen; omega) (by omega) hB
    exact ⟨v', w', hr, eo h2, h3⟩
theorem wpList_append_rd {ops : Array Oper} {rest : List Oper} {o : Oper} {a : Act} {Q : Exit → Act → World → Prop} {w : World} {B : Nat} {v : Value} {sa : Option Addr} {g p c n : Nat} {P1 Q1 : List Int} (hgd : o.guard = none) (s t : Operand)
    (ho : o.op = .call { callee := .builtin .append, args := #[s, t], argTypes := #[33, 33] }) (hs : a.eval s = v) (hx : a.eval t = .slice sa n c) (hn : n = Q1.length)
    (h : OwnB B w v P1) (ha : Az sa g p Q1) (hnc : sa = none → c = 0) (hz : Bz w g p Q1) (hl : P1.length + Q1.length < 140737488355000) (hB : B ≤ w.heap.size)
    (hK : ∀ v' w', OwnB B w' v' (P1 ++ Q1) → w.grownBy w' v.ownBlock → wpList Tryd.prog ops Q rest (a.put o.dst v') w') :
    wpList Tryd.prog ops Q (o :: rest) a w := by
  subst hn
  refine wpList_plain hgd fun K hK2 => ?_
  obtain ⟨v', w', hr, h2, h3⟩ := run_append_rd (ty := o.type) (c := c) h ha hnc hz hl hB
  unfold Oper.wp execOp
  simp only [ho, resolve, invoke, builtin, Sem.run_bind, Sem.run_pure, Result.andThen_ok, List.map_toArray, List.map_cons, List.map_nil, hs, hx, hr]
  exact hK2 _ _ (hK v' w' h2 h3)
theorem rfrom_small {n : Nat} (h : n < 16777216) (w : World) : Calls Tryd.prog 25 #[.int .u64 (n : Int)] w fun e w' => e = .returned (.agg #[.int .u64 (l0 (n : Int)), .int .u64 (l1 (n : Int)), .int .u64 (l2 (n : Int)), .int .u64 (l3 (n : Int))]) ∧ Below w.heap.size w w' := by
  have e0 : l0 (n : Int) = n := by unfold l0; omega
  have e1 : l1 (n : Int) = 0 := by unfold l1; omega
  have e2 : l2 (n : Int) = 0 := by unfold l2; omega
  have e3 : l3 (n : Int) = 0 := by unfold l3; omega
  rw [e0, e1, e2, e3]
  clear e0 e1 e2 e3
  go_enter Tryd.func25, Tryd.ntmps25
  go_wp2
  simp [bodyPost, results, Tryd.results25, go_sem]
  repeat (first | with_reducible exact Below.refl _ _ | with_reducible refine Below.alloc ?_ (by first | omega | (simp; done) | (simp; omega)) _ | with_reducible refine Below.setCell ?_ (by first | omega | (simp; done)) _)
theorem own_one (w : World) (x : Int) : OwnB w.heap.size (w.alloc (.cells #[.int .u8 x] 5)) (.slice (some ⟨w.heap.size, 0, none⟩) 1 1) [x] := by
  refine ⟨rfl, .inr ⟨w.heap.size, 1, #[.int .u8 x], rfl, Nat.le_refl _, ?_, Nat.le_refl _, by unfold maxLen; decide, rfl, rfl⟩⟩
  show (w.heap.push _)[w.heap.size]? = _
  simp
set_option maxRecDepth 100000 in
set_option maxHeartbeats 4000000 in
theorem before_any {n : Nat} (hn2 : n < 16777216) (w : World) :
    Calls Tryd.prog 43 #[.int .i64 (n : Int), .int .i64 192] w fun e w' => ∃ v', e = .returned v' ∧ OwnB w.heap.size w' v' (hdR 192 n) ∧ Below w.heap.size w w' := by
  by_cases k : n ≤ 55
  · have hk : (n : Int) ≤ 55 := by omega
    have e : hdR 192 n = [192 + (n : Int)] := by unfold hdR; rw [if_pos k]
    rw [e]
    clear e
    go_enter Tryd.func43, Tryd.ntmps43
    go_wp2
    go_ret
    exact ⟨_, rfl, own_one w _, (Below.refl _ _).alloc (Nat.le_refl _) _⟩
  · have hk : ¬ ((n : Int) ≤ 55) := by omega
    have hn3 : (n : Int) < 16777216 := by omega
    have e : hdR 192 n = [192 + 55 + ((beN n).length : Int)] ++ beN n := by unfold hdR; rw [if_neg k]; rfl
    have FR : Hid (∀ w, Calls Tryd.prog 25 #[.int .u64 (n : Int)] w fun e w' => e = .returned (.agg #[.int .u64 (l0 (n : Int)), .int .u64 (l1 (n : Int)), .int .u64 (l2 (n : Int)), .int .u64 (l3 (n : Int))]) ∧ Below w.heap.size w w') := fun w => rfrom_small hn2 w
    have BY : Hid (∀ w, Calls Tryd.prog 24 #[.agg #[.int .u64 (l0 (n : Int)), .int .u64 (l1 (n : Int)), .int .u64 (l2 (n : Int)), .int .u64 (l3 (n : Int))]] w fun e w' => ∃ v, e = .returned v ∧ OwnB w.heap.size w' v (beN n) ∧ Below w.heap.size w w') := fun w => by
      have h := rbytes_any (n := (n : Int)) w
      rw [strip_be (by omega) hn2] at h
      exact h
    have hl := beN_len n
    rw [e]
    clear e
    generalize beN n = bn at *
    go_enter Tryd.func43, Tryd.ntmps43
    go_wp2_with fail
    with_reducible refine (FR.out w).mono ?_
    rintro e w1 ⟨rfl, b1⟩
    go_wp2_with fail
    with_reducible refine (BY.out w1).mono ?_
    rintro e w2 ⟨v2, rfl, o2, b2⟩
    replace b1 := b1.trans (b2.mono b1.size)
    obtain ⟨a2, g2, c2, rfl, q2, z2, y2, _, _, nc2⟩ := o2.lies
    have s2 := b2.size
    have hl3 : (bn.length : Int) ≤ 3 := by omega
    clear b2
    have b1' : ∀ ob, Below w.heap.size w (w2.alloc ob) := fun ob => b1.alloc b1.size ob
    have z2' : Hid (∀ ob, Bz (w2.alloc ob) g2 0 bn) := fun ob => y2.keep ((Below.refl _ _).alloc (Nat.le_refl _) ob)
    have O1 : Hid (∀ x : Int, OwnB w.heap.size (w2.alloc (.cells #[.int .u8 x] 5)) (.slice (some ⟨w2.heap.size, 0, none⟩) 1 1) [x]) := fun x => (own_one w2 x).base b1.size
    have HQ : Hid (Az a2 g2 0 bn ∧ bn.length ≤ 3 ∧ (a2 = none → c2 = 0) ∧ w.heap.size ≤ w2.heap.size) := ⟨z2, hl.2, nc2, b1.size⟩
    clear z2 y2 nc2 hl o2
    go_wp2_with ((refine wpList_append_rd rfl _ _ rfl rfl rfl rfl (O1.out _) HQ.out.1 HQ.out.2.2.1 (z2'.out _) (by have := HQ.out.2.1; simp; omega) (by have := HQ.out.2.2.2; simp; omega) ?_); intro v3 w3 o3 g3)
    go_ret
    exact ⟨_, rfl, o3, (b1' _).grown g3 (by have := HQ.out.2.2.2; simp; omega) (fun k hk => by cases hk; exact HQ.out.2.2.2)⟩
end Go.Proofs.YtkbmonlbgnnjlaaDoor

/- Layer 7: Join of both sides. -/
namespace Go.Proofs.YtkbmonlbgnnjlaaDoor
open Go.RowKit Go.Sort

/-- A text where a slice points. -/
def Tz (W : World) (v : Value) (X : List Int) : Prop := ∃ a g p c, v = .slice a X.length c ∧ X.length ≤ c ∧ Az a g p X ∧ (a = none → c = 0) ∧ Bz W g p X
theorem Tz.keep {W W' : World} {v : Value} {X : List Int} (h : Tz W v X) (hb : Below W.heap.size W W') : Tz W' v X := by
  obtain ⟨a, g, p, c, h1, h2, h3, h4, h5⟩ := h
  exact ⟨a, g, p, c, h1, h2, h3, h4, h5.keep hb⟩
/-- Texts in a row. -/
def Pz (W : World) (b o : Nat) (XS : List (List Int)) (V : Nat → Value) : Prop := ∀ i, i < XS.length → W.cell? ⟨b, o + i, none⟩ = some (V i) ∧ Tz W (V i) (XS.getD i [])
theorem Pz.keep {W W' : World} {b o : Nat} {XS : List (List Int)} {V : Nat → Value} (h : Pz W b o XS V) (hb : Below W.heap.size W W') : Pz W' b o XS V := fun i hi => ⟨cell_keep hb (h i hi).1, (h i hi).2.keep hb⟩
def AzP (a : Option Addr) (b o : Nat) (XS : List (List Int)) : Prop := XS = [] ∨ a = some ⟨b, o, none⟩
theorem AzP.cons {a : Option Addr} {b o : Nat} {XS : List (List Int)} (h : AzP a b o XS) (hl : 0 < XS.length) : a = some ⟨b, o, none⟩ := by
  rcases h with h | h
  · rw [h] at hl; exact absurd hl (Nat.lt_irrefl _)
  · exact h
end Go.Proofs.YtkbmonlbgnnjlaaDoor

/- Layer 7: the program's Join. -/
namespace Go.Proofs.YtkbmonlbgnnjlaaDoor
open Go.RowKit Go.Sort

end Go.Proofs.YtkbmonlbgnnjlaaDoor

/- Layer 7: alike; the lists that the statement gives. -/
namespace Go.Proofs.YtkbmonlbgnnjlaaDoor
open Go.RowKit Go.Sort

/-- The texts that were given so far. -/
def GvE (W : World) (gv : Value) (XS : List (List Int)) (VS : List Value) (i : Nat) : Prop := ∀ j, j < i → ∃ gj, VS[j]? = some (.slice (some ⟨gj, 0, none⟩) (XS.getD j []).length ((XS.getD j []).length + 9)) ∧ Bz W gj 0 (XS.getD j [] ++ List.replicate 9 165) ∧ gv.ownBlock ≠ some gj
theorem bz9_lt {W : World} {g : Nat} {X : List Int} (h : Bz W g 0 (X ++ List.replicate 9 165)) : g < W.heap.size := World.block_lt_of_cell? W _ (h 0 (by rw [List.length_append, List.length_replicate]; omega))
theorem Bz.grownE {W W' : World} {g p : Nat} {X : List Int} {row : Option Nat} (h : Bz W g p X) (hg : W.grownBy W' row) (hn : row ≠ some g) : Bz W' g p X := fun i hi => by
  have h1 := h i hi
  have e : W'.heap[g]? = W.heap[g]? := hg.block g (World.block_lt_of_cell? W _ h1) (fun e => hn e.symm)
  rw [← h1]; simp only [World.cell?, e]
theorem GvE.keep {W W' : World} {gv : Value} {XS : List (List Int)} {VS : List Value} {i : Nat} (h : GvE W gv XS VS i) (hb : Below W.heap.size W W') : GvE W' gv XS VS i := fun j hj => by
  obtain ⟨gj, h1, h2, h3⟩ := h j hj
  exact ⟨gj, h1, h2.keep hb, h3⟩
/-- One more, appended. -/
theorem GvE.step {W W' : World} {gv v' : Value} {XS : List (List Int)} {VS : List Value} {i gi : Nat} (hl : VS.length = i) (h : GvE W gv XS VS i) (hz : Bz W gi 0 (XS.getD i [] ++ List.replicate 9 165)) (hn : gv.ownBlock ≠ some gi) (hg : W.grownBy W' gv.ownBlock) (hv : v'.ownBlock = gv.ownBlock ∨ v'.ownBlock = some W.heap.size) :
    GvE W' v' XS (VS ++ [.slice (some ⟨gi, 0, none⟩) (XS.getD i []).length ((XS.getD i []).length + 9)]) (i + 1) := fun j hj => by
  by_cases e : j = i
  · subst e
    refine ⟨gi, by rw [List.getElem?_append_right (by omega), hl, Nat.sub_self]; rfl, hz.grownE hg hn, ?_⟩
    rcases hv with k | k
    · rw [k]; exact hn
    · rw [k]; intro e; have := Option.some.inj e; have := bz9_lt hz; omega
  · obtain ⟨gj, h1, h2, h3⟩ := h j (by omega)
    refine ⟨gj, by rw [List.getElem?_append_left (by omega)]; exact h1, h2.grownE hg h3, ?_⟩
    rcases hv with k | k
    · rw [k]; exact h3
    · rw [k]; intro e; have := Option.some.inj e; have := bz9_lt h2; omega
end Go.Proofs.YtkbmonlbgnnjlaaDoor
