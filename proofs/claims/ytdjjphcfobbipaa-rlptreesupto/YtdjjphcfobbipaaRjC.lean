import Derived.Test.YtdjjphcfobbipaaRjA
import Derived.Test.YtdjjphcfobbipaaUbA
import Derived.Laws.CopyOwn
import Derived.Deep.OwnRows
import Derived.Deep.MidRow
import Derived.Lib.LazyBuf
/- Layer 7: append of a whole list; the document's before. -/
namespace Go.Proofs.Ytdjjphcfobbipaa
open Go.RowKit Go.Sort

/-- append(v, x...): both lists of one's own. -/
theorem run_append_all {B B' : Nat} {w : World} {v x : Value} {P Q : List Int} {ty : TypeId} (h : OwnB B w v P) (k : OwnB B' w x Q) (hl : P.length + Q.length < 140737488355000) (hB : B ≤ w.heap.size) :
    ∃ v' w', (Builtin.append_ #[22, 22] ty #[v, x]).run Try.prog w = .ok v' w' ∧ OwnB B w' v' (P ++ Q) ∧ w.grownBy w' v.ownBlock := by
  obtain ⟨i0, hi, hz0, hz1, hz2⟩ := info_parts info_byte
  have eo : ∀ {w' : World} {v' : Value}, w'.ownsRow B 5 1 v' (P.length + Q.length) (P.map (Value.int .u8) ++ Q.map (Value.int .u8)) → OwnB B w' v' (P ++ Q) := fun {w'} {v'} h => by
    rw [OwnB, List.length_append, List.map_append]; exact h
  rcases k.2 with ⟨rfl, h0⟩ | ⟨g, cap, cur, rfl, hb, hg, hle, _⟩
  · have e : Q = [] := List.length_eq_zero_iff.1 h0
    subst e
    exact ⟨v, w, run_append_owned_none (P := Try.prog) w B 22 ty 5 i0 1 Try.underlying22 hi v P.length _ h, by rw [List.append_nil]; exact h, World.grownBy.refl _ _⟩
  · obtain ⟨v', w', hr, h2, h3, _, _⟩ := run_append_own_at (P := Try.prog) w B 22 ty 5 i0 (.int .u8 0) 1 1 Try.underlying22 hi hz0 hz1 hz2 rfl (by decide) v P.length _ h ⟨g, 0, none⟩ Q.length cap (Q.map (Value.int .u8)) (by simp) (World.ownsRow.cells k (g := g) rfl) (fun u hu => by obtain ⟨y, _, rfl⟩ := List.mem_map.1 hu; rfl) (by unfold maxLen; omega) (by omega) hB
    exact ⟨v', w', hr, eo h2, h3⟩
theorem wpList_append_all {ops : Array Oper} {rest : List Oper} {o : Oper} {a : Act} {Q : Exit → Act → World → Prop} {w : World} {B B' : Nat} {v x : Value} {P1 Q1 : List Int} (hgd : o.guard = none) (s t : Operand)
    (ho : o.op = .call { callee := .builtin .append, args := #[s, t], argTypes := #[22, 22] }) (hs : a.eval s = v) (hx : a.eval t = x)
    (h : OwnB B w v P1) (k : OwnB B' w x Q1) (hl : P1.length + Q1.length < 140737488355000) (hB : B ≤ w.heap.size)
    (hK : ∀ v' w', OwnB B w' v' (P1 ++ Q1) → w.grownBy w' v.ownBlock → wpList Try.prog ops Q rest (a.put o.dst v') w') :
    wpList Try.prog ops Q (o :: rest) a w := by
  refine wpList_plain hgd fun K hK2 => ?_
  obtain ⟨v', w', hr, h2, h3⟩ := run_append_all (ty := o.type) h k hl hB
  unfold Oper.wp execOp
  simp only [ho, resolve, invoke, builtin, Sem.run_bind, Sem.run_pure, Result.andThen_ok, List.map_toArray, List.map_cons, List.map_nil, hs, hx, hr]
  exact hK2 _ _ (hK v' w' h2 h3)
/-- append(v, x...): x any list that can be read. -/
theorem run_append_rd {B : Nat} {w : World} {v : Value} {a : Option Addr} {g p c : Nat} {P Q : List Int} {ty : TypeId} (h : OwnB B w v P) (ha : Az a g p Q) (hnc : a = none → c = 0) (hz : Bz w g p Q) (hl : P.length + Q.length < 140737488355000) (hB : B ≤ w.heap.size) :
    ∃ v' w', (Builtin.append_ #[22, 22] ty #[v, .slice a Q.length c]).run Try.prog w = .ok v' w' ∧ OwnB B w' v' (P ++ Q) ∧ w.grownBy w' v.ownBlock := by
  obtain ⟨i0, hi, hz0, hz1, hz2⟩ := info_parts info_byte
  have eo : ∀ {w' : World} {v' : Value}, w'.ownsRow B 5 1 v' (P.length + Q.length) (P.map (Value.int .u8) ++ Q.map (Value.int .u8)) → OwnB B w' v' (P ++ Q) := fun {w'} {v'} h => by
    rw [OwnB, List.length_append, List.map_append]; exact h
  by_cases q0 : Q = []
  · subst q0
    cases a with
    | none =>
      obtain rfl := hnc rfl
      exact ⟨v, w, run_append_owned_none (P := Try.prog) w B 22 ty 5 i0 1 Try.underlying22 hi v P.length _ h, by rw [List.append_nil]; exact h, World.grownBy.refl _ _⟩
    | some ad =>
      obtain ⟨v', w', hr, h2, h3, _, _⟩ := run_append_own_at (P := Try.prog) w B 22 ty 5 i0 (.int .u8 0) 1 1 Try.underlying22 hi hz0 hz1 hz2 rfl (by decide) v P.length _ h ad 0 c [] rfl (fun j u hu => by simp at hu) (fun u hu => by cases hu) (by unfold maxLen; simp at hl; omega) (by simp at hl; omega) hB
      exact ⟨v', w', hr, eo h2, h3⟩
  · obtain rfl : a = some ⟨g, p, none⟩ := ha.resolve_left q0
    obtain ⟨v', w', hr, h2, h3, _, _⟩ := run_append_own_at (P := Try.prog) w B 22 ty 5 i0 (.int .u8 0) 1 1 Try.underlying22 hi hz0 hz1 hz2 rfl (by decide) v P.length _ h ⟨g, p, none⟩ Q.length c (Q.map (Value.int .u8)) (by simp) (fun j u hu => by
      rw [List.getElem?_map] at hu
      obtain ⟨x, hx, rfl⟩ := Option.map_eq_some_iff.1 hu
      have hj : j < Q.length := (List.getElem?_eq_some_iff.1 hx).1
      rw [Addr.add_mid, hz j hj]
      simp [List.getD, hx]) (fun u hu => by obtain ⟨y, _, rfl⟩ := List.mem_map.1 hu; rfl) (by unfold maxLen; omega) (by omega) hB
    exact ⟨v', w', hr, eo h2, h3⟩
theorem wpList_append_rd {ops : Array Oper} {rest : List Oper} {o : Oper} {a : Act} {Q : Exit → Act → World → Prop} {w : World} {B : Nat} {v : Value} {sa : Option Addr} {g p c n : Nat} {P1 Q1 : List Int} (hgd : o.guard = none) (s t : Operand)
    (ho : o.op = .call { callee := .builtin .append, args := #[s, t], argTypes := #[22, 22] }) (hs : a.eval s = v) (hx : a.eval t = .slice sa n c) (hn : n = Q1.length)
    (h : OwnB B w v P1) (ha : Az sa g p Q1) (hnc : sa = none → c = 0) (hz : Bz w g p Q1) (hl : P1.length + Q1.length < 140737488355000) (hB : B ≤ w.heap.size)
    (hK : ∀ v' w', OwnB B w' v' (P1 ++ Q1) → w.grownBy w' v.ownBlock → wpList Try.prog ops Q rest (a.put o.dst v') w') :
    wpList Try.prog ops Q (o :: rest) a w := by
  subst hn
  refine wpList_plain hgd fun K hK2 => ?_
  obtain ⟨v', w', hr, h2, h3⟩ := run_append_rd (ty := o.type) (c := c) h ha hnc hz hl hB
  unfold Oper.wp execOp
  simp only [ho, resolve, invoke, builtin, Sem.run_bind, Sem.run_pure, Result.andThen_ok, List.map_toArray, List.map_cons, List.map_nil, hs, hx, hr]
  exact hK2 _ _ (hK v' w' h2 h3)
theorem withHead_any {B : Nat} {v : Value} {P : List Int} {n : Nat} (hn2 : n < 16777216) (hp : P.length < 1000000000) (w : World) (hB : B ≤ w.heap.size) (h : OwnB B w v P) :
    Calls Try.prog 78 #[v, .bool true, .int .i64 (n : Int)] w fun e w' => ∃ v', e = .returned v' ∧ OwnB B w' v' (P ++ hdR 192 n) ∧ Below B w w' := by
  by_cases k : n ≤ 55
  · have e : hdR 192 n = [192 + (n : Int)] := by unfold hdR; rw [if_pos k]
    rw [e]; exact withHead_low k hp w hB h
  · have e : hdR 192 n = (192 + 55 + ((beN n).length : Int)) :: beN n := by unfold hdR; rw [if_neg k]
    rw [e]; exact withHead_high (by omega) hn2 hp w hB h
theorem rfrom_small {n : Nat} (h : n < 16777216) (w : World) : Calls Try.prog 45 #[.int .u64 (n : Int)] w fun e w' => e = .returned (.agg #[.int .u64 (l0 (n : Int)), .int .u64 (l1 (n : Int)), .int .u64 (l2 (n : Int)), .int .u64 (l3 (n : Int))]) ∧ Below w.heap.size w w' := by
  have e0 : l0 (n : Int) = n := by unfold l0; omega
  have e1 : l1 (n : Int) = 0 := by unfold l1; omega
  have e2 : l2 (n : Int) = 0 := by unfold l2; omega
  have e3 : l3 (n : Int) = 0 := by unfold l3; omega
  rw [e0, e1, e2, e3]
  clear e0 e1 e2 e3
  go_enter Try.func45, Try.ntmps45
  go_wp2
  simp [bodyPost, results, Try.results45, go_sem]
  repeat (first | with_reducible exact Below.refl _ _ | with_reducible refine Below.alloc ?_ (by first | omega | (simp; done) | (simp; omega)) _ | with_reducible refine Below.setCell ?_ (by first | omega | (simp; done)) _)
theorem own_one (w : World) (x : Int) : OwnB w.heap.size (w.alloc (.cells #[.int .u8 x] 5)) (.slice (some ⟨w.heap.size, 0, none⟩) 1 1) [x] := by
  refine ⟨rfl, .inr ⟨w.heap.size, 1, #[.int .u8 x], rfl, Nat.le_refl _, ?_, Nat.le_refl _, by unfold maxLen; decide, rfl, rfl⟩⟩
  show (w.heap.push _)[w.heap.size]? = _
  simp
set_option maxRecDepth 100000 in
set_option maxHeartbeats 4000000 in
theorem before_any {n : Nat} (hn2 : n < 16777216) (w : World) :
    Calls Try.prog 66 #[.int .i64 (n : Int), .int .i64 192] w fun e w' => ∃ v', e = .returned v' ∧ OwnB w.heap.size w' v' (hdR 192 n) ∧ Below w.heap.size w w' := by
  by_cases k : n ≤ 55
  · have hk : (n : Int) ≤ 55 := by omega
    have e : hdR 192 n = [192 + (n : Int)] := by unfold hdR; rw [if_pos k]
    rw [e]
    clear e
    go_enter Try.func66, Try.ntmps66
    go_wp2
    go_ret
    exact ⟨_, rfl, own_one w _, (Below.refl _ _).alloc (Nat.le_refl _) _⟩
  · have hk : ¬ ((n : Int) ≤ 55) := by omega
    have hn3 : (n : Int) < 16777216 := by omega
    have e : hdR 192 n = [192 + 55 + ((beN n).length : Int)] ++ beN n := by unfold hdR; rw [if_neg k]; rfl
    have FR : Hid (∀ w, Calls Try.prog 45 #[.int .u64 (n : Int)] w fun e w' => e = .returned (.agg #[.int .u64 (l0 (n : Int)), .int .u64 (l1 (n : Int)), .int .u64 (l2 (n : Int)), .int .u64 (l3 (n : Int))]) ∧ Below w.heap.size w w') := fun w => rfrom_small hn2 w
    have BY : Hid (∀ w, Calls Try.prog 43 #[.agg #[.int .u64 (l0 (n : Int)), .int .u64 (l1 (n : Int)), .int .u64 (l2 (n : Int)), .int .u64 (l3 (n : Int))]] w fun e w' => ∃ v, e = .returned v ∧ OwnB w.heap.size w' v (beN n) ∧ Below w.heap.size w w') := fun w => by
      have h := rbytes_any (n := (n : Int)) w
      rw [strip_be (by omega) hn2] at h
      exact h
    have hl := beN_len n
    rw [e]
    clear e
    generalize beN n = bn at *
    go_enter Try.func66, Try.ntmps66
    go_wp2_with fail
    with_reducible refine (FR.out w).mono ?_
    rintro e w1 ⟨rfl, b1⟩
    go_wp2_with fail
    with_reducible refine (BY.out w1).mono ?_
    rintro e w2 ⟨v2, rfl, o2, b2⟩
    replace b1 := b1.trans (b2.mono b1.size)
    obtain ⟨a2, g2, c2, rfl, q2, z2, y2, _, _, nc2⟩ := o2.lies
    have s2 := b2.size
    have hl3 : (bn.length : Int) ≤ 3 := by omega
    clear b2
    have b1' : ∀ ob, Below w.heap.size w (w2.alloc ob) := fun ob => b1.alloc b1.size ob
    have z2' : Hid (∀ ob, Bz (w2.alloc ob) g2 0 bn) := fun ob => y2.keep ((Below.refl _ _).alloc (Nat.le_refl _) ob)
    have O1 : Hid (∀ x : Int, OwnB w.heap.size (w2.alloc (.cells #[.int .u8 x] 5)) (.slice (some ⟨w2.heap.size, 0, none⟩) 1 1) [x]) := fun x => (own_one w2 x).base b1.size
    have HQ : Hid (Az a2 g2 0 bn ∧ bn.length ≤ 3 ∧ (a2 = none → c2 = 0) ∧ w.heap.size ≤ w2.heap.size) := ⟨z2, hl.2, nc2, b1.size⟩
    clear z2 y2 nc2 hl o2
    go_wp2_with ((refine wpList_append_rd rfl _ _ rfl rfl rfl rfl (O1.out _) HQ.out.1 HQ.out.2.2.1 (z2'.out _) (by have := HQ.out.2.1; simp; omega) (by have := HQ.out.2.2.2; simp; omega) ?_); intro v3 w3 o3 g3)
    go_ret
    exact ⟨_, rfl, o3, (b1' _).grown g3 (by have := HQ.out.2.2.2; simp; omega) (fun k hk => by cases hk; exact HQ.out.2.2.2)⟩
end Go.Proofs.Ytdjjphcfobbipaa

namespace Go.Proofs.Ytdjjphcfobbipaa
open Go.RowKit Go.Sort
theorem wpList_worldZ {P : Program} {ops : Array Oper} {Q : Exit → Act → World → Prop} {rest : List Oper} {a : Act} {w : World} (S : World → Prop) (h : S w) (k : ∀ W, S W → wpList P ops Q rest a W) : wpList P ops Q rest a w := k w h
theorem wpList_make_capZ {P : Program} (w : World) {ops : Array Oper} {rest : List Oper} {o : Oper} {a : Act} {Q : Exit → Act → World → Prop}
    (hg : o.guard = none) (l c : Operand) (t : TypeId) (hop : o.op = Op.makeSlice t l c)
    (e : TypeId) (i : TypeInfo) (z : Value) (ht : P.underlying t = some (.slice e)) (hi : P.info? e = some i) (hz : i.zero = some z) (hsize : i.size = 1) (hz1 : z.cells = #[z]) (hby : i.bytes = 1)
    (kl kc : IntKind) (L C : Int) (n m : Nat) (hl : a.eval l = .int kl L) (hc : a.eval c = .int kc C) (eL : L = (n : Int)) (eC : C = (m : Int)) (hnm : n ≤ m) (hm : m ≤ 281474976710656)
    (hK : wpList P ops Q rest (a.put o.dst (.slice (some ⟨w.heap.size, 0, none⟩) n m)) (w.alloc (.cells (madeCells #[z] m) e))) :
    wpList P ops Q (o :: rest) a w := by
  subst eL eC
  refine wpList_plain hg fun K hK' => ?_
  have hr := run_make (P := P) w t e i z ht hi hz kl kc n m (by omega) (by omega) (by rw [hby]; omega) (by omega)
  simp only [Int.toNat_natCast, hsize, Nat.mul_one, hz1] at hr
  unfold Oper.wp
  simp [execOp, hop, hl, hc, hr, Result.andThen]
  exact hK' _ _ hK
theorem made_bytesZ (n : Nat) : madeCells #[Value.int .u8 0] n = (List.replicate n (Value.int .u8 0)).toArray := by
  have := toList_madeCells_one (Value.int .u8 0) n
  apply Array.toList_inj.1
  rw [this]
theorem heap_newZ (w : World) (o : Obj) : (w.alloc o).heap[w.heap.size]? = some o := by
  show (w.heap.push o)[w.heap.size]? = some o
  simp

/-- A list and its marks. -/
def mk70 (X : List Int) (i : Nat) : List Int := X ++ (List.replicate i 195 ++ List.replicate (70 - i) 0)
theorem mk70_len (X : List Int) {i : Nat} (h : i ≤ 70) : (mk70 X i).length = X.length + 70 := by simp [mk70]; omega
theorem mk70_set (X : List Int) {i : Nat} (h : i < 70) : (mk70 X i).set (X.length + i) 195 = mk70 X (i + 1) := by
  obtain ⟨k, hk⟩ : ∃ k, 70 - i = k + 1 := ⟨69 - i, by omega⟩
  rw [mk70, mk70, hk, show 70 - (i + 1) = k by omega, List.set_append_right _ _ (by omega), Nat.add_sub_cancel_left, List.set_append_right _ _ (by simp), List.length_replicate, Nat.sub_self, List.replicate_succ (n := k), List.set_cons_zero, List.replicate_succ', List.append_assoc]
  rfl
/-- With all its marks. -/
def lentL (X : List Int) : List Int := X ++ List.replicate 70 195
theorem mk70_all (X : List Int) : mk70 X 70 = lentL X := by simp [mk70, lentL]
/-- Block g holds just these bytes, and may be written. -/
def Rw8 (W : World) (g : Nat) (X : List Int) : Prop := W.heap[g]? = some (.cells (X.map (Value.int .u8)).toArray 5 (0, 0))
theorem Rw8.lt {W : World} {g : Nat} {X : List Int} (h : Rw8 W g X) : g < W.heap.size := (Array.getElem?_eq_some_iff.1 h).1
theorem Rw8.keep {W W' : World} {g : Nat} {X : List Int} (h : Rw8 W g X) (hb : Below W.heap.size W W') : Rw8 W' g X := (hb.block g h.lt).trans h
theorem Rw8.bz {W : World} {g : Nat} {X : List Int} (h : Rw8 W g X) : Bz W g 0 X := fun i hi => by
  rw [Nat.zero_add, cell_of_row W g i _ _ _ h]
  simp [List.getD, hi]
theorem Rw8.free {W : World} {g : Nat} {X : List Int} (h : Rw8 W g X) (i : Nat) : W.frozen? ⟨g, i, none⟩ = false := frozen_of_row W g i _ _ h
theorem Rw8.set {W : World} {g i : Nat} {X : List Int} (h : Rw8 W g X) (u : Int) : Rw8 (W.setCell ⟨g, i, none⟩ (.int .u8 u)) g (X.set i u) := by
  have := heap_setCell_same W g i _ 5 (.int .u8 u) h
  rw [Rw8, this, List.map_set, List.setIfInBounds_toArray]
theorem Rw8.grown {W W' : World} {g : Nat} {X : List Int} {row : Option Nat} (h : Rw8 W g X) (hg : W.grownBy W' row) (hn : row ≠ some g) : Rw8 W' g X := (hg.block g h.lt (fun e => hn e.symm)).trans h
theorem src_of {a : Option Addr} {bd od g : Nat} {X : List Int} {w w1 : World} (ha : Az a bd od X) (hX : Bz w bd od X) (B : Below w.heap.size w w1) :
    0 < (X.map (Value.int .u8)).length → (some (⟨g, 0, none⟩ : Addr)) = some ⟨g, 0, none⟩ ∧ ∃ ad, a = some ad ∧ ∀ j v, (X.map (Value.int .u8))[j]? = some v → w1.cell? (ad.add j) = some v := by
  intro h0
  refine ⟨rfl, ?_⟩
  rcases ha with h | h
  · rw [h] at h0; simp at h0
  · refine ⟨_, h, fun j v hv => ?_⟩
    rw [List.getElem?_map] at hv
    obtain ⟨x, hx, rfl⟩ := Option.map_eq_some_iff.1 hv
    have hj : j < X.length := (List.getElem?_eq_some_iff.1 hx).1
    have hc := hX j hj
    rw [Addr.add_mid, B.cell (p := ⟨bd, od + j, none⟩) (World.block_lt_of_cell? w _ hc), hc]
    simp [List.getD, hx]
theorem splice_ints (X : List Int) (k : Nat) : splice (List.replicate (X.length + k) (Value.int .u8 0)) 0 (X.map (Value.int .u8)) = (X ++ List.replicate k 0).map (Value.int .u8) := by
  simp [splice, List.drop_replicate]
theorem lentL_at (X : List Int) {i : Nat} (h : i < X.length) : (lentL X).getD i 0 = X.getD i 0 := by
  rw [lentL, List.getD, List.getElem?_append_left h, List.getD]
theorem lentL_past (X : List Int) {i : Nat} (h : X.length ≤ i) (h2 : i < X.length + 70) : (lentL X).getD i 0 = 195 := by
  rw [lentL, List.getD, List.getElem?_append_right h, List.getElem?_replicate, if_pos (by omega)]; rfl
theorem lentL_len (X : List Int) : (lentL X).length = X.length + 70 := by simp [lentL]
theorem lentL_bz {W : World} {g : Nat} {X : List Int} (h : Rw8 W g (lentL X)) : Bz W g 0 X := h.bz.front
end Go.Proofs.Ytdjjphcfobbipaa

/- Layer 7: Join of both sides. -/
namespace Go.Proofs.Ytdjjphcfobbipaa
open Go.RowKit Go.Sort

/-- A text where a slice points. -/
def Tz (W : World) (v : Value) (X : List Int) : Prop := ∃ a g p c, v = .slice a X.length c ∧ X.length ≤ c ∧ Az a g p X ∧ (a = none → c = 0) ∧ Bz W g p X
theorem Tz.keep {W W' : World} {v : Value} {X : List Int} (h : Tz W v X) (hb : Below W.heap.size W W') : Tz W' v X := by
  obtain ⟨a, g, p, c, h1, h2, h3, h4, h5⟩ := h
  exact ⟨a, g, p, c, h1, h2, h3, h4, h5.keep hb⟩
/-- Texts in a row. -/
def Pz (W : World) (b o : Nat) (XS : List (List Int)) (V : Nat → Value) : Prop := ∀ i, i < XS.length → W.cell? ⟨b, o + i, none⟩ = some (V i) ∧ Tz W (V i) (XS.getD i [])
theorem Pz.keep {W W' : World} {b o : Nat} {XS : List (List Int)} {V : Nat → Value} (h : Pz W b o XS V) (hb : Below W.heap.size W W') : Pz W' b o XS V := fun i hi => ⟨cell_keep hb (h i hi).1, (h i hi).2.keep hb⟩
def AzP (a : Option Addr) (b o : Nat) (XS : List (List Int)) : Prop := XS = [] ∨ a = some ⟨b, o, none⟩
theorem AzP.cons {a : Option Addr} {b o : Nat} {XS : List (List Int)} (h : AzP a b o XS) (hl : 0 < XS.length) : a = some ⟨b, o, none⟩ := by
  rcases h with h | h
  · rw [h] at hl; exact absurd hl (Nat.lt_irrefl _)
  · exact h
def lenS (XS : List (List Int)) : Nat → Nat
  | 0 => 0
  | i + 1 => lenS XS i + (XS.getD i []).length
theorem lenS_mono (XS : List (List Int)) {i : Nat} : ∀ n, i ≤ n → lenS XS i ≤ lenS XS n
  | 0, h => by obtain rfl := Nat.le_zero.1 h; exact Nat.le_refl _
  | n + 1, h => by
    by_cases k : i = n + 1
    · rw [k]; exact Nat.le_refl _
    · have h1 := lenS_mono XS n (i := i) (by omega)
      show lenS XS i ≤ lenS XS n + _
      omega
def flS (XS : List (List Int)) : Nat → List Int
  | 0 => []
  | i + 1 => flS XS i ++ XS.getD i []
theorem flS_len (XS : List (List Int)) : ∀ n, (flS XS n).length = lenS XS n
  | 0 => rfl
  | n + 1 => by rw [flS, List.length_append, flS_len XS n, lenS]
def LimS (n : Nat) : Prop := n ≤ 1048576
theorem LimS.le {n : Nat} (h : LimS n) : n ≤ 1048576 := h
end Go.Proofs.Ytdjjphcfobbipaa

/- Layer 7: the program's Join. -/
namespace Go.Proofs.Ytdjjphcfobbipaa
open Go.RowKit Go.Sort

theorem own_empty (w : World) (m : Nat) (hm : m ≤ maxLen) : OwnB w.heap.size (w.alloc (.cells (madeCells #[Value.int .u8 0] m) 5)) (.slice (some ⟨w.heap.size, 0, none⟩) 0 m) [] := by
  refine ⟨rfl, .inr ⟨w.heap.size, m, madeCells #[Value.int .u8 0] m, rfl, Nat.le_refl _, ?_, Nat.zero_le _, hm, by simp [madeCells], rfl⟩⟩
  show (w.heap.push _)[w.heap.size]? = _
  simp
end Go.Proofs.Ytdjjphcfobbipaa
