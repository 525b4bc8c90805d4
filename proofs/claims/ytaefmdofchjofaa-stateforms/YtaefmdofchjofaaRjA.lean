import Derived.Test.YtaefmdofchjofaaUbA
import Derived.Test.YtaefmdofchjofaaUbC
import Derived.Test.YtaefmdofchjofaaShelf
import Derived.Deep.OwnRows
import Derived.Laws.CopyOwn
import Derived.Test.YtaefmdofchjofaaRsE
import Derived.Test.YtaefmdofchjofaaHold
import Derived.Deep.MidRow
import Derived.Lib.LazyBuf
import Derived.Test.YtaefmdofchjofaaRoomy
import Derived.Test.YtaefmdofchjofaaGet
/- Layer 7: the head of a list, as both write it. -/
namespace Go.Proofs.Ytaefmdofchjofaa
open Go.RowKit Go.Sort

/-- A number's bytes, the highest first (of numbers below 2^24). -/
def beN (n : Nat) : List Int := if n < 256 then [(n : Int)] else if n < 65536 then [(n : Int) / 256, (n : Int) % 256] else [(n : Int) / 65536, (n : Int) / 256 % 256, (n : Int) % 256]
/-- A head. -/
def hdR (f : Int) (n : Nat) : List Int := if n ≤ 55 then [f + n] else (f + 55 + (beN n).length) :: beN n
theorem beN_len (n : Nat) : 1 ≤ (beN n).length ∧ (beN n).length ≤ 3 := by
  unfold beN
  split
  · exact ⟨Nat.le_refl 1, by show 1 ≤ 3; decide⟩
  · split
    · exact ⟨by show 1 ≤ 2; decide, by show 2 ≤ 3; decide⟩
    · exact ⟨by show 1 ≤ 3; decide, Nat.le_refl 3⟩
theorem hdR_len (f : Int) (n : Nat) : (hdR f n).length ≤ 4 := by
  unfold hdR
  have := beN_len n
  split
  · exact (by decide : 1 ≤ 4)
  · rw [List.length_cons]; omega
theorem put_at (n : Nat) {t : Nat} (h : t < 32) : (putL (n : Int)).getD t 0 = (n : Int) / 256 ^ (31 - t) % 256 := putL_getD _ h
theorem put_low {n t w : Nat} (hw : n < 256 ^ w) (h : t + w < 32) : (putL (n : Int)).getD t 0 = 0 := by
  rw [put_at n (by omega)]
  have e : ((n : Int) / 256 ^ (31 - t)) = 0 := by
    apply Int.ediv_eq_zero_of_lt (by omega)
    have h1 : 256 ^ w ≤ 256 ^ (31 - t) := Nat.pow_le_pow_right (by decide) (by omega)
    have h2 : n < 256 ^ (31 - t) := Nat.lt_of_lt_of_le hw h1
    have h3 : ((n : Nat) : Int) < ((256 ^ (31 - t) : Nat) : Int) := Int.ofNat_lt.2 h2
    rw [Int.natCast_pow] at h3
    exact h3
  rw [e]; rfl
theorem drop_ext {l m : List Int} {k : Nat} (hl : l.length = k + m.length) (h : ∀ i, i < m.length → l.getD (k + i) 0 = m.getD i 0) : l.drop k = m := by
  refine List.ext_getElem (by rw [List.length_drop]; omega) fun i h1 h2 => ?_
  have := h i h2
  rw [List.getElem_drop]
  rwa [List.getD, List.getD, List.getElem?_eq_getElem (by omega), List.getElem?_eq_getElem h2] at this
theorem strip_be {n : Nat} (h0 : 0 < n) (h1 : n < 16777216) : stripL (putL (n : Int)) = beN n := by
  have hl := putL_len (n : Int)
  have d31 := put_at n (t := 31) (by decide)
  have d30 := put_at n (t := 30) (by decide)
  have d29 := put_at n (t := 29) (by decide)
  simp only [show 31 - 31 = 0 from rfl, show 31 - 30 = 1 from rfl, show 31 - 29 = 2 from rfl, Int.pow_zero, Int.pow_one, show (256 : Int) ^ 2 = 65536 from rfl, Int.ediv_one] at d31 d30 d29
  unfold beN
  by_cases k1 : n < 256
  · rw [if_pos k1]
    rw [strip_zeros 31 _ (fun t ht => put_low (w := 1) (by simpa using k1) (by omega)) (fun _ => by rw [d31]; omega) (by omega)]
    refine drop_ext (by rw [hl]; rfl) fun i hi => ?_
    obtain rfl : i = 0 := by simpa using hi
    rw [d31]; show _ = (n : Int); omega
  · rw [if_neg k1]
    by_cases k2 : n < 65536
    · rw [if_pos k2]
      rw [strip_zeros 30 _ (fun t ht => put_low (w := 2) (by simpa using k2) (by omega)) (fun _ => by rw [d30]; omega) (by omega)]
      refine drop_ext (by rw [hl]; rfl) fun i hi => ?_
      have hi' : i < 2 := hi
      have : i = 0 ∨ i = 1 := by omega
      rcases this with rfl | rfl
      · rw [d30]; show _ = (n : Int) / 256; omega
      · rw [d31]; rfl
    · rw [if_neg k2]
      rw [strip_zeros 29 _ (fun t ht => put_low (w := 3) (by simpa using h1) (by omega)) (fun _ => by rw [d29]; omega) (by omega)]
      refine drop_ext (by rw [hl]; rfl) fun i hi => ?_
      have hi' : i < 3 := hi
      have : i = 0 ∨ i = 1 ∨ i = 2 := by omega
      rcases this with rfl | rfl | rfl
      · rw [d29]; show _ = (n : Int) / 65536; omega
      · rw [d30]; rfl
      · rw [d31]; rfl
theorem bl_le {n k : Nat} (h : n < 2 ^ k) (hk : k ≤ 64) : Lib.bitLen n ≤ k := Lib.bitLen_le n k hk h
theorem bl_ge {n k : Nat} (h : 2 ^ k ≤ n) (hn : n < 2 ^ 64) : k < Lib.bitLen n := by
  have h0 : n ≠ 0 := by have := Nat.one_le_two_pow (n := k); omega
  have := (Lib.bitLenAux_bounds 64 n hn h0).2.2
  have e : n < 2 ^ Lib.bitLen n := this
  exact (Nat.pow_lt_pow_iff_right (by decide : 1 < 2)).1 (Nat.lt_of_le_of_lt h e)
theorem lsize {n : Nat} (h0 : 0 < n) (h1 : n < 16777216) : (Lib.bitLen n + 7) / 8 = (beN n).length := by
  unfold beN
  have a0 := bl_ge (k := 0) (n := n) (by rw [Nat.pow_zero]; exact h0) (by omega)
  by_cases k1 : n < 256
  · rw [if_pos k1]
    have a1 := bl_le (k := 8) (n := n) (by simpa using k1) (by decide)
    show _ = 1
    omega
  · rw [if_neg k1]
    have a1 := bl_ge (k := 8) (n := n) (by simp; omega) (by omega)
    by_cases k2 : n < 65536
    · rw [if_pos k2]
      have a2 := bl_le (k := 16) (n := n) (by simpa using k2) (by decide)
      show _ = 2
      omega
    · rw [if_neg k2]
      have a2 := bl_ge (k := 16) (n := n) (by simp; omega) (by omega)
      have a3 := bl_le (k := 24) (n := n) (by simpa using h1) (by decide)
      show _ = 3
      omega
theorem lengthSize_any {n : Nat} (h0 : 0 < n) (h1 : n < 16777216) (w : World) :
    Calls Try.prog 81 #[.int .i64 (n : Int)] w fun e w' => e = .returned (.int .i64 ((beN n).length : Int)) ∧ w' = w := by
  have c := Try.bits_Len (n : Int)
  have e := lsize h0 h1
  have hb := bl_le (k := 24) (n := n) (by simpa using h1) (by decide)
  have e2 : ((Lib.bitLen n : Int) + 7).tdiv 8 = ((beN n).length : Int) := by
    rw [Int.tdiv_eq_ediv_of_nonneg (by omega)]; omega
  have e3 : ((Lib.bitLen n : Int) + 7) / 8 = ((beN n).length : Int) := by omega
  have c2 : ∀ w, Calls Try.prog 82 #[.int .u64 (n : Int)] w fun e w' => e = .returned (.int .i64 (Lib.bitLen n : Int)) ∧ w' = w := fun w => by
    have := c w (by omega) (by omega)
    rwa [Int.toNat_natCast] at this
  have hn1 : (n : Int) < 16777216 := by omega
  have hb' : (Lib.bitLen n : Int) ≤ 24 := by omega
  clear e c hb
  generalize Lib.bitLen n = bl at *
  generalize (beN n).length = r at *
  go_enter Try.func81, Try.ntmps81
  go_wp2_with ((with_reducible refine (c2 _).mono ?_); rintro e1 w1 ⟨rfl, hw⟩; (rw [hw]); (clear hw w1))
  simp [bodyPost, results, Try.results81, go_sem]
  all_goals first | exact e3 | exact e2 | omega
theorem headSize_any {n : Nat} (h1 : n < 16777216) (w : World) :
    Calls Try.prog 69 #[.int .i64 (n : Int)] w fun e w' => e = .returned (.int .i64 ((hdR 192 n).length : Int)) ∧ w' = w := by
  by_cases k : n ≤ 55
  · have hk : (n : Int) ≤ 55 := by omega
    have e : (hdR 192 n).length = 1 := by unfold hdR; rw [if_pos k]; rfl
    rw [e]
    go_enter Try.func69, Try.ntmps69
    go_wp2
    simp [bodyPost, results, Try.results69, go_sem]
  · have hk : ¬ ((n : Int) ≤ 55) := by omega
    have c := lengthSize_any (n := n) (by omega) h1
    have e : (hdR 192 n).length = (beN n).length + 1 := by unfold hdR; rw [if_neg k]; rfl
    have hl := (beN_len n).2
    have hl' : ((beN n).length : Int) ≤ 3 := by omega
    rw [e]
    generalize (beN n).length = r at *
    clear e hl
    go_enter Try.func69, Try.ntmps69
    go_wp2_with ((with_reducible refine (c _).mono ?_); rintro e1 w1 ⟨rfl, hw⟩; (rw [hw]); (clear hw w1))
    simp [bodyPost, results, Try.results69, go_sem]
    omega
end Go.Proofs.Ytaefmdofchjofaa

/- Layer 7: withHead, the document's before. -/
namespace Go.Proofs.Ytaefmdofchjofaa
open Go.RowKit Go.Sort

/-- The bytes that the loop writes. -/
theorem be_at (n : Nat) : ((beN n).length = 1 ∧ (beN n).getD 0 0 = n ∧ n < 256) ∨ ((beN n).length = 2 ∧ (beN n).getD 0 0 = (n : Int) / 256 ∧ (beN n).getD 1 0 = (n : Int) % 256 ∧ n < 65536) ∨ ((beN n).length = 3 ∧ (beN n).getD 0 0 = (n : Int) / 65536 ∧ (beN n).getD 1 0 = (n : Int) / 256 % 256 ∧ (beN n).getD 2 0 = (n : Int) % 256) := by
  unfold beN
  by_cases k1 : n < 256
  · rw [if_pos k1]; exact .inl ⟨rfl, rfl, k1⟩
  · rw [if_neg k1]
    by_cases k2 : n < 65536
    · rw [if_pos k2]; exact .inr (.inl ⟨rfl, rfl, rfl, k2⟩)
    · rw [if_neg k2]; exact .inr (.inr ⟨rfl, rfl, rfl, rfl⟩)
end Go.Proofs.Ytaefmdofchjofaa

/- Layer 7: append of a whole list; the document's before. -/
namespace Go.Proofs.Ytaefmdofchjofaa
open Go.RowKit Go.Sort

/-- append(v, x...): x any list that can be read. -/
theorem run_append_rd {B : Nat} {w : World} {v : Value} {a : Option Addr} {g p c : Nat} {P Q : List Int} {ty : TypeId} (h : OwnB B w v P) (ha : Az a g p Q) (hnc : a = none → c = 0) (hz : Bz w g p Q) (hl : P.length + Q.length < 140737488355000) (hB : B ≤ w.heap.size) :
    ∃ v' w', (Builtin.append_ #[29, 29] ty #[v, .slice a Q.length c]).run Try.prog w = .ok v' w' ∧ OwnB B w' v' (P ++ Q) ∧ w.grownBy w' v.ownBlock := by
  obtain ⟨i0, hi, hz0, hz1, hz2⟩ := info_parts info_byte
  have eo : ∀ {w' : World} {v' : Value}, w'.ownsRow B 5 1 v' (P.length + Q.length) (P.map (Value.int .u8) ++ Q.map (Value.int .u8)) → OwnB B w' v' (P ++ Q) := fun {w'} {v'} h => by
    rw [OwnB, List.length_append, List.map_append]; exact h
  by_cases q0 : Q = []
  · subst q0
    cases a with
    | none =>
      obtain rfl := hnc rfl
      exact ⟨v, w, run_append_owned_none (P := Try.prog) w B 29 ty 5 i0 1 Try.underlying29 hi v P.length _ h, by rw [List.append_nil]; exact h, World.grownBy.refl _ _⟩
    | some ad =>
      obtain ⟨v', w', hr, h2, h3, _, _⟩ := run_append_own_at (P := Try.prog) w B 29 ty 5 i0 (.int .u8 0) 1 1 Try.underlying29 hi hz0 hz1 hz2 rfl (by decide) v P.length _ h ad 0 c [] rfl (fun j u hu => by simp at hu) (fun u hu => by cases hu) (by unfold maxLen; simp at hl; omega) (by simp at hl; omega) hB
      exact ⟨v', w', hr, eo h2, h3⟩
  · obtain rfl : a = some ⟨g, p, none⟩ := ha.resolve_left q0
    obtain ⟨v', w', hr, h2, h3, _, _⟩ := run_append_own_at (P := Try.prog) w B 29 ty 5 i0 (.int .u8 0) 1 1 Try.underlying29 hi hz0 hz1 hz2 rfl (by decide) v P.length _ h ⟨g, p, none⟩ Q.length c (Q.map (Value.int .u8)) (by simp) (fun j u hu => by
      rw [List.getElem?_map] at hu
      obtain ⟨x, hx, rfl⟩ := Option.map_eq_some_iff.1 hu
      have hj : j < Q.length := (List.getElem?_eq_some_iff.1 hx).1
      rw [Addr.add_mid, hz j hj]
      simp [List.getD, hx]) (fun u hu => by obtain ⟨y, _, rfl⟩ := List.mem_map.1 hu; rfl) (by unfold maxLen; omega) (by omega) hB
    exact ⟨v', w', hr, eo h2, h3⟩
theorem wpList_append_rd {ops : Array Oper} {rest : List Oper} {o : Oper} {a : Act} {Q : Exit → Act → World → Prop} {w : World} {B : Nat} {v : Value} {sa : Option Addr} {g p c n : Nat} {P1 Q1 : List Int} (hgd : o.guard = none) (s t : Operand)
    (ho : o.op = .call { callee := .builtin .append, args := #[s, t], argTypes := #[29, 29] }) (hs : a.eval s = v) (hx : a.eval t = .slice sa n c) (hn : n = Q1.length)
    (h : OwnB B w v P1) (ha : Az sa g p Q1) (hnc : sa = none → c = 0) (hz : Bz w g p Q1) (hl : P1.length + Q1.length < 140737488355000) (hB : B ≤ w.heap.size)
    (hK : ∀ v' w', OwnB B w' v' (P1 ++ Q1) → w.grownBy w' v.ownBlock → wpList Try.prog ops Q rest (a.put o.dst v') w') :
    wpList Try.prog ops Q (o :: rest) a w := by
  subst hn
  refine wpList_plain hgd fun K hK2 => ?_
  obtain ⟨v', w', hr, h2, h3⟩ := run_append_rd (ty := o.type) (c := c) h ha hnc hz hl hB
  unfold Oper.wp execOp
  simp only [ho, resolve, invoke, builtin, Sem.run_bind, Sem.run_pure, Result.andThen_ok, List.map_toArray, List.map_cons, List.map_nil, hs, hx, hr]
  exact hK2 _ _ (hK v' w' h2 h3)
theorem rfrom_small {n : Nat} (h : n < 16777216) (w : World) : Calls Try.prog 38 #[.int .u64 (n : Int)] w fun e w' => e = .returned (.agg #[.int .u64 (l0 (n : Int)), .int .u64 (l1 (n : Int)), .int .u64 (l2 (n : Int)), .int .u64 (l3 (n : Int))]) ∧ Below w.heap.size w w' := by
  have e0 : l0 (n : Int) = n := by unfold l0; omega
  have e1 : l1 (n : Int) = 0 := by unfold l1; omega
  have e2 : l2 (n : Int) = 0 := by unfold l2; omega
  have e3 : l3 (n : Int) = 0 := by unfold l3; omega
  rw [e0, e1, e2, e3]
  clear e0 e1 e2 e3
  go_enter Try.func38, Try.ntmps38
  go_wp2
  simp [bodyPost, results, Try.results38, go_sem]
  repeat (first | with_reducible exact Below.refl _ _ | with_reducible refine Below.alloc ?_ (by first | omega | (simp; done) | (simp; omega)) _ | with_reducible refine Below.setCell ?_ (by first | omega | (simp; done)) _)
theorem own_one (w : World) (x : Int) : OwnB w.heap.size (w.alloc (.cells #[.int .u8 x] 5)) (.slice (some ⟨w.heap.size, 0, none⟩) 1 1) [x] := by
  refine ⟨rfl, .inr ⟨w.heap.size, 1, #[.int .u8 x], rfl, Nat.le_refl _, ?_, Nat.le_refl _, by unfold maxLen; decide, rfl, rfl⟩⟩
  show (w.heap.push _)[w.heap.size]? = _
  simp
set_option maxRecDepth 100000 in
set_option maxHeartbeats 4000000 in
theorem before_any {n : Nat} (hn2 : n < 16777216) (w : World) :
    Calls Try.prog 77 #[.int .i64 (n : Int), .int .i64 192] w fun e w' => ∃ v', e = .returned v' ∧ OwnB w.heap.size w' v' (hdR 192 n) ∧ Below w.heap.size w w' := by
  by_cases k : n ≤ 55
  · have hk : (n : Int) ≤ 55 := by omega
    have e : hdR 192 n = [192 + (n : Int)] := by unfold hdR; rw [if_pos k]
    rw [e]
    clear e
    go_enter Try.func77, Try.ntmps77
    go_wp2
    go_ret
    exact ⟨_, rfl, own_one w _, (Below.refl _ _).alloc (Nat.le_refl _) _⟩
  · have hk : ¬ ((n : Int) ≤ 55) := by omega
    have hn3 : (n : Int) < 16777216 := by omega
    have e : hdR 192 n = [192 + 55 + ((beN n).length : Int)] ++ beN n := by unfold hdR; rw [if_neg k]; rfl
    have FR : Hid (∀ w, Calls Try.prog 38 #[.int .u64 (n : Int)] w fun e w' => e = .returned (.agg #[.int .u64 (l0 (n : Int)), .int .u64 (l1 (n : Int)), .int .u64 (l2 (n : Int)), .int .u64 (l3 (n : Int))]) ∧ Below w.heap.size w w') := fun w => rfrom_small hn2 w
    have BY : Hid (∀ w, Calls Try.prog 39 #[.agg #[.int .u64 (l0 (n : Int)), .int .u64 (l1 (n : Int)), .int .u64 (l2 (n : Int)), .int .u64 (l3 (n : Int))]] w fun e w' => ∃ v, e = .returned v ∧ OwnB w.heap.size w' v (beN n) ∧ Below w.heap.size w w') := fun w => by
      have h := rbytes_any (n := (n : Int)) w
      rw [strip_be (by omega) hn2] at h
      exact h
    have hl := beN_len n
    rw [e]
    clear e
    generalize beN n = bn at *
    go_enter Try.func77, Try.ntmps77
    go_wp2_with fail
    with_reducible refine (FR.out w).mono ?_
    rintro e w1 ⟨rfl, b1⟩
    go_wp2_with fail
    with_reducible refine (BY.out w1).mono ?_
    rintro e w2 ⟨v2, rfl, o2, b2⟩
    replace b1 := b1.trans (b2.mono b1.size)
    obtain ⟨a2, g2, c2, rfl, q2, z2, y2, _, _, nc2⟩ := o2.lies
    have s2 := b2.size
    have hl3 : (bn.length : Int) ≤ 3 := by omega
    clear b2
    have b1' : ∀ ob, Below w.heap.size w (w2.alloc ob) := fun ob => b1.alloc b1.size ob
    have z2' : Hid (∀ ob, Bz (w2.alloc ob) g2 0 bn) := fun ob => y2.keep ((Below.refl _ _).alloc (Nat.le_refl _) ob)
    have O1 : Hid (∀ x : Int, OwnB w.heap.size (w2.alloc (.cells #[.int .u8 x] 5)) (.slice (some ⟨w2.heap.size, 0, none⟩) 1 1) [x]) := fun x => (own_one w2 x).base b1.size
    have HQ : Hid (Az a2 g2 0 bn ∧ bn.length ≤ 3 ∧ (a2 = none → c2 = 0) ∧ w.heap.size ≤ w2.heap.size) := ⟨z2, hl.2, nc2, b1.size⟩
    clear z2 y2 nc2 hl o2
    go_wp2_with ((refine wpList_append_rd rfl _ _ rfl rfl rfl rfl (O1.out _) HQ.out.1 HQ.out.2.2.1 (z2'.out _) (by have := HQ.out.2.1; simp; omega) (by have := HQ.out.2.2.2; simp; omega) ?_); intro v3 w3 o3 g3)
    go_ret
    exact ⟨_, rfl, o3, (b1' _).grown g3 (by have := HQ.out.2.2.2; simp; omega) (fun k hk => by cases hk; exact HQ.out.2.2.2)⟩
end Go.Proofs.Ytaefmdofchjofaa

/- Layer 7: the document's head: the long ones. -/
namespace Go.Proofs.Ytaefmdofchjofaa
open Go.RowKit Go.Sort
/-- A number's cells in a block. -/
def NmR (W : World) (b : Nat) (n : Int) : Prop := W.cell? ⟨b, 0, none⟩ = some (.int .u64 (l0 n)) ∧ W.cell? ⟨b, 1, none⟩ = some (.int .u64 (l1 n)) ∧ W.cell? ⟨b, 2, none⟩ = some (.int .u64 (l2 n)) ∧ W.cell? ⟨b, 3, none⟩ = some (.int .u64 (l3 n))
theorem NmR.other {W : World} {b b' i : Nat} {n : Int} (x : NmR W b n) (ne : b' ≠ b) (v : Value) : NmR (W.setCell ⟨b', i, none⟩ v) b n := by
  have hg := heap_setCell_other W ⟨b', i, none⟩ b v (fun e => ne e.symm)
  exact ⟨by rw [← x.1]; simp only [World.cell?, hg], by rw [← x.2.1]; simp only [World.cell?, hg], by rw [← x.2.2.1]; simp only [World.cell?, hg], by rw [← x.2.2.2]; simp only [World.cell?, hg]⟩
theorem NmR.keep {W w1 : World} {b : Nat} {n : Int} (h : NmR W b n) (hb : Below W.heap.size W w1) : NmR w1 b n := ⟨keepC hb h.1, keepC hb h.2.1, keepC hb h.2.2.1, keepC hb h.2.2.2⟩
end Go.Proofs.Ytaefmdofchjofaa

/- Layer 7: the document's head of any bytes. -/
namespace Go.Proofs.Ytaefmdofchjofaa
open Go.RowKit Go.Sort
theorem gpre_len (X : List Int) : ∀ i, i ≤ X.length → gpreN X i = lenQ X i * 256 ^ (X.length - i)
  | 0, _ => by simp [gpreN, lenQ]
  | i + 1, h => by
    rw [gpreN, gpre_len X i (by omega), lenQ]
    obtain ⟨k, hk⟩ : ∃ k, X.length - i = k + 1 := ⟨X.length - i - 1, by omega⟩
    rw [hk, show X.length - 1 - i = k by omega, show X.length - (i + 1) = k by omega, Int.pow_succ, Int.add_mul]
    congr 1
    rw [← Int.mul_assoc, Int.mul_right_comm]
theorem suf_len (X : List Int) : sufN X X.length = lenQ X X.length := by
  rw [← pre_all, gpre_len X _ (Nat.le_refl _), Nat.sub_self]; simp
theorem lenQ_take (X : List Int) {n : Nat} : ∀ k, k ≤ n → lenQ (X.take n) k = lenQ X k
  | 0, _ => rfl
  | k + 1, h => by
    rw [lenQ, lenQ, lenQ_take X k (by omega)]
    congr 1
    simp [List.getD, show k < n by omega]
theorem pow8 {n : Nat} (h : n ≤ 8) : (256 : Int) ^ n ≤ 18446744073709551616 := by
  have : n = 0 ∨ n = 1 ∨ n = 2 ∨ n = 3 ∨ n = 4 ∨ n = 5 ∨ n = 6 ∨ n = 7 ∨ n = 8 := by omega
  rcases this with rfl | rfl | rfl | rfl | rfl | rfl | rfl | rfl | rfl <;> decide
/-- What the document's head answers. -/
def hdV (p : Nat) (x : Bool × Nat × Nat × Int) : Value := if x.2.2.2 = 0 then .tuple #[.agg #[.bool x.1, .int .i64 ((p : Int) + (x.2.1 : Int)), .int .i64 ((p : Int) + (x.2.1 : Int) + (x.2.2.1 : Int))], .int .i64 0] else .tuple #[.agg #[.bool false, .int .i64 0, .int .i64 0], .int .i64 x.2.2.2]
theorem hdV_err {p : Nat} {l : Bool} {s h : Nat} {e : Int} (k : e ≠ 0) : hdV p (l, s, h, e) = .tuple #[.agg #[.bool false, .int .i64 0, .int .i64 0], .int .i64 e] := if_neg k
theorem hdV_ok {p : Nat} {l : Bool} {s h : Nat} : hdV p (l, s, h, 0) = .tuple #[.agg #[.bool l, .int .i64 ((p : Int) + (s : Int)), .int .i64 ((p : Int) + (s : Int) + (h : Int))], .int .i64 0] := if_pos rfl
theorem getD_dropR (A : List Int) (p i : Nat) : (A.drop p).getD i 0 = A.getD (p + i) 0 := by
  simp [List.getD, List.getElem?_drop]
end Go.Proofs.Ytaefmdofchjofaa

/- Layer 7: the document's bytes and Split. -/
namespace Go.Proofs.Ytaefmdofchjofaa
open Go.RowKit Go.Sort
theorem own_nil0 (B : Nat) (w : World) : OwnB B w (.slice none 0 0) [] := ⟨rfl, .inl ⟨rfl, rfl⟩⟩
set_option maxHeartbeats 4000000 in
theorem r7bytes_any {X : List Int} {a : Option Addr} {g p c n : Nat} (hn : n = X.length) (hl : X.length < 140737488355000) (ha : Az a g p X) (hnc : a = none → c = 0) (w : World) (hz : Bz w g p X) :
    Calls Try.prog 40 #[.slice a n c] w fun e w' => ∃ v, e = .returned v ∧ OwnB w.heap.size w' v X ∧ Below w.heap.size w w' := by
  have HQ : Hid (n = X.length ∧ X.length < 140737488355000 ∧ Az a g p X ∧ (a = none → c = 0) ∧ Bz w g p X) := ⟨hn, hl, ha, hnc, hz⟩
  clear hn hl ha hnc hz
  go_enter Try.func40, Try.ntmps40
  go_wp2_with ((at_builtin; refine wpList_append_rd rfl _ _ rfl rfl rfl HQ.out.1 (own_nil0 w.heap.size w) HQ.out.2.2.1 HQ.out.2.2.2.1 HQ.out.2.2.2.2 (by have := HQ.out.2.1; simp; omega) (Nat.le_refl _) ?_); intro v3 w3 o3 g3)
  go_ret
  exact ⟨_, rfl, by simpa using o3, (Below.refl _ _).grown g3 (Nat.le_refl _) (fun k hk => by cases hk)⟩
end Go.Proofs.Ytaefmdofchjofaa

/- Layer 7: the document's head, of a room within the bytes: the short ones. -/
namespace Go.Proofs.Ytaefmdofchjofaa
open Go.RowKit Go.Sort
set_option maxRecDepth 100000 in
set_option maxHeartbeats 4000000 in
theorem rv_empty {a : Option Addr} {m mm c : Nat} (w : World) :
    Calls Try.prog 64 #[.slice a mm c, .int .i64 (m : Int), .int .i64 (m : Int)] w fun e w' => e = .returned (.tuple #[.agg #[.bool false, .int .i64 0, .int .i64 0], .int .i64 70]) ∧ Below w.heap.size w w' := by
  have b1 : decide ((m : Int) ≤ (m : Int)) = true := decide_eq_true (by omega)
  go_enter Try.func64, Try.ntmps64
  go_wp2
  simp [bodyPost, results, Try.results64, go_sem]
  repeat (first | with_reducible exact Below.refl _ _ | with_reducible refine Below.setCell ?_ (Nat.le_refl _) _ | with_reducible refine Below.alloc ?_ (Nat.le_refl _) _)
set_option maxRecDepth 100000 in
set_option maxHeartbeats 4000000 in
theorem rv_low {b o c m p : Nat} {f : Int} {mm : Nat} (hmm : m ≤ mm) (hp : p < m) (hm : m ≤ 16777216) (hf0 : 0 ≤ f) (hf : f < 128) (w : World) (h : w.cell? ⟨b, o + p, none⟩ = some (.int .u8 f)) :
    Calls Try.prog 64 #[.slice (some ⟨b, o, none⟩) mm c, .int .i64 (p : Int), .int .i64 (m : Int)] w fun e w' => e = .returned (.tuple #[.agg #[.bool false, .int .i64 (p : Int), .int .i64 ((p : Int) + 1)], .int .i64 0]) ∧ Below w.heap.size w w' := by
  have b1 : decide ((m : Int) ≤ (p : Int)) = false := decide_eq_false (by omega)
  have b2 : (p : Int) < (m : Int) := by omega
  have b2m : (p : Int) < (mm : Int) := by omega
  have HMM : Hid (m ≤ mm) := hmm
  clear hmm
  have b3 : (m : Int) ≤ 16777216 := by omega
  have g := fun ob => keepC ((Below.refl w.heap.size w).alloc (Nat.le_refl _) ob) h
  clear hp hm h
  go_enter Try.func64, Try.ntmps64
  go_wp2
  simp [bodyPost, results, Try.results64, go_sem]
  repeat (first | with_reducible exact Below.refl _ _ | with_reducible refine Below.setCell ?_ (Nat.le_refl _) _ | with_reducible refine Below.alloc ?_ (Nat.le_refl _) _)
set_option maxRecDepth 100000 in
set_option maxHeartbeats 4000000 in
theorem rv_short {b o c m p q : Nat} {f : Int} {l t : Bool} {r : Value} {mm : Nat} (hmm : m ≤ mm) (hp : p < m) (hm : m ≤ 16777216) (hc : m ≤ c) (f0 : 128 ≤ f) (f1 : f < 256) (hl : decide (192 ≤ f) = l) (t1 : f % 64 = (q : Int)) (hq : q ≤ 55) (w : World) (h : w.cell? ⟨b, o + p, none⟩ = some (.int .u8 f))
    (ht : l = false → q = 1 → p + 1 < m → ∃ y, w.cell? ⟨b, o + (p + 1), none⟩ = some (.int .u8 y) ∧ decide (y < 128) = t)
    (hr : r = if m < p + 1 + q then .tuple #[.agg #[.bool false, .int .i64 0, .int .i64 0], .int .i64 70] else if l = false ∧ q = 1 ∧ t = true then .tuple #[.agg #[.bool false, .int .i64 0, .int .i64 0], .int .i64 71] else .tuple #[.agg #[.bool l, .int .i64 ((p : Int) + 1), .int .i64 ((p : Int) + 1 + (q : Int))], .int .i64 0]) :
    Calls Try.prog 64 #[.slice (some ⟨b, o, none⟩) mm c, .int .i64 (p : Int), .int .i64 (m : Int)] w fun e w' => e = .returned r ∧ Below w.heap.size w w' := by
  have b1 : decide ((m : Int) ≤ (p : Int)) = false := decide_eq_false (by omega)
  have b2 : (p : Int) < (m : Int) := by omega
  have b2m : (p : Int) < (mm : Int) := by omega
  have HMM : Hid (m ≤ mm) := hmm
  clear hmm
  have b3 : (m : Int) ≤ 16777216 := by omega
  have b4 : decide (f < 128) = false := decide_eq_false (by omega)
  have b5 : decide (55 < (q : Int)) = false := decide_eq_false (by omega)
  have b6 : (q : Int) ≤ 55 := by omega
  have wf : wrap64 f = f := by unfold wrap64; omega
  have t2 : f.tmod 64 = (q : Int) := by rw [Int.tmod_eq_emod_of_nonneg (by omega)]; exact t1
  have g := fun ob => keepC ((Below.refl w.heap.size w).alloc (Nat.le_refl _) ob) h
  have e1 : ((p : Int) + 1).toNat = p + 1 := by omega
  have HP : Hid (p < m ∧ m ≤ 16777216 ∧ m ≤ c ∧ q ≤ 55) := ⟨hp, hm, hc, hq⟩
  have HT : Hid (l = false → q = 1 → p + 1 < m → ∃ y, w.cell? ⟨b, o + (p + 1), none⟩ = some (.int .u8 y) ∧ decide (y < 128) = t) := ht
  have o1 : w.heap.size ≤ w.heap.size + 1 := by omega
  have hne : w.heap.size + 1 ≠ w.heap.size := by omega
  clear h t1 hp hm hc hq ht
  by_cases k1 : m < p + 1 + q
  · rw [if_pos k1] at hr
    have d1 : decide ((m : Int) - ((p : Int) + 1) < (q : Int)) = true := decide_eq_true (by omega)
    subst hr
    go_enter Try.func64, Try.ntmps64
    go_wp2
    simp [bodyPost, results, Try.results64, go_sem]
    repeat (first | with_reducible exact Below.refl _ _ | with_reducible refine Below.setCell ?_ (Nat.le_refl _) _ | with_reducible refine Below.setCell ?_ o1 _ | with_reducible refine Below.alloc ?_ (Nat.le_refl _) _ | with_reducible refine Below.alloc ?_ (by simp) _)
  rw [if_neg k1] at hr
  have d1 : decide ((m : Int) - ((p : Int) + 1) < (q : Int)) = false := decide_eq_false (by omega)
  cases l
  · by_cases q1 : q = 1
    · subst q1
      obtain ⟨y, gy, ty⟩ := HT.out rfl rfl (by have := HP.out; omega)
      have g2 := fun ob1 ob2 => keepC (((Below.refl w.heap.size w).alloc (Nat.le_refl _) ob1).alloc (by simp) ob2) gy
      have b7 : (p : Int) + 1 < (m : Int) := by have := HP.out; omega
      have b7m : (p : Int) + 1 < (mm : Int) := by have := HMM.out; omega
      have lt : b < w.heap.size := World.block_lt_of_cell? w _ gy
      have nb : w.heap.size + 1 ≠ b := by omega
      have nb2 : w.heap.size ≠ b := by omega
      clear gy HT HP
      cases t
      · rw [if_neg (by simp)] at hr
        subst hr
        go_enter Try.func64, Try.ntmps64
        go_wp2
        simp [bodyPost, results, Try.results64, go_sem]
        repeat (first | with_reducible exact Below.refl _ _ | with_reducible refine Below.setCell ?_ (Nat.le_refl _) _ | with_reducible refine Below.setCell ?_ o1 _ | with_reducible refine Below.alloc ?_ (Nat.le_refl _) _ | with_reducible refine Below.alloc ?_ (by simp) _)
      · rw [if_pos ⟨rfl, rfl, rfl⟩] at hr
        subst hr
        go_enter Try.func64, Try.ntmps64
        go_wp2
        simp [bodyPost, results, Try.results64, go_sem]
        repeat (first | with_reducible exact Below.refl _ _ | with_reducible refine Below.setCell ?_ (Nat.le_refl _) _ | with_reducible refine Below.setCell ?_ o1 _ | with_reducible refine Below.alloc ?_ (Nat.le_refl _) _ | with_reducible refine Below.alloc ?_ (by simp) _)
    · rw [if_neg (fun x => q1 x.2.1)] at hr
      have qb : ((q : Int) == 1) = false := by simp; omega
      clear HT HP
      subst hr
      go_enter Try.func64, Try.ntmps64
      go_wp2
      simp [bodyPost, results, Try.results64, go_sem]
      repeat (first | with_reducible exact Below.refl _ _ | with_reducible refine Below.setCell ?_ (Nat.le_refl _) _ | with_reducible refine Below.setCell ?_ o1 _ | with_reducible refine Below.alloc ?_ (Nat.le_refl _) _ | with_reducible refine Below.alloc ?_ (by simp) _)
  · rw [if_neg (fun x => by cases x.1)] at hr
    clear HT HP
    subst hr
    go_enter Try.func64, Try.ntmps64
    go_wp2
    simp [bodyPost, results, Try.results64, go_sem]
    repeat (first | with_reducible exact Below.refl _ _ | with_reducible refine Below.setCell ?_ (Nat.le_refl _) _ | with_reducible refine Below.setCell ?_ o1 _ | with_reducible refine Below.alloc ?_ (Nat.le_refl _) _ | with_reducible refine Below.alloc ?_ (by simp) _)
end Go.Proofs.Ytaefmdofchjofaa
