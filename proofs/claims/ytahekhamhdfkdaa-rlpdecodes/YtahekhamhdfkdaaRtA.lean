import Derived.Test.YtahekhamhdfkdaaRsG
import Derived.Test.YtahekhamhdfkdaaRefCmp
import Derived.Test.YtahekhamhdfkdaaRjF
/- Layer 7: the document's head: the short ones. -/
namespace Go.Proofs.Ytahekhamhdfkdaa
open Go.RowKit Go.Sort
end Go.Proofs.Ytahekhamhdfkdaa

/- Layer 7: the document's head: the long ones. -/
namespace Go.Proofs.Ytahekhamhdfkdaa
open Go.RowKit Go.Sort
/-- A number's cells in a block. -/
def NmR (W : World) (b : Nat) (n : Int) : Prop := W.cell? ⟨b, 0, none⟩ = some (.int .u64 (l0 n)) ∧ W.cell? ⟨b, 1, none⟩ = some (.int .u64 (l1 n)) ∧ W.cell? ⟨b, 2, none⟩ = some (.int .u64 (l2 n)) ∧ W.cell? ⟨b, 3, none⟩ = some (.int .u64 (l3 n))
theorem NmR.other {W : World} {b b' i : Nat} {n : Int} (x : NmR W b n) (ne : b' ≠ b) (v : Value) : NmR (W.setCell ⟨b', i, none⟩ v) b n := by
  have hg := heap_setCell_other W ⟨b', i, none⟩ b v (fun e => ne e.symm)
  exact ⟨by rw [← x.1]; simp only [World.cell?, hg], by rw [← x.2.1]; simp only [World.cell?, hg], by rw [← x.2.2.1]; simp only [World.cell?, hg], by rw [← x.2.2.2]; simp only [World.cell?, hg]⟩
theorem NmR.keep {W w1 : World} {b : Nat} {n : Int} (h : NmR W b n) (hb : Below W.heap.size W w1) : NmR w1 b n := ⟨keepC hb h.1, keepC hb h.2.1, keepC hb h.2.2.1, keepC hb h.2.2.2⟩
end Go.Proofs.Ytahekhamhdfkdaa

/- Layer 7: the document's head of any bytes. -/
namespace Go.Proofs.Ytahekhamhdfkdaa
open Go.RowKit Go.Sort
theorem gpre_len (X : List Int) : ∀ i, i ≤ X.length → gpreN X i = lenQ X i * 256 ^ (X.length - i)
  | 0, _ => by simp [gpreN, lenQ]
  | i + 1, h => by
    rw [gpreN, gpre_len X i (by omega), lenQ]
    obtain ⟨k, hk⟩ : ∃ k, X.length - i = k + 1 := ⟨X.length - i - 1, by omega⟩
    rw [hk, show X.length - 1 - i = k by omega, show X.length - (i + 1) = k by omega, Int.pow_succ, Int.add_mul]
    congr 1
    rw [← Int.mul_assoc, Int.mul_right_comm]
theorem suf_len (X : List Int) : sufN X X.length = lenQ X X.length := by
  rw [← pre_all, gpre_len X _ (Nat.le_refl _), Nat.sub_self]; simp
theorem lenQ_take (X : List Int) {n : Nat} : ∀ k, k ≤ n → lenQ (X.take n) k = lenQ X k
  | 0, _ => rfl
  | k + 1, h => by
    rw [lenQ, lenQ, lenQ_take X k (by omega)]
    congr 1
    simp [List.getD, show k < n by omega]
theorem pow8 {n : Nat} (h : n ≤ 8) : (256 : Int) ^ n ≤ 18446744073709551616 := by
  have : n = 0 ∨ n = 1 ∨ n = 2 ∨ n = 3 ∨ n = 4 ∨ n = 5 ∨ n = 6 ∨ n = 7 ∨ n = 8 := by omega
  rcases this with rfl | rfl | rfl | rfl | rfl | rfl | rfl | rfl | rfl <;> decide
/-- What the document's head answers. -/
def hdV (p : Nat) (x : Bool × Nat × Nat × Int) : Value := if x.2.2.2 = 0 then .tuple #[.agg #[.bool x.1, .int .i64 ((p : Int) + (x.2.1 : Int)), .int .i64 ((p : Int) + (x.2.1 : Int) + (x.2.2.1 : Int))], .int .i64 0] else .tuple #[.agg #[.bool false, .int .i64 0, .int .i64 0], .int .i64 x.2.2.2]
theorem hdV_err {p : Nat} {l : Bool} {s h : Nat} {e : Int} (k : e ≠ 0) : hdV p (l, s, h, e) = .tuple #[.agg #[.bool false, .int .i64 0, .int .i64 0], .int .i64 e] := if_neg k
theorem hdV_ok {p : Nat} {l : Bool} {s h : Nat} : hdV p (l, s, h, 0) = .tuple #[.agg #[.bool l, .int .i64 ((p : Int) + (s : Int)), .int .i64 ((p : Int) + (s : Int) + (h : Int))], .int .i64 0] := if_pos rfl
theorem getD_dropR (A : List Int) (p i : Nat) : (A.drop p).getD i 0 = A.getD (p + i) 0 := by
  simp [List.getD, List.getElem?_drop]
end Go.Proofs.Ytahekhamhdfkdaa

/- Layer 7: the document's bytes and Split. -/
namespace Go.Proofs.Ytahekhamhdfkdaa
open Go.RowKit Go.Sort
theorem own_nil0 (B : Nat) (w : World) : OwnB B w (.slice none 0 0) [] := ⟨rfl, .inl ⟨rfl, rfl⟩⟩
set_option maxHeartbeats 4000000 in
theorem r7bytes_any {X : List Int} {a : Option Addr} {g p c n : Nat} (hn : n = X.length) (hl : X.length < 140737488355000) (ha : Az a g p X) (hnc : a = none → c = 0) (w : World) (hz : Bz w g p X) :
    Calls Try.prog 42 #[.slice a n c] w fun e w' => ∃ v, e = .returned v ∧ OwnB w.heap.size w' v X ∧ Below w.heap.size w w' := by
  have HQ : Hid (n = X.length ∧ X.length < 140737488355000 ∧ Az a g p X ∧ (a = none → c = 0) ∧ Bz w g p X) := ⟨hn, hl, ha, hnc, hz⟩
  clear hn hl ha hnc hz
  go_enter Try.func42, Try.ntmps42
  go_wp2_with ((at_builtin; refine wpList_append_rd rfl _ _ rfl rfl rfl HQ.out.1 (own_nil0 w.heap.size w) HQ.out.2.2.1 HQ.out.2.2.2.1 HQ.out.2.2.2.2 (by have := HQ.out.2.1; simp; omega) (Nat.le_refl _) ?_); intro v3 w3 o3 g3)
  go_ret
  exact ⟨_, rfl, by simpa using o3, (Below.refl _ _).grown g3 (Nat.le_refl _) (fun k hk => by cases hk)⟩
end Go.Proofs.Ytahekhamhdfkdaa

/- Layer 7: the document's Parts. -/
namespace Go.Proofs.Ytahekhamhdfkdaa
open Go.RowKit Go.Sort
end Go.Proofs.Ytahekhamhdfkdaa

/- Layer 7: the law RlpSplits. -/
namespace Go.Proofs.Ytahekhamhdfkdaa
open Go.RowKit Go.Sort
theorem OwnB.tz {B : Nat} {W : World} {v : Value} {X : List Int} (h : OwnB B W v X) : Tz W v X := by
  obtain ⟨a, g, c, e, q1, q2, q3, q4, q5, q6⟩ := h.lies
  exact ⟨a, g, 0, c, e, q1, q2, q6, q3⟩
end Go.Proofs.Ytahekhamhdfkdaa

/- Layer 7: the document's head, of a room within the bytes: the short ones. -/
namespace Go.Proofs.Ytahekhamhdfkdaa
open Go.RowKit Go.Sort
set_option maxRecDepth 100000 in
set_option maxHeartbeats 4000000 in
theorem rv_empty {a : Option Addr} {m mm c : Nat} (w : World) :
    Calls Try.prog 50 #[.slice a mm c, .int .i64 (m : Int), .int .i64 (m : Int)] w fun e w' => e = .returned (.tuple #[.agg #[.bool false, .int .i64 0, .int .i64 0], .int .i64 70]) ∧ Below w.heap.size w w' := by
  have b1 : decide ((m : Int) ≤ (m : Int)) = true := decide_eq_true (by omega)
  go_enter Try.func50, Try.ntmps50
  go_wp2
  simp [bodyPost, results, Try.results50, go_sem]
  repeat (first | with_reducible exact Below.refl _ _ | with_reducible refine Below.setCell ?_ (Nat.le_refl _) _ | with_reducible refine Below.alloc ?_ (Nat.le_refl _) _)
set_option maxRecDepth 100000 in
set_option maxHeartbeats 4000000 in
theorem rv_low {b o c m p : Nat} {f : Int} {mm : Nat} (hmm : m ≤ mm) (hp : p < m) (hm : m ≤ 16777216) (hf0 : 0 ≤ f) (hf : f < 128) (w : World) (h : w.cell? ⟨b, o + p, none⟩ = some (.int .u8 f)) :
    Calls Try.prog 50 #[.slice (some ⟨b, o, none⟩) mm c, .int .i64 (p : Int), .int .i64 (m : Int)] w fun e w' => e = .returned (.tuple #[.agg #[.bool false, .int .i64 (p : Int), .int .i64 ((p : Int) + 1)], .int .i64 0]) ∧ Below w.heap.size w w' := by
  have b1 : decide ((m : Int) ≤ (p : Int)) = false := decide_eq_false (by omega)
  have b2 : (p : Int) < (m : Int) := by omega
  have b2m : (p : Int) < (mm : Int) := by omega
  have HMM : Hid (m ≤ mm) := hmm
  clear hmm
  have b3 : (m : Int) ≤ 16777216 := by omega
  have g := fun ob => keepC ((Below.refl w.heap.size w).alloc (Nat.le_refl _) ob) h
  clear hp hm h
  go_enter Try.func50, Try.ntmps50
  go_wp2
  simp [bodyPost, results, Try.results50, go_sem]
  repeat (first | with_reducible exact Below.refl _ _ | with_reducible refine Below.setCell ?_ (Nat.le_refl _) _ | with_reducible refine Below.alloc ?_ (Nat.le_refl _) _)
set_option maxRecDepth 100000 in
set_option maxHeartbeats 4000000 in
theorem rv_short {b o c m p q : Nat} {f : Int} {l t : Bool} {r : Value} {mm : Nat} (hmm : m ≤ mm) (hp : p < m) (hm : m ≤ 16777216) (hc : m ≤ c) (f0 : 128 ≤ f) (f1 : f < 256) (hl : decide (192 ≤ f) = l) (t1 : f % 64 = (q : Int)) (hq : q ≤ 55) (w : World) (h : w.cell? ⟨b, o + p, none⟩ = some (.int .u8 f))
    (ht : l = false → q = 1 → p + 1 < m → ∃ y, w.cell? ⟨b, o + (p + 1), none⟩ = some (.int .u8 y) ∧ decide (y < 128) = t)
    (hr : r = if m < p + 1 + q then .tuple #[.agg #[.bool false, .int .i64 0, .int .i64 0], .int .i64 70] else if l = false ∧ q = 1 ∧ t = true then .tuple #[.agg #[.bool false, .int .i64 0, .int .i64 0], .int .i64 71] else .tuple #[.agg #[.bool l, .int .i64 ((p : Int) + 1), .int .i64 ((p : Int) + 1 + (q : Int))], .int .i64 0]) :
    Calls Try.prog 50 #[.slice (some ⟨b, o, none⟩) mm c, .int .i64 (p : Int), .int .i64 (m : Int)] w fun e w' => e = .returned r ∧ Below w.heap.size w w' := by
  have b1 : decide ((m : Int) ≤ (p : Int)) = false := decide_eq_false (by omega)
  have b2 : (p : Int) < (m : Int) := by omega
  have b2m : (p : Int) < (mm : Int) := by omega
  have HMM : Hid (m ≤ mm) := hmm
  clear hmm
  have b3 : (m : Int) ≤ 16777216 := by omega
  have b4 : decide (f < 128) = false := decide_eq_false (by omega)
  have b5 : decide (55 < (q : Int)) = false := decide_eq_false (by omega)
  have b6 : (q : Int) ≤ 55 := by omega
  have wf : wrap64 f = f := by unfold wrap64; omega
  have t2 : f.tmod 64 = (q : Int) := by rw [Int.tmod_eq_emod_of_nonneg (by omega)]; exact t1
  have g := fun ob => keepC ((Below.refl w.heap.size w).alloc (Nat.le_refl _) ob) h
  have e1 : ((p : Int) + 1).toNat = p + 1 := by omega
  have HP : Hid (p < m ∧ m ≤ 16777216 ∧ m ≤ c ∧ q ≤ 55) := ⟨hp, hm, hc, hq⟩
  have HT : Hid (l = false → q = 1 → p + 1 < m → ∃ y, w.cell? ⟨b, o + (p + 1), none⟩ = some (.int .u8 y) ∧ decide (y < 128) = t) := ht
  have o1 : w.heap.size ≤ w.heap.size + 1 := by omega
  have hne : w.heap.size + 1 ≠ w.heap.size := by omega
  clear h t1 hp hm hc hq ht
  by_cases k1 : m < p + 1 + q
  · rw [if_pos k1] at hr
    have d1 : decide ((m : Int) - ((p : Int) + 1) < (q : Int)) = true := decide_eq_true (by omega)
    subst hr
    go_enter Try.func50, Try.ntmps50
    go_wp2
    simp [bodyPost, results, Try.results50, go_sem]
    repeat (first | with_reducible exact Below.refl _ _ | with_reducible refine Below.setCell ?_ (Nat.le_refl _) _ | with_reducible refine Below.setCell ?_ o1 _ | with_reducible refine Below.alloc ?_ (Nat.le_refl _) _ | with_reducible refine Below.alloc ?_ (by simp) _)
  rw [if_neg k1] at hr
  have d1 : decide ((m : Int) - ((p : Int) + 1) < (q : Int)) = false := decide_eq_false (by omega)
  cases l
  · by_cases q1 : q = 1
    · subst q1
      obtain ⟨y, gy, ty⟩ := HT.out rfl rfl (by have := HP.out; omega)
      have g2 := fun ob1 ob2 => keepC (((Below.refl w.heap.size w).alloc (Nat.le_refl _) ob1).alloc (by simp) ob2) gy
      have b7 : (p : Int) + 1 < (m : Int) := by have := HP.out; omega
      have b7m : (p : Int) + 1 < (mm : Int) := by have := HMM.out; omega
      have lt : b < w.heap.size := World.block_lt_of_cell? w _ gy
      have nb : w.heap.size + 1 ≠ b := by omega
      have nb2 : w.heap.size ≠ b := by omega
      clear gy HT HP
      cases t
      · rw [if_neg (by simp)] at hr
        subst hr
        go_enter Try.func50, Try.ntmps50
        go_wp2
        simp [bodyPost, results, Try.results50, go_sem]
        repeat (first | with_reducible exact Below.refl _ _ | with_reducible refine Below.setCell ?_ (Nat.le_refl _) _ | with_reducible refine Below.setCell ?_ o1 _ | with_reducible refine Below.alloc ?_ (Nat.le_refl _) _ | with_reducible refine Below.alloc ?_ (by simp) _)
      · rw [if_pos ⟨rfl, rfl, rfl⟩] at hr
        subst hr
        go_enter Try.func50, Try.ntmps50
        go_wp2
        simp [bodyPost, results, Try.results50, go_sem]
        repeat (first | with_reducible exact Below.refl _ _ | with_reducible refine Below.setCell ?_ (Nat.le_refl _) _ | with_reducible refine Below.setCell ?_ o1 _ | with_reducible refine Below.alloc ?_ (Nat.le_refl _) _ | with_reducible refine Below.alloc ?_ (by simp) _)
    · rw [if_neg (fun x => q1 x.2.1)] at hr
      have qb : ((q : Int) == 1) = false := by simp; omega
      clear HT HP
      subst hr
      go_enter Try.func50, Try.ntmps50
      go_wp2
      simp [bodyPost, results, Try.results50, go_sem]
      repeat (first | with_reducible exact Below.refl _ _ | with_reducible refine Below.setCell ?_ (Nat.le_refl _) _ | with_reducible refine Below.setCell ?_ o1 _ | with_reducible refine Below.alloc ?_ (Nat.le_refl _) _ | with_reducible refine Below.alloc ?_ (by simp) _)
  · rw [if_neg (fun x => by cases x.1)] at hr
    clear HT HP
    subst hr
    go_enter Try.func50, Try.ntmps50
    go_wp2
    simp [bodyPost, results, Try.results50, go_sem]
    repeat (first | with_reducible exact Below.refl _ _ | with_reducible refine Below.setCell ?_ (Nat.le_refl _) _ | with_reducible refine Below.setCell ?_ o1 _ | with_reducible refine Below.alloc ?_ (Nat.le_refl _) _ | with_reducible refine Below.alloc ?_ (by simp) _)
end Go.Proofs.Ytahekhamhdfkdaa
