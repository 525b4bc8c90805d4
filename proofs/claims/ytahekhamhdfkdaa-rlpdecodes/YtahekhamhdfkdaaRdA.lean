import Derived.Test.YtahekhamhdfkdaaRsG
import Derived.Test.YtahekhamhdfkdaaRxA
import Derived.Test.YtahekhamhdfkdaaRxM
import Derived.Test.YtahekhamhdfkdaaRtA
/- Layer 7: what Decode answers, as a function of the bytes; the heads that are written are those that are read. -/
namespace Go.Proofs.Ytahekhamhdfkdaa
/-- What an item holds. -/
def innP (A : List Int) : List Int := (A.drop (hdP A).2.1).take (hdP A).2.2.1
def listR (x : Int × List Tr) : Int × Tr := if x.1 = 0 then (0, .mk true [] x.2) else (x.1, zT)
def consR (x : Int × Tr) (y : Int × List Tr) : Int × List Tr := if x.1 = 0 then (if y.1 = 0 then (0, x.2 :: y.2) else (y.1, [])) else (x.1, [])
mutual
/-- The item at the front of a room, within so many lists: the error, the tree. -/
def decT : Nat → Nat → List Int → Int × Tr
  | 0, _, _ => (1, zT)
  | f + 1, k, A => if (hdP A).2.2.2 ≠ 0 then ((hdP A).2.2.2, zT) else if (hdP A).1 = false then (0, .mk false (innP A) []) else if 1024 ≤ k then (74, zT) else listR (decS f (k + 1) (innP A))
/-- The items that a room is. -/
def decS : Nat → Nat → List Int → Int × List Tr
  | 0, _, _ => (1, [])
  | f + 1, k, A => if A.length = 0 then (0, []) else if (decT f k A).1 = 0 then consR (decT f k A) (decS f k (A.drop (totP A))) else ((decT f k A).1, [])
end
theorem hdP_size {A : List Int} (e : (hdP A).2.2.2 = 0) (l : (hdP A).1 = true) : 1 ≤ (hdP A).2.1 := by
  unfold hdP at e l ⊢
  by_cases k0 : A.length = 0
  · rw [if_pos k0] at e; simp at e
  rw [if_neg k0] at e l ⊢
  by_cases k1 : A.getD 0 0 < 128
  · rw [if_pos k1] at l; simp at l
  rw [if_neg k1] at e l ⊢
  by_cases k2 : A.getD 0 0 % 64 ≤ 55
  · rw [if_pos k2] at e l ⊢
    rw [(fin7_fits e).1]; exact Nat.le_refl _
  rw [if_neg k2] at e l ⊢
  by_cases k3 : A.length - 1 < (A.getD 0 0 % 64).toNat - 55
  · rw [if_pos k3] at e; simp at e
  rw [if_neg k3] at e l ⊢
  by_cases k4 : (A.drop 1).getD 0 0 = 0 ∨ lenQ (A.drop 1) ((A.getD 0 0 % 64).toNat - 55) ≤ 55
  · rw [if_pos k4] at e; simp at e
  rw [if_neg k4] at e l ⊢
  rw [(fin7_fits e).1]; show 1 ≤ 1 + _; omega
theorem innP_len {A : List Int} (e : (hdP A).2.2.2 = 0) : (innP A).length = (hdP A).2.2.1 := by
  have := (hdP_fits e).2.1
  unfold innP
  rw [List.length_take, List.length_drop]; omega
theorem dec_fuel : ∀ f : Nat, (∀ g k A, 2 * A.length + 1 ≤ f → 2 * A.length + 1 ≤ g → decT f k A = decT g k A) ∧ (∀ g k A, 2 * A.length + 2 ≤ f → 2 * A.length + 2 ≤ g → decS f k A = decS g k A)
  | 0 => ⟨fun _ _ _ h _ => by omega, fun _ _ _ h _ => by omega⟩
  | f + 1 => by
    obtain ⟨ihT, ihS⟩ := dec_fuel f
    refine ⟨fun g k A h1 h2 => ?_, fun g k A h1 h2 => ?_⟩
    · obtain ⟨g, rfl⟩ : ∃ m, g = m + 1 := ⟨g - 1, by omega⟩
      rw [decT, decT]
      by_cases e : (hdP A).2.2.2 ≠ 0
      · rw [if_pos e, if_pos e]
      rw [if_neg e, if_neg e]
      have e' := Decidable.not_not.1 e
      by_cases l : (hdP A).1 = false
      · rw [if_pos l, if_pos l]
      rw [if_neg l, if_neg l]
      by_cases d : 1024 ≤ k
      · rw [if_pos d, if_pos d]
      rw [if_neg d, if_neg d]
      have s := hdP_size e' (by simpa using l)
      have i := innP_len e'
      have t := (hdP_fits e').2.1
      rw [ihS g (k + 1) (innP A) (by omega) (by omega)]
    · obtain ⟨g, rfl⟩ : ∃ m, g = m + 1 := ⟨g - 1, by omega⟩
      rw [decS, decS]
      by_cases z : A.length = 0
      · rw [if_pos z, if_pos z]
      rw [if_neg z, if_neg z, ihT g k A (by omega) (by omega)]
      by_cases c : (decT g k A).1 = 0
      · rw [if_pos c, if_pos c]
        have e : (hdP A).2.2.2 = 0 := by
          obtain ⟨g', rfl⟩ : ∃ m, g = m + 1 := ⟨g - 1, by omega⟩
          rw [decT] at c
          by_cases e : (hdP A).2.2.2 ≠ 0
          · rw [if_pos e] at c; exact c
          · exact Decidable.not_not.1 e
        have t := totP_fits e
        have d : (A.drop (totP A)).length = A.length - totP A := List.length_drop ..
        rw [ihS g k (A.drop (totP A)) (by omega) (by omega)]
      · rw [if_neg c, if_neg c]
def dT (k : Nat) (A : List Int) : Int × Tr := decT (2 * A.length + 1) k A
def dS (k : Nat) (A : List Int) : Int × List Tr := decS (2 * A.length + 2) k A
theorem dT_err (k : Nat) {A : List Int} (e : (hdP A).2.2.2 ≠ 0) : dT k A = ((hdP A).2.2.2, zT) := by unfold dT; rw [decT, if_pos e]
theorem dT_text (k : Nat) {A : List Int} (e : (hdP A).2.2.2 = 0) (l : (hdP A).1 = false) : dT k A = (0, .mk false (innP A) []) := by unfold dT; rw [decT, if_neg (fun x => x e), if_pos l]
theorem dT_deep {k : Nat} {A : List Int} (e : (hdP A).2.2.2 = 0) (l : (hdP A).1 = true) (d : 1024 ≤ k) : dT k A = (74, zT) := by
  unfold dT; rw [decT, if_neg (fun x => x e), if_neg (by rw [l]; decide), if_pos d]
theorem dT_list {k : Nat} {A : List Int} (e : (hdP A).2.2.2 = 0) (l : (hdP A).1 = true) (d : ¬ 1024 ≤ k) : dT k A = listR (dS (k + 1) (innP A)) := by
  unfold dT dS
  rw [decT, if_neg (fun x => x e), if_neg (by rw [l]; decide), if_neg d]
  have s := hdP_size e l
  have i := innP_len e
  have t := (hdP_fits e).2.1
  rw [(dec_fuel _).2 (2 * (innP A).length + 2) (k + 1) (innP A) (by omega) (Nat.le_refl _)]
theorem dT_ok {k : Nat} {A : List Int} (h : (dT k A).1 = 0) : (hdP A).2.2.2 = 0 := by
  by_cases e : (hdP A).2.2.2 = 0
  · exact e
  · rw [dT_err k e] at h; exact h
theorem dS_nil (k : Nat) {A : List Int} (h : A.length = 0) : dS k A = (0, []) := by unfold dS; rw [decS, if_pos h]
theorem dS_cons (k : Nat) {A : List Int} (h : A.length ≠ 0) : dS k A = consR (dT k A) (dS k (A.drop (totP A))) := by
  unfold dS
  rw [decS, if_neg h]
  have q : decT (2 * A.length + 1) k A = dT k A := rfl
  rw [q]
  by_cases c : (dT k A).1 = 0
  · rw [if_pos c]
    have t := totP_fits (dT_ok c)
    have d : (A.drop (totP A)).length = A.length - totP A := List.length_drop ..
    rw [(dec_fuel _).2 (2 * (A.drop (totP A)).length + 2) k (A.drop (totP A)) (by omega) (Nat.le_refl _)]
  · rw [if_neg c, consR, if_neg c]
end Go.Proofs.Ytahekhamhdfkdaa

/- Layer 7: the document's Copy. -/
namespace Go.Proofs.Ytahekhamhdfkdaa
open Go.RowKit Go.Sort
theorem info_it : (Try.prog.info? 26).map (fun i => (i.zero, i.size, i.bytes)) = some (some (.agg #[.bool false, .slice none 0 0, .slice none 0 0]), 3, 56) := by kernel_rfl
theorem It.open {W : World} {t : Tr} {d q : Value} (h : It W t d q) : ∃ a b o c a' b' o' c', d = .slice a t.X.length c ∧ (t.X.length ≤ c ∧ (a = none → c = 0)) ∧ Az a b o t.X ∧ Bz W b o t.X ∧ q = .slice a' t.ts.length c' ∧ (t.ts.length ≤ c' ∧ (a' = none → c' = 0)) ∧ (t.ts = [] ∨ a' = some ⟨b', o', none⟩) ∧ Its W b' o' t.ts := by
  cases t with
  | mk l X ts =>
    rw [It] at h
    obtain ⟨⟨a, b, o, c, h1, h2, h3, h4⟩, a', b', o', c', k1, k2, k3, k4⟩ := h
    exact ⟨a, b, o, c, a', b', o', c', h1, h2, h3, h4, k1, k2, k3, k4⟩
theorem Its.keep {W W' : World} {b o : Nat} {ts : List Tr} (h : Its W b o ts) (hb : Below W.heap.size W W') : Its W' b o ts := Its.of fun i hi => by
  obtain ⟨d, q, e1, e2⟩ := h.at i hi
  exact ⟨d, q, rangeT_keep e1 hb, It.keep hb _ e2⟩
/-- An append of one item, in a region that is drawn. -/
theorem wp_append_it {w : World} {o : Oper} {a : Act} {K : Act → World → Prop} {Q : Exit → Act → World → Prop} (s x : Operand) (ho : o.op = .call { callee := .builtin .append, args := #[s, x], argTypes := #[24, 24] })
    (base : Nat) (v : Value) (n : Nat) (xs : List Value) (hs : a.eval s = v) (hown : w.ownsRow base 26 3 v n xs)
    (g c : Nat) (u0 u1 u2 : Value) (hx : a.eval x = .slice (some ⟨g, 0, none⟩) 1 c) (hnews : w.cell? ⟨g, 0, none⟩ = some u0 ∧ w.cell? ⟨g, 1, none⟩ = some u1 ∧ w.cell? ⟨g, 2, none⟩ = some u2) (h1 : u0.oneCell' = true ∧ u1.oneCell' = true ∧ u2.oneCell' = true)
    (hn : n < 100000000000) (hbase : base ≤ w.heap.size)
    (h : ∀ v' w', w'.ownsRow base 26 3 v' (n + 1) (xs ++ [u0, u1, u2]) → w.grownBy w' v.ownBlock → (v'.ownBlock = v.ownBlock ∨ v'.ownBlock = some w.heap.size) → K (a.put o.dst v') w') : o.wp Try.prog a w K Q := by
  have hn1 : n + 1 ≤ maxLen := by unfold maxLen; omega
  obtain ⟨i, hi, hi2⟩ := Option.map_eq_some_iff.1 info_it
  simp only [Prod.mk.injEq] at hi2
  obtain ⟨v', w', hr, h2, h3, h4, h5⟩ := run_append_own_at (P := Try.prog) w base 24 o.type 26 i _ 3 56 Try.underlying24 hi hi2.1 hi2.2.1 hi2.2.2 rfl (by omega) v n xs hown ⟨g, 0, none⟩ 1 c [u0, u1, u2] rfl (fun j u hu => by
    rw [Addr.add_lit]
    match j, hu with
    | 0, hu => simp at hu; subst hu; exact hnews.1
    | 1, hu => simp at hu; subst hu; exact hnews.2.1
    | 2, hu => simp at hu; subst hu; exact hnews.2.2
    | j + 3, hu => simp at hu) (by simpa using h1) hn1 (by omega) hbase
  unfold Oper.wp execOp
  simp only [ho, resolve, invoke, builtin, Sem.run_bind, Sem.run_pure, Result.andThen_ok, List.map_toArray, List.map_cons, List.map_nil, hs, hx, hr]
  exact h v' w' h2 h3 h5
end Go.Proofs.Ytahekhamhdfkdaa
