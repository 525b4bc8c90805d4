import Derived.Test.YtahekhamhdfkdaaRxP
import Derived.Test.YtahekhamhdfkdaaRsG
/- Layer 7: the program's copies. -/
namespace Go.Proofs.Ytahekhamhdfkdaa
open Go.RowKit Go.Sort
theorem set3 : ∀ (A R : List Value) (u0 u1 u2 : Value), 3 ≤ R.length → (((A ++ R).set A.length u0).set (A.length + 1) u1).set (A.length + 1 + 1) u2 = A ++ [u0, u1, u2] ++ R.drop 3
  | [], r0 :: r1 :: r2 :: R, _, _, _, _ => rfl
  | [], [], _, _, _, h => absurd h (by simp)
  | [], [_], _, _, _, h => absurd h (by simp)
  | [], [_, _], _, _, _, h => absurd h (by simp)
  | a :: A, R, u0, u1, u2, h => by
    have := set3 A R u0 u1 u2 h
    simp only [List.cons_append, List.length_cons, List.set_cons_succ, this]
/-- Items that are being laid into a row. -/
def Of (B : Nat) (W : World) (g n : Nat) (ts : List Tr) (ps : List (Value × Value)) : Prop := ∃ Rs : List Value, ts.length ≤ n ∧ Rs.length = (n - ts.length) * 3 ∧ ps.length = ts.length ∧ W.ownsRow B 26 3 (.slice (some ⟨g, 0, none⟩) n n) n (itC ts ps ++ Rs) ∧ Ots W ts (fun k => B ≤ k ∧ k ≠ g) ps
theorem Of.keep {B : Nat} {W W' : World} {g n : Nat} {ts : List Tr} {ps : List (Value × Value)} (h : Of B W g n ts ps) (hb : Below W.heap.size W W') : Of B W' g n ts ps := by
  obtain ⟨Rs, h0, h1, h2, h3, h4⟩ := h
  exact ⟨Rs, h0, h1, h2, row_kept h3 fun k _ hk => hb.block k hk, Ots.of fun i hi => Ot.conv _ (fun k hk hs => ⟨hs, hb.block k hk⟩) (h4.at i hi)⟩
theorem Of.there {B : Nat} {W : World} {g n : Nat} {ts : List Tr} {ps : List (Value × Value)} (h : Of B W g n ts ps) (hn : ts.length < n) : W.there g (ts.length * 3) 3 := by
  obtain ⟨Rs, h0, h1, h2, h3, h4⟩ := h
  intro j hj
  refine ⟨?_, World.ownsRow.frozenAt h3 _⟩
  rw [World.ownsRow.cellAt h3 _ (by omega), List.getElem?_eq_getElem (by rw [h3.1]; omega)]; rfl
theorem Of.step {B : Nat} {W : World} {g n : Nat} {ts : List Tr} {ps : List (Value × Value)} {t : Tr} {d q : Value} (h : Of B W g n ts ps) (hn : ts.length < n) (ht : Ot W t (fun k => B ≤ k ∧ k ≠ g) d q) :
    Of B (W.setCells g (ts.length * 3) [.bool t.l, d, q]) g n (ts ++ [t]) (ps ++ [(d, q)]) ∧ W.grownBy (W.setCells g (ts.length * 3) [.bool t.l, d, q]) (some g) := by
  obtain ⟨Rs, h0, h1, h2, h3, h4⟩ := h
  have li := itC_len ts ps h2
  obtain ⟨s1, g1⟩ := World.ownsRow.stored h3 (ts.length * 3) (.bool t.l)
  obtain ⟨s2, g2⟩ := World.ownsRow.stored s1 (ts.length * 3 + 1) d
  obtain ⟨s3, g3⟩ := World.ownsRow.stored s2 (ts.length * 3 + 1 + 1) q
  have es := set3 (itC ts ps) Rs (.bool t.l) d q (by omega)
  rw [li] at es
  rw [es] at s3
  have hg : W.grownBy (W.setCells g (ts.length * 3) [.bool t.l, d, q]) (some g) := (g1.trans g2).trans g3
  have cv : ∀ k, k < W.heap.size → (B ≤ k ∧ k ≠ g) → (B ≤ k ∧ k ≠ g) ∧ (W.setCells g (ts.length * 3) [.bool t.l, d, q]).heap[k]? = W.heap[k]? := fun k hk h => ⟨h, hg.block k hk fun e => h.2 (Option.some.inj e)⟩
  refine ⟨⟨Rs.drop 3, by simp; omega, by rw [List.length_drop, List.length_append, h1]; show _ = (n - (ts.length + 1)) * 3; omega, by simp [h2], ?_, Ots.of fun i hi' => ?_⟩, hg⟩
  · rw [← itC_snoc ts ps t d q h2]; exact s3
  · rw [List.length_append] at hi'
    have l1 : ([t] : List Tr).length = 1 := rfl
    by_cases e : i = ts.length
    · subst e
      have e1 : (ts ++ [t]).getD ts.length zT = t := by simp [List.getD]
      have e2 : (ps ++ [(d, q)]).getD ts.length zV = (d, q) := by rw [← h2]; simp [List.getD]
      rw [e1, e2]
      exact Ot.conv _ cv ht
    · have hlt : i < ts.length := by omega
      have e1 : (ts ++ [t]).getD i zT = ts.getD i zT := by simp [List.getD, List.getElem?_append_left hlt]
      have e2 : (ps ++ [(d, q)]).getD i zV = ps.getD i zV := by simp [List.getD, List.getElem?_append_left (show i < ps.length by omega)]
      rw [e1, e2]
      exact Ot.conv _ cv (h4.at i hlt)
theorem Of.all {B : Nat} {W : World} {g n : Nat} {ts : List Tr} {ps : List (Value × Value)} (h : Of B W g n ts ps) (hn : ts.length = n) : Oe B W (.slice (some ⟨g, 0, none⟩) n n) ts ps := by
  obtain ⟨Rs, h0, h1, h2, h3, h4⟩ := h
  have e : Rs = [] := List.eq_nil_of_length_eq_zero (by omega)
  subst e hn
  rw [List.append_nil] at h3
  refine ⟨h2, h3, fun k e => (World.ownsRow.lt h3 k e).1, Ots.of fun i hi => Ot.conv _ (fun k _ hs => ⟨⟨hs.1, fun e => hs.2 (Option.some.inj e).symm⟩, rfl⟩) (h4.at i hi)⟩
end Go.Proofs.Ytahekhamhdfkdaa

/- Layer 7: the document's bound (level by level): it answers. -/
namespace Go.Proofs.Ytahekhamhdfkdaa
open Go.RowKit Go.Sort
/-- Items in a row of one's own whose texts and items lie in an older memory. -/
def Lv (w W : World) (v : Value) (L : List Tr) (ps : List (Value × Value)) : Prop := ps.length = L.length ∧ W.ownsRow w.heap.size 26 3 v L.length (itC L ps) ∧ ∀ i, i < L.length → It w (L.getD i zT) (ps.getD i zV).1 (ps.getD i zV).2
theorem Lv.nil (w W : World) : Lv w W (.slice none 0 0) [] [] := ⟨rfl, ⟨rfl, .inl ⟨rfl, rfl⟩⟩, fun _ hi => absurd hi (Nat.not_lt_zero _)⟩
theorem Lv.keep {w W W' : World} {v : Value} {L : List Tr} {ps : List (Value × Value)} (h : Lv w W v L ps) (hb : Below W.heap.size W W') : Lv w W' v L ps := ⟨h.1, row_kept h.2.1 fun k _ hk => hb.block k hk, h.2.2⟩
theorem Lv.grown {w W W' : World} {v : Value} {L : List Tr} {ps : List (Value × Value)} {row : Option Nat} (h : Lv w W v L ps) (hg : W.grownBy W' row) (hn : ∀ k, v.ownBlock = some k → row ≠ some k) : Lv w W' v L ps := ⟨h.1, row_kept h.2.1 fun k e hk => hg.block k hk fun q => hn k e q.symm, h.2.2⟩
theorem itC_app : ∀ (ts us : List Tr) (ps qs : List (Value × Value)), ps.length = ts.length → itC ts ps ++ itC us qs = itC (ts ++ us) (ps ++ qs)
  | [], _, [], _, _ => rfl
  | [], _, _ :: _, _, h => by simp at h
  | _ :: _, _, [], _, h => by simp at h
  | t :: ts, us, p :: ps, qs, h => by
    have := itC_app ts us ps qs (by simpa using h)
    simp only [itC, List.cons_append, this]
theorem itC_one : ∀ (ts : List Tr) (ps : List (Value × Value)) (_ : ∀ i, i < ts.length → (ps.getD i zV).1.oneCell' = true ∧ (ps.getD i zV).2.oneCell' = true), ∀ u ∈ itC ts ps, u.oneCell' = true
  | [], _, _, u, hu => by simp [itC] at hu
  | _ :: _, [], _, u, hu => by simp [itC] at hu
  | t :: ts, p :: ps, h, u, hu => by
    simp only [itC, List.mem_cons] at hu
    have h0 : p.1.oneCell' = true ∧ p.2.oneCell' = true := h 0 (by simp)
    rcases hu with rfl | rfl | rfl | hu
    · rfl
    · exact h0.1
    · exact h0.2
    · exact itC_one ts ps (fun i hi => h (i + 1) (by simpa using hi)) u hu
/-- The cells of items in a row. -/
theorem Its.cells {W : World} {b o : Nat} {ts : List Tr} (h : Its W b o ts) : ∃ ps : List (Value × Value), ps.length = ts.length ∧ W.rangeAt b o (itC ts ps) ∧ (∀ i, i < ts.length → It W (ts.getD i zT) (ps.getD i zV).1 (ps.getD i zV).2) := by
  induction ts generalizing o with
  | nil => exact ⟨[], rfl, fun j v hv => by simp [itC] at hv, fun i hi => absurd hi (Nat.not_lt_zero _)⟩
  | cons t ts ih =>
    rw [Its] at h
    obtain ⟨⟨d, q, h1, h2⟩, h3⟩ := h
    obtain ⟨ps, k1, k2, k3⟩ := ih h3
    refine ⟨(d, q) :: ps, by simp [k1], fun j v hv => ?_, fun i hi => ?_⟩
    · match j, hv with
      | 0, hv => exact h1 0 v hv
      | 1, hv => exact h1 1 v hv
      | 2, hv => exact h1 2 v hv
      | j + 3, hv =>
        have := k2 j v hv
        rw [show o + (j + 3) = o + 3 + j by omega]; exact this
    · match i, hi with
      | 0, _ => exact h2
      | i + 1, hi => exact k3 i (by simpa using hi)
theorem It.one {W : World} {t : Tr} {d q : Value} (h : It W t d q) : d.oneCell' = true ∧ q.oneCell' = true := by
  obtain ⟨_, _, _, _, _, _, _, _, rfl, _, _, _, rfl, _⟩ := h.open
  exact ⟨rfl, rfl⟩
/-- Some items more. -/
theorem Lv.app {w W : World} {v : Value} {L ts : List Tr} {ps : List (Value × Value)} {a : Option Addr} {b o c : Nat} {ty : TypeId} (h : Lv w W v L ps) (hI : Its w b o ts) (ha : ts = [] ∨ a = some ⟨b, o, none⟩) (hc : a = none → c = 0) (hB : Below w.heap.size w W) (hn : L.length + ts.length < 100000000000) :
    ∃ v' w' qs, (Builtin.append_ #[24, 24] ty #[v, .slice a ts.length c]).run Try.prog W = .ok v' w' ∧ Lv w w' v' (L ++ ts) qs ∧ W.grownBy w' v.ownBlock ∧ (v'.ownBlock = v.ownBlock ∨ v'.ownBlock = some W.heap.size) := by
  obtain ⟨i, hi, hi2⟩ := Option.map_eq_some_iff.1 info_it
  simp only [Prod.mk.injEq] at hi2
  obtain ⟨qs, k1, k2, k3⟩ := hI.cells
  by_cases h0 : ts = []
  · subst h0
    obtain rfl : qs = [] := List.eq_nil_of_length_eq_zero k1
    cases a with
    | none =>
      obtain rfl := hc rfl
      exact ⟨v, W, ps, run_append_owned_none (P := Try.prog) W w.heap.size 24 ty 26 i 3 Try.underlying24 hi v L.length _ h.2.1, by rw [List.append_nil]; exact h, World.grownBy.refl _ _, .inl rfl⟩
    | some ad =>
      obtain ⟨v', w', hr, h2, h3, _, h5⟩ := run_append_own_at (P := Try.prog) W w.heap.size 24 ty 26 i _ 3 56 Try.underlying24 hi hi2.1 hi2.2.1 hi2.2.2 rfl (by omega) v L.length _ h.2.1 ad 0 c [] rfl (fun j u hu => by simp at hu) (fun u hu => by cases hu) (by unfold maxLen; simp at hn; omega) (by simp at hn; omega) hB.size
      refine ⟨v', w', ps, hr, ⟨by simpa using h.1, by simpa using h2, by simpa using h.2.2⟩, h3, h5⟩
  · obtain rfl : a = some ⟨b, o, none⟩ := ha.resolve_left h0
    obtain ⟨v', w', hr, h2, h3, _, h5⟩ := run_append_own_at (P := Try.prog) W w.heap.size 24 ty 26 i _ 3 56 Try.underlying24 hi hi2.1 hi2.2.1 hi2.2.2 rfl (by omega) v L.length _ h.2.1 ⟨b, o, none⟩ ts.length c (itC ts qs) (itC_len _ _ k1) (fun j u hu => by
      rw [Addr.add_mid]; exact rangeT_keep k2 hB j u hu) (itC_one _ _ fun i hi => (k3 i hi).one) (by unfold maxLen; omega) (by omega) hB.size
    refine ⟨v', w', ps ++ qs, hr, ⟨by simp [h.1, k1], ?_, fun i hi => ?_⟩, h3, h5⟩
    · rw [← itC_app _ _ _ _ h.1, List.length_append]; exact h2
    · rw [List.length_append] at hi
      by_cases e : i < L.length
      · have e1 : (L ++ ts).getD i zT = L.getD i zT := by simp [List.getD, List.getElem?_append_left e]
        have e2 : (ps ++ qs).getD i zV = ps.getD i zV := by simp [List.getD, List.getElem?_append_left (show i < ps.length by have := h.1; omega)]
        rw [e1, e2]; exact h.2.2 i e
      · have e1 : (L ++ ts).getD i zT = ts.getD (i - L.length) zT := by simp [List.getD, List.getElem?_append_right (show L.length ≤ i by omega)]
        have e2 : (ps ++ qs).getD i zV = qs.getD (i - L.length) zV := by have := h.1; rw [List.getD, List.getElem?_append_right (show ps.length ≤ i by omega), this]; rfl
        rw [e1, e2]; exact k3 _ (by omega)
end Go.Proofs.Ytahekhamhdfkdaa
