import Derived.Test.YtdjjphcfobbipaaRsA
import Derived.Deep.RegionHeld
/- Layer 7: Split of a head that is taken. -/
namespace Go.Proofs.Ytdjjphcfobbipaa
open Go.RowKit Go.Sort
theorem wpAnyH_takeD {P : Program} {md : Region.Mode} {ops : Array Oper} {Q : Exit → Act → World → Prop} {S : World → Prop} {i : Nat} {oi : Oper} {v : Value} {fuel : Nat} {listed : Array Bool} {a : Act} {w : World} (d : Nat) (hi : ops[i]? = some oi) (hd : oi.dst = some d)
    (hs : Region.noSelect ops = true) (hf : Region.free md ops listed i = true) (hr : (Region.ready md ops listed).contains i = true)
    (hQ : ∀ c a w, Q (.panic c) (a.put oi.dst v) w → Q (.panic c) a w) (hy : YieldsIf P ops S oi v a) (hS : S w)
    (h : wpAnyH P md ops Q S fuel (listed.setIfInBounds i true) (a.put (some d) v) w) : wpAnyH P md ops Q S (fuel + 1) listed a w :=
  wpAnyH_take hi hs hf hr hQ hy hS (by rw [hd]; exact h)
theorem bz_part {w : World} {b o : Nat} {A : List Int} (h : Bz w b o A) {c p q : Nat} (hq : p + q ≤ A.length) (hc : A.length ≤ c) : Bz w b (atO o c p) ((A.drop p).take q) := by
  unfold atO
  by_cases k : c = p
  · intro i hi
    rw [List.length_take, List.length_drop] at hi
    omega
  · rw [if_neg k]
    intro i hi
    rw [List.length_take, List.length_drop] at hi
    have e : ((A.drop p).take q).getD i 0 = A.getD (p + i) 0 := by
      rw [List.getD, List.getElem?_take, if_pos (by omega), List.getElem?_drop]; rfl
    rw [e, Nat.add_assoc]
    exact h (p + i) (by omega)
theorem bz_rest {w : World} {b o : Nat} {A : List Int} (h : Bz w b o A) {c p : Nat} (hq : p ≤ A.length) (hc : A.length ≤ c) : Bz w b (atO o c p) (A.drop p) := by
  have r := bz_part h (p := p) (q := A.length - p) (by omega) hc
  have e : (A.drop p).take (A.length - p) = A.drop p := List.take_of_length_le (by rw [List.length_drop]; exact Nat.le_refl _)
  rwa [e] at r
end Go.Proofs.Ytdjjphcfobbipaa

/- Layer 7: Split of any bytes. -/
namespace Go.Proofs.Ytdjjphcfobbipaa
open Go.RowKit Go.Sort
theorem fin7_fits {A : List Int} {l : Bool} {s h : Nat} (e : (fin7 A l s h).2.2.2 = 0) : fin7 A l s h = (l, s, h, 0) ∧ s + h ≤ A.length := by
  unfold fin7 at e ⊢
  by_cases k : A.length < s + h
  · rw [if_pos k] at e; simp at e
  · rw [if_neg k] at e ⊢
    by_cases k2 : l = false ∧ bareB ((A.drop s).take h) = true
    · rw [if_pos k2] at e; simp at e
    · rw [if_neg k2]; exact ⟨rfl, by omega⟩
theorem hdP_fits {A : List Int} (e : (hdP A).2.2.2 = 0) : 1 ≤ A.length ∧ (hdP A).2.1 + (hdP A).2.2.1 ≤ A.length ∧ 1 ≤ (hdP A).2.1 + (hdP A).2.2.1 := by
  unfold hdP at e ⊢
  by_cases k0 : A.length = 0
  · rw [if_pos k0] at e; simp at e
  rw [if_neg k0] at e ⊢
  by_cases k1 : A.getD 0 0 < 128
  · rw [if_pos k1]; simp; omega
  rw [if_neg k1] at e ⊢
  by_cases k2 : A.getD 0 0 % 64 ≤ 55
  · rw [if_pos k2] at e ⊢
    obtain ⟨q, r⟩ := fin7_fits e
    rw [q]; exact ⟨by omega, r, by show 1 ≤ 1 + _; omega⟩
  rw [if_neg k2] at e ⊢
  by_cases k3 : A.length - 1 < (A.getD 0 0 % 64).toNat - 55
  · rw [if_pos k3] at e; simp at e
  rw [if_neg k3] at e ⊢
  by_cases k4 : (A.drop 1).getD 0 0 = 0 ∨ lenQ (A.drop 1) ((A.getD 0 0 % 64).toNat - 55) ≤ 55
  · rw [if_pos k4] at e; simp at e
  rw [if_neg k4] at e ⊢
  obtain ⟨q, r⟩ := fin7_fits e
  rw [q]; exact ⟨by omega, r, by show 1 ≤ 1 + _ + _; omega⟩
end Go.Proofs.Ytdjjphcfobbipaa

/- Layer 7: what cut answers, as a function of the bytes. -/
namespace Go.Proofs.Ytdjjphcfobbipaa
open Go.RowKit Go.Sort
/-- How many bytes the first item has, head and all. -/
def totP (A : List Int) : Nat := (hdP A).2.1 + (hdP A).2.2.1
/-- The items one behind the other, gathered: n bounds their number. -/
def cutA : Nat → List (List Int) → List Int → Int × List (List Int)
  | 0, XS, _ => (0, XS)
  | n + 1, XS, A => if A.length = 0 then (0, XS) else if (hdP A).2.2.2 ≠ 0 then ((hdP A).2.2.2, []) else cutA n (XS ++ [A.take (totP A)]) (A.drop (totP A))
theorem totP_fits {A : List Int} (e : (hdP A).2.2.2 = 0) : totP A ≤ A.length ∧ 1 ≤ totP A := ⟨(hdP_fits e).2.1, (hdP_fits e).2.2⟩
theorem cutA_end (n : Nat) (XS : List (List Int)) {A : List Int} (h : A.length = 0) : cutA n XS A = (0, XS) := by
  cases n with
  | zero => rfl
  | succ n => rw [cutA, if_pos h]
/-- More fuel than bytes changes nothing. -/
theorem cutA_fuel : ∀ (n m : Nat) (XS : List (List Int)) (A : List Int), A.length ≤ n → A.length ≤ m → cutA n XS A = cutA m XS A
  | 0, m, XS, A, h, _ => by rw [cutA_end 0 XS (by omega), cutA_end m XS (by omega)]
  | n + 1, 0, XS, A, _, h => by rw [cutA_end _ XS (by omega), cutA_end 0 XS (by omega)]
  | n + 1, m + 1, XS, A, h1, h2 => by
    rw [cutA, cutA]
    by_cases k : A.length = 0
    · rw [if_pos k, if_pos k]
    · rw [if_neg k, if_neg k]
      by_cases e : (hdP A).2.2.2 ≠ 0
      · rw [if_pos e, if_pos e]
      · rw [if_neg e, if_neg e]
        have f := totP_fits (Decidable.not_not.1 e)
        have d : (A.drop (totP A)).length = A.length - totP A := List.length_drop ..
        exact cutA_fuel n m _ _ (by omega) (by omega)
/-- What cut answers. -/
def cutP (XS : List (List Int)) (A : List Int) : Int × List (List Int) := cutA A.length XS A
theorem cutP_nil (XS : List (List Int)) {A : List Int} (h : A.length = 0) : cutP XS A = (0, XS) := cutA_end _ _ h
theorem cutP_err (XS : List (List Int)) {A : List Int} (h : A.length ≠ 0) (e : (hdP A).2.2.2 ≠ 0) : cutP XS A = ((hdP A).2.2.2, []) := by
  unfold cutP
  obtain ⟨n, en⟩ : ∃ n, A.length = n + 1 := ⟨A.length - 1, by omega⟩
  rw [en, cutA, if_neg h, if_pos e]
theorem cutP_step (XS : List (List Int)) {A : List Int} (h : A.length ≠ 0) (e : (hdP A).2.2.2 = 0) : cutP XS A = cutP (XS ++ [A.take (totP A)]) (A.drop (totP A)) := by
  have f := totP_fits e
  have d : (A.drop (totP A)).length = A.length - totP A := List.length_drop ..
  obtain ⟨n, en⟩ : ∃ n, A.length = n + 1 := ⟨A.length - 1, by omega⟩
  have q : cutA (n + 1) XS A = cutA n (XS ++ [A.take (totP A)]) (A.drop (totP A)) := by rw [cutA, if_neg h, if_neg (fun x => x e)]
  unfold cutP
  rw [en, q]
  exact cutA_fuel _ _ _ _ (by omega) (Nat.le_refl _)
/-- No more items than bytes; none is longer than the bytes. -/
theorem cutA_len : ∀ (n : Nat) (XS : List (List Int)) (A : List Int), (cutA n XS A).2.length ≤ XS.length + n
  | 0, XS, A => by simp [cutA]
  | n + 1, XS, A => by
    rw [cutA]
    by_cases k : A.length = 0
    · rw [if_pos k]; show XS.length ≤ _; omega
    · rw [if_neg k]
      by_cases e : (hdP A).2.2.2 ≠ 0
      · rw [if_pos e]; show 0 ≤ _; omega
      · rw [if_neg e]
        have r := cutA_len n (XS ++ [A.take (totP A)]) (A.drop (totP A))
        rw [List.length_append] at r
        have : ([A.take (totP A)] : List (List Int)).length = 1 := rfl
        omega
end Go.Proofs.Ytdjjphcfobbipaa

/- Layer 7: a list of texts of one's own. -/
namespace Go.Proofs.Ytdjjphcfobbipaa
open Go.RowKit Go.Sort
/-- A list of texts: the row and each text in memory of one's own, apart from the row. -/
def TxE (B : Nat) (W : World) (pv : Value) (XS : List (List Int)) (VS : List Value) : Prop :=
  VS.length = XS.length ∧ W.ownsRow B 22 1 pv XS.length VS ∧ ∀ j, j < XS.length → ∃ u, VS[j]? = some u ∧ OwnB B W u (XS.getD j []) ∧ u ≠ .slice none 0 0 ∧ (∀ k, u.ownBlock = some k → pv.ownBlock ≠ some k)
theorem TxE.nil (B : Nat) (W : World) : TxE B W (.slice none 0 0) [] [] := ⟨rfl, ⟨rfl, .inl ⟨rfl, rfl⟩⟩, fun _ hj => absurd hj (Nat.not_lt_zero _)⟩
theorem TxE.keep {B : Nat} {W W' : World} {pv : Value} {XS : List (List Int)} {VS : List Value} (h : TxE B W pv XS VS) (hb : Below W.heap.size W W') : TxE B W' pv XS VS := by
  refine ⟨h.1, World.ownsRow.kept h.2.1 (grown_of_below hb Option.none) (by cases pv.ownBlock <;> simp), fun j hj => ?_⟩
  obtain ⟨u, h1, h2, h3, h4⟩ := h.2.2 j hj
  exact ⟨u, h1, h2.keep hb, h3, h4⟩
theorem TxE.step {B : Nat} {W W' : World} {pv v' u : Value} {XS : List (List Int)} {X : List Int} {VS : List Value} (h : TxE B W pv XS VS) (hu : OwnB B W u X) (hn : u ≠ .slice none 0 0) (ha : ∀ k, u.ownBlock = some k → pv.ownBlock ≠ some k)
    (ho : W'.ownsRow B 22 1 v' (XS.length + 1) (VS ++ [u])) (hg : W.grownBy W' pv.ownBlock) (hv : v'.ownBlock = pv.ownBlock ∨ v'.ownBlock = some W.heap.size) : TxE B W' v' (XS ++ [X]) (VS ++ [u]) := by
  have hl := h.1
  have far : ∀ {x : Value} {Y : List Int}, OwnB B W x Y → (∀ k, x.ownBlock = some k → pv.ownBlock ≠ some k) → ∀ k, x.ownBlock = some k → v'.ownBlock ≠ some k := fun {x Y} hx hk k e => by
    rcases hv with q | q
    · rw [q]; exact hk k e
    · rw [q]; intro e2; have := (hx.lt k e).2; have := Option.some.inj e2; omega
  refine ⟨by simp [hl], by simpa using ho, fun j hj => ?_⟩
  rw [List.length_append] at hj
  have l1 : ([X] : List (List Int)).length = 1 := rfl
  by_cases e : j = XS.length
  · subst e
    refine ⟨u, by rw [List.getElem?_append_right (by omega), hl, Nat.sub_self]; rfl, ?_, hn, far hu ha⟩
    have g : (XS ++ [X]).getD XS.length [] = X := by simp [List.getD]
    rw [g]
    exact hu.kept hg ha
  · obtain ⟨x, h1, h2, h3, h4⟩ := h.2.2 j (by omega)
    refine ⟨x, by rw [List.getElem?_append_left (by omega)]; exact h1, ?_, h3, far h2 h4⟩
    have g : (XS ++ [X]).getD j [] = XS.getD j [] := by simp [List.getD, List.getElem?_append_left (show j < XS.length by omega)]
    rw [g]
    exact h2.kept hg h4
end Go.Proofs.Ytdjjphcfobbipaa

/- Layer 7: cut. -/
namespace Go.Proofs.Ytdjjphcfobbipaa
open Go.RowKit Go.Sort
theorem info_sl : (Try.prog.info? 22).map (fun i => (i.zero, i.size, i.bytes)) = some (some (.slice none 0 0), 1, 24) := by kernel_rfl
theorem info_sl_partsR : ∃ j, Try.prog.info? 22 = some j ∧ j.zero = some (.slice none 0 0) ∧ j.size = 1 ∧ j.bytes = 24 := by
  have h := info_sl
  cases hi : Try.prog.info? 22 with
  | none => rw [hi] at h; simp at h
  | some j => rw [hi] at h; simp at h; exact ⟨j, rfl, h.1, h.2.1, h.2.2⟩
theorem row_below {W W' : World} {B : Nat} {e : TypeId} {v : Value} {n : Nat} {xs : List Value} (h : W.ownsRow B e 1 v n xs) (hb : Below W.heap.size W W') : W'.ownsRow B e 1 v n xs :=
  World.ownsRow.kept h (grown_of_below hb Option.none) (by cases v.ownBlock <;> simp)
theorem lnum7_any (v : Int) (w : World) : Calls Try.prog 24 #[.int .i64 v] w fun e w' => e = .returned (.int .i64 v) ∧ Below w.heap.size w w' := by
  go_enter Try.func24, Try.ntmps24
  go_wp2
  simp [bodyPost, results, Try.results24, go_sem]
  exact Below.refl _ _
theorem one_newR (W : World) (v : Value) (t : TypeId) : ∀ j u, [v][j]? = some u → (W.alloc (.cells #[v] t)).cell? ((⟨W.heap.size, 0, none⟩ : Addr).add j) = some u := fun j u hu => by
  have hj : j = 0 := by
    have := (List.getElem?_eq_some_iff.1 hu).1
    simpa using this
  subst hj
  have hn : (W.alloc (.cells #[v] t)).heap[W.heap.size]? = some (.cells #[v] t) := by
    show (W.heap.push _)[W.heap.size]? = _
    simp
  rw [Addr.add_mid, Nat.zero_add, cell_of_row _ _ 0 _ _ _ hn]
  simpa using hu
theorem Hb.grown {W W' : World} {b : Nat} {l : Bool} {s h : Int} {row : Option Nat} (x : Hb W b l s h) (hg : W.grownBy W' row) (hn : row ≠ some b) : Hb W' b l s h := by
  have e : W'.heap[b]? = W.heap[b]? := hg.block b x.lt (fun e => hn e.symm)
  obtain ⟨x0, x1, x2⟩ := x
  refine ⟨?_, ?_, ?_⟩
  · rw [← x0]; simp only [World.cell?, e]
  · rw [← x1]; simp only [World.cell?, e]
  · rw [← x2]; simp only [World.cell?, e]
end Go.Proofs.Ytdjjphcfobbipaa

/- Layer 7: Parts of any bytes. -/
namespace Go.Proofs.Ytdjjphcfobbipaa
open Go.RowKit Go.Sort
theorem TxE.base {B B' : Nat} {W : World} {pv : Value} {XS : List (List Int)} {VS : List Value} (h : TxE B W pv XS VS) (hB : B' ≤ B) : TxE B' W pv XS VS := by
  refine ⟨h.1, ?_, fun j hj => ?_⟩
  · refine ⟨h.2.1.1, ?_⟩
    rcases h.2.1.2 with q | ⟨g, cap, cur, e1, e2, e3⟩
    · exact .inl q
    · exact .inr ⟨g, cap, cur, e1, Nat.le_trans hB e2, e3⟩
  · obtain ⟨u, h1, h2, h3⟩ := h.2.2 j hj
    exact ⟨u, h1, h2.base hB, h3⟩
/-- What Parts answers. -/
def partsP (A : List Int) : Int × List (List Int) :=
  if (hdP A).2.2.2 ≠ 0 then ((hdP A).2.2.2, []) else if (hdP A).1 = false then (75, []) else if totP A < A.length then (73, []) else cutP [] (A.drop (hdP A).2.1)
end Go.Proofs.Ytdjjphcfobbipaa
