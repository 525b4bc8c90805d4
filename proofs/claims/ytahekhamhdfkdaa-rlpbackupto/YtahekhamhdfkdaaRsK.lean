import Derived.Test.YtahekhamhdfkdaaRsJ
import Derived.Test.YtahekhamhdfkdaaUbA
/- Layer 7: Split of any bytes. -/
namespace Go.Proofs.Ytahekhamhdfkdaa
open Go.RowKit Go.Sort
theorem fin7_fits {A : List Int} {l : Bool} {s h : Nat} (e : (fin7 A l s h).2.2.2 = 0) : fin7 A l s h = (l, s, h, 0) ∧ s + h ≤ A.length := by
  unfold fin7 at e ⊢
  by_cases k : A.length < s + h
  · rw [if_pos k] at e; simp at e
  · rw [if_neg k] at e ⊢
    by_cases k2 : l = false ∧ bareB ((A.drop s).take h) = true
    · rw [if_pos k2] at e; simp at e
    · rw [if_neg k2]; exact ⟨rfl, by omega⟩
theorem hdP_fits {A : List Int} (e : (hdP A).2.2.2 = 0) : 1 ≤ A.length ∧ (hdP A).2.1 + (hdP A).2.2.1 ≤ A.length ∧ 1 ≤ (hdP A).2.1 + (hdP A).2.2.1 := by
  unfold hdP at e ⊢
  by_cases k0 : A.length = 0
  · rw [if_pos k0] at e; simp at e
  rw [if_neg k0] at e ⊢
  by_cases k1 : A.getD 0 0 < 128
  · rw [if_pos k1]; simp; omega
  rw [if_neg k1] at e ⊢
  by_cases k2 : A.getD 0 0 % 64 ≤ 55
  · rw [if_pos k2] at e ⊢
    obtain ⟨q, r⟩ := fin7_fits e
    rw [q]; exact ⟨by omega, r, by show 1 ≤ 1 + _; omega⟩
  rw [if_neg k2] at e ⊢
  by_cases k3 : A.length - 1 < (A.getD 0 0 % 64).toNat - 55
  · rw [if_pos k3] at e; simp at e
  rw [if_neg k3] at e ⊢
  by_cases k4 : (A.drop 1).getD 0 0 = 0 ∨ lenQ (A.drop 1) ((A.getD 0 0 % 64).toNat - 55) ≤ 55
  · rw [if_pos k4] at e; simp at e
  rw [if_neg k4] at e ⊢
  obtain ⟨q, r⟩ := fin7_fits e
  rw [q]; exact ⟨by omega, r, by show 1 ≤ 1 + _ + _; omega⟩
theorem fh_all {A : List Int} {a : Option Addr} {b o c : Nat} (hA : Byts A) (hl : A.length ≤ 16777216) (hc : A.length ≤ c) (ha : Az a b o A) (w : World) (h : Bz w b o A) :
    Calls Try.prog 37 #[.slice a A.length c] w fun e w' => e = .returned (.tuple #[.agg #[.bool (hdP A).1, .int .i64 ((hdP A).2.1 : Int), .int .i64 ((hdP A).2.2.1 : Int)], .int .i64 (hdP A).2.2.2]) ∧ Below w.heap.size w w' :=
  fh_short hl w (fun w1 B => rh_all hA hl hc ha w1 (h.keep B))
theorem split_long {a : Option Addr} {m c : Nat} (hm : 16777216 < m) (w : World) :
    Calls Try.prog 20 #[.slice a m c] w fun e w' => e = .returned (.tuple #[.bool false, .slice none 0 0, .slice none 0 0, .int .i64 2]) ∧ Below w.heap.size w w' :=
  split_err (l := false) (s := 0) (h := 0) (by decide) w (fun w1 _ => fh_long hm w1)
theorem split_bad {A : List Int} {a : Option Addr} {b o c : Nat} (hA : Byts A) (hl : A.length ≤ 16777216) (hc : A.length ≤ c) (ha : Az a b o A) (he : (hdP A).2.2.2 ≠ 0) (w : World) (h : Bz w b o A) :
    Calls Try.prog 20 #[.slice a A.length c] w fun e w' => e = .returned (.tuple #[.bool false, .slice none 0 0, .slice none 0 0, .int .i64 (hdP A).2.2.2]) ∧ Below w.heap.size w w' :=
  split_err he w (fun w1 B => fh_all hA hl hc ha w1 (h.keep B))
theorem split_good {A : List Int} {a : Option Addr} {b o c : Nat} (hA : Byts A) (hl : A.length ≤ 16777216) (hc : A.length ≤ c) (ha : Az a b o A) (he : (hdP A).2.2.2 = 0) (w : World) (h : Bz w b o A) :
    Calls Try.prog 20 #[.slice a A.length c] w fun e w' => ∃ v1 v2, e = .returned (.tuple #[.bool (hdP A).1, v1, v2, .int .i64 0]) ∧ OwnB w.heap.size w' v1 ((A.drop (hdP A).2.1).take (hdP A).2.2.1) ∧ OwnB w.heap.size w' v2 (A.drop ((hdP A).2.1 + (hdP A).2.2.1)) ∧ v1 ≠ .slice none 0 0 ∧ v2 ≠ .slice none 0 0 ∧ Below w.heap.size w w' := by
  obtain ⟨f1, f2, _⟩ := hdP_fits he
  obtain rfl := ha.cons (by omega)
  refine split_ok f2 hl hc w h (fun w1 B => ?_)
  have r := fh_all hA hl hc ha w1 (h.keep B)
  rw [he] at r
  exact r
end Go.Proofs.Ytahekhamhdfkdaa

/- Layer 7: Parts of a head that is refused, or of a text. -/
namespace Go.Proofs.Ytahekhamhdfkdaa
open Go.RowKit Go.Sort
end Go.Proofs.Ytahekhamhdfkdaa

/- Layer 1: Get of the document and roomy, of any list. -/
namespace Go.Proofs.Ytahekhamhdfkdaa
open Go.RowKit Go.Sort

end Go.Proofs.Ytahekhamhdfkdaa

/- Layer 7: what cut answers, as a function of the bytes. -/
namespace Go.Proofs.Ytahekhamhdfkdaa
open Go.RowKit Go.Sort
/-- How many bytes the first item has, head and all. -/
def totP (A : List Int) : Nat := (hdP A).2.1 + (hdP A).2.2.1
theorem totP_fits {A : List Int} (e : (hdP A).2.2.2 = 0) : totP A ≤ A.length ∧ 1 ≤ totP A := ⟨(hdP_fits e).2.1, (hdP_fits e).2.2⟩
end Go.Proofs.Ytahekhamhdfkdaa

/- Layer 7: a list of texts of one's own. -/
namespace Go.Proofs.Ytahekhamhdfkdaa
open Go.RowKit Go.Sort
/-- A list of texts: the row and each text in memory of one's own, apart from the row. -/
def TxE (B : Nat) (W : World) (pv : Value) (XS : List (List Int)) (VS : List Value) : Prop :=
  VS.length = XS.length ∧ W.ownsRow B 22 1 pv XS.length VS ∧ ∀ j, j < XS.length → ∃ u, VS[j]? = some u ∧ OwnB B W u (XS.getD j []) ∧ u ≠ .slice none 0 0 ∧ (∀ k, u.ownBlock = some k → pv.ownBlock ≠ some k)
theorem TxE.nil (B : Nat) (W : World) : TxE B W (.slice none 0 0) [] [] := ⟨rfl, ⟨rfl, .inl ⟨rfl, rfl⟩⟩, fun _ hj => absurd hj (Nat.not_lt_zero _)⟩
theorem TxE.keep {B : Nat} {W W' : World} {pv : Value} {XS : List (List Int)} {VS : List Value} (h : TxE B W pv XS VS) (hb : Below W.heap.size W W') : TxE B W' pv XS VS := by
  refine ⟨h.1, World.ownsRow.kept h.2.1 (grown_of_below hb Option.none) (by cases pv.ownBlock <;> simp), fun j hj => ?_⟩
  obtain ⟨u, h1, h2, h3, h4⟩ := h.2.2 j hj
  exact ⟨u, h1, h2.keep hb, h3, h4⟩
theorem TxE.step {B : Nat} {W W' : World} {pv v' u : Value} {XS : List (List Int)} {X : List Int} {VS : List Value} (h : TxE B W pv XS VS) (hu : OwnB B W u X) (hn : u ≠ .slice none 0 0) (ha : ∀ k, u.ownBlock = some k → pv.ownBlock ≠ some k)
    (ho : W'.ownsRow B 22 1 v' (XS.length + 1) (VS ++ [u])) (hg : W.grownBy W' pv.ownBlock) (hv : v'.ownBlock = pv.ownBlock ∨ v'.ownBlock = some W.heap.size) : TxE B W' v' (XS ++ [X]) (VS ++ [u]) := by
  have hl := h.1
  have far : ∀ {x : Value} {Y : List Int}, OwnB B W x Y → (∀ k, x.ownBlock = some k → pv.ownBlock ≠ some k) → ∀ k, x.ownBlock = some k → v'.ownBlock ≠ some k := fun {x Y} hx hk k e => by
    rcases hv with q | q
    · rw [q]; exact hk k e
    · rw [q]; intro e2; have := (hx.lt k e).2; have := Option.some.inj e2; omega
  refine ⟨by simp [hl], by simpa using ho, fun j hj => ?_⟩
  rw [List.length_append] at hj
  have l1 : ([X] : List (List Int)).length = 1 := rfl
  by_cases e : j = XS.length
  · subst e
    refine ⟨u, by rw [List.getElem?_append_right (by omega), hl, Nat.sub_self]; rfl, ?_, hn, far hu ha⟩
    have g : (XS ++ [X]).getD XS.length [] = X := by simp [List.getD]
    rw [g]
    exact hu.kept hg ha
  · obtain ⟨x, h1, h2, h3, h4⟩ := h.2.2 j (by omega)
    refine ⟨x, by rw [List.getElem?_append_left (by omega)]; exact h1, ?_, h3, far h2 h4⟩
    have g : (XS ++ [X]).getD j [] = XS.getD j [] := by simp [List.getD, List.getElem?_append_left (show j < XS.length by omega)]
    rw [g]
    exact h2.kept hg h4
end Go.Proofs.Ytahekhamhdfkdaa

/- Layer 7: cut. -/
namespace Go.Proofs.Ytahekhamhdfkdaa
open Go.RowKit Go.Sort
theorem lnum7_any (v : Int) (w : World) : Calls Try.prog 12 #[.int .i64 v] w fun e w' => e = .returned (.int .i64 v) ∧ Below w.heap.size w w' := by
  go_enter Try.func12, Try.ntmps12
  go_wp2
  simp [bodyPost, results, Try.results12, go_sem]
  exact Below.refl _ _
theorem Hb.grown {W W' : World} {b : Nat} {l : Bool} {s h : Int} {row : Option Nat} (x : Hb W b l s h) (hg : W.grownBy W' row) (hn : row ≠ some b) : Hb W' b l s h := by
  have e : W'.heap[b]? = W.heap[b]? := hg.block b x.lt (fun e => hn e.symm)
  obtain ⟨x0, x1, x2⟩ := x
  refine ⟨?_, ?_, ?_⟩
  · rw [← x0]; simp only [World.cell?, e]
  · rw [← x1]; simp only [World.cell?, e]
  · rw [← x2]; simp only [World.cell?, e]
end Go.Proofs.Ytahekhamhdfkdaa

/- Layer 7: Parts of any bytes. -/
namespace Go.Proofs.Ytahekhamhdfkdaa
open Go.RowKit Go.Sort
theorem TxE.base {B B' : Nat} {W : World} {pv : Value} {XS : List (List Int)} {VS : List Value} (h : TxE B W pv XS VS) (hB : B' ≤ B) : TxE B' W pv XS VS := by
  refine ⟨h.1, ?_, fun j hj => ?_⟩
  · refine ⟨h.2.1.1, ?_⟩
    rcases h.2.1.2 with q | ⟨g, cap, cur, e1, e2, e3⟩
    · exact .inl q
    · exact .inr ⟨g, cap, cur, e1, Nat.le_trans hB e2, e3⟩
  · obtain ⟨u, h1, h2, h3⟩ := h.2.2 j hj
    exact ⟨u, h1, h2.base hB, h3⟩
end Go.Proofs.Ytahekhamhdfkdaa

/- Layer 1: Get, Strict of any list; '==' of 32 bytes. -/
namespace Go.Proofs.Ytahekhamhdfkdaa
open Go.RowKit Go.Sort

def gv (X : List Int) : Int := if X.length ≤ 32 then sufN X X.length else 0
def sv (X : List Int) : Int := if X.length ≤ 32 then (if X ≠ [] ∧ X.getD 0 0 = 0 then 0 else sufN X X.length) else 0
theorem Bts.bz {W : World} {b : Nat} {l : List Int} (h : Bts W b l) : Bz W b 0 l := fun i hi => by rw [Nat.zero_add]; exact h.1 i hi
end Go.Proofs.Ytahekhamhdfkdaa
