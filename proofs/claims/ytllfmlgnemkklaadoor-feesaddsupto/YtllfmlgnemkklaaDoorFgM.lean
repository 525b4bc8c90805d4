import Derived.Test.YtllfmlgnemkklaaDoorFgL
/- Layer 18: a transaction with another access list: what Draft and Intrinsic tell of it. -/
namespace Go.Proofs.YtllfmlgnemkklaaDoor
open Go.RowKit Go.Sort
open tq
theorem strayT_wE2 {u : Txv} {a : Option Addr} {g c : Nat} {L : List En} {k : Nat} (hk : k = 1 ∨ k = 2 ∨ k = 3 ∨ k = 4) (f : Nat) : strayT (wE2 u a g c L) k f = strayT u k f := by
  by_cases h : f = 9
  · subst h
    have e : decide (((9 : Nat) : Int) ∈ rowsT.getD k []) = true := by rcases hk with rfl | rfl | rfl | rfl <;> decide
    unfold strayT
    rw [e]; rfl
  · have e : blankT (wE2 u a g c L) (f : Int) = blankT u (f : Int) := by
      have h9 : ¬ (f : Int) = 9 := by omega
      unfold blankT
      rw [if_neg h9, if_neg h9]
      rfl
    unfold strayT
    rw [e]
theorem df_wE2 {u : Txv} {a : Option Addr} {g c : Nat} {L : List En} (h0 : u.ty ≠ 0) : dfN (wE2 u a g c L) = dfN u := by
  by_cases c5 : u.ty < 0 ∨ 5 ≤ u.ty
  · have c5' : (wE2 u a g c L).ty < 0 ∨ 5 ≤ (wE2 u a g c L).ty := c5
    unfold dfN
    rw [if_pos c5, if_pos c5']
  · have hk : u.ty.toNat = 1 ∨ u.ty.toNat = 2 ∨ u.ty.toNat = 3 ∨ u.ty.toNat = 4 := by omega
    have e : straysT (wE2 u a g c L) u.ty.toNat = straysT u u.ty.toNat := by
      unfold straysT
      rw [show strayT (wE2 u a g c L) u.ty.toNat = strayT u u.ty.toNat from funext fun f => strayT_wE2 hk f]
    have e' : straysT (wE2 u a g c L) (wE2 u a g c L).ty.toNat = straysT u u.ty.toNat := e
    unfold dfN
    rw [e']
    rfl
theorem igT_wE3 {u t : Txv} (a : Option Addr) (g c : Nat) (e9 : En) (h1 : u.Dl = t.Dl) (h2 : u.cr = t.cr) (h3 : u.Ul = t.Ul) : igT (wE2 u a g c (t.El ++ [e9])) = igT t + 2400 + 1900 * (e9.ks.length : Int) := by
  rw [← igT_wE2 t a g c e9]
  unfold igT wE2
  simp only [h1, h2, h3]
/-- A transaction in a block of its own, its access list gathered. -/
def GtE (V0 wr : World) (b : Nat) (C : List Value) (L : List En) : Prop := tq.Wr V0 wr b ∧ ∃ a c, wr.rangeAt b 0 (C.set 42 (.slice a L.length c)) ∧ wr.there b 0 61 ∧ wr.ownsRow V0.heap.size 41 21 (.slice a L.length c) L.length (flatC enC L)
theorem row_form {W : World} {B k n : Nat} {e : TypeId} {v : Value} {xs : List Value} (h : W.ownsRow B e k v (n + 1) xs) : ∃ g c, v = .slice (some ⟨g, 0, none⟩) (n + 1) c ∧ n + 1 ≤ c ∧ B ≤ g := by
  rcases h.2 with ⟨_, h0⟩ | ⟨g, c, cur, x, hb, _, y, _⟩
  · cases h0
  · exact ⟨g, c, x, y, hb⟩
theorem esG_own {W : World} {B g c : Nat} {L : List En} (h : W.ownsRow B 41 21 (.slice (some ⟨g, 0, none⟩) L.length c) L.length (flatC enC L)) (hp : 0 < L.length) (hc : L.length ≤ c) (hg : ∀ j, j < L.length → EnG W (L.getD j zEn)) : EsG W (some ⟨g, 0, none⟩) g 0 c L := by
  obtain ⟨g', c', e, _, _, _, h4⟩ := own_at h hp
  obtain rfl : g = g' := by injection e with e1; injection e1 with e2; injection e2
  refine ⟨⟨hc, fun e => by cases e⟩, .inr rfl, fun j hj => ⟨hg j hj, ?_⟩⟩
  exact flat_at zEn L 0 (fun i hi => enC_len (hg i hi).1.1) h4 j hj
def e9T (a : Option Addr) (b o c : Nat) (K : List (List Int)) : En := ⟨List.replicate 20 0, a, b, o, c, K⟩
theorem e9_good {W : World} {a : Option Addr} {b o c : Nat} {K : List (List Int)} (h : KsG W a b o c K) : EnG W (e9T a b o c K) := ⟨⟨by simp [e9T], fun x hx => by simp only [e9T] at hx; obtain rfl := List.eq_of_mem_replicate hx; exact ⟨by decide, by decide⟩⟩, h⟩
theorem bdG_wE2 {u : Txv} {a : Option Addr} {g c : Nat} {L : List En} {e9 : En} (h : BdG u) (hl : L.length < 9999999) (hk : ∀ i, i < L.length → (L.getD i zEn).ks.length < 10000000) (h9 : e9.ks.length < 10000000) : BdG (wE2 u a g c (L ++ [e9])) := by
  refine ⟨h.1, ?_, fun i hi => ?_, h.2.2.2⟩
  · show (L ++ [e9]).length < _
    rw [List.length_append, List.length_singleton]; omega
  · show ((L ++ [e9]).getD i zEn).ks.length < _
    have hi' : i < (L ++ [e9]).length := hi
    by_cases c : i < L.length
    · have : (L ++ [e9]).getD i zEn = L.getD i zEn := by rw [List.getD, List.getD, List.getElem?_append_left c]
      rw [this]; exact hk i c
    · have e : i = L.length := by rw [List.length_append, List.length_singleton] at hi'; omega
      subst e
      have : (L ++ [e9]).getD L.length zEn = e9 := by simp [List.getD]
      rw [this]; exact h9
end Go.Proofs.YtllfmlgnemkklaaDoor
