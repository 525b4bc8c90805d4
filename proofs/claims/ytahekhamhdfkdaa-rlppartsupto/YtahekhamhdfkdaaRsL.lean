import Derived.Test.YtahekhamhdfkdaaRsG
/- Layer 7: Parts of a head that is refused, or of a text. -/
namespace Go.Proofs.Ytahekhamhdfkdaa
open Go.RowKit Go.Sort
set_option maxRecDepth 100000 in
set_option maxHeartbeats 4000000 in
theorem parts_err {a : Option Addr} {m c : Nat} {l : Bool} {s h e0 : Int} (he : e0 ≠ 0) (w : World)
    (FH : Hid (∀ w1, Below w.heap.size w w1 → Calls Try.prog 37 #[.slice a m c] w1 fun e w' => e = .returned (.tuple #[.agg #[.bool l, .int .i64 s, .int .i64 h], .int .i64 e0]) ∧ Below w1.heap.size w1 w')) :
    Calls Try.prog 22 #[.slice a m c] w fun e w' => e = .returned (.tuple #[.slice none 0 0, .int .i64 e0]) ∧ Below w.heap.size w w' := by
  have b6 : (e0 == 0) = false := beq_false_of_ne he
  have b7 : (e0 != 0) = true := bne_iff_ne.2 he
  go_enter Try.func22, Try.ntmps22
  go_wp2_with fail
  with_reducible refine (FH.out w (Below.refl _ _)).mono ?_
  rintro e w1 ⟨rfl, B⟩
  clear FH
  go_wp2
  simp [bodyPost, results, Try.results22, go_sem]
  exact B.alloc B.size _
set_option maxRecDepth 100000 in
set_option maxHeartbeats 4000000 in
theorem parts_kind {a : Option Addr} {m c : Nat} {s h : Int} (w : World)
    (FH : Hid (∀ w1, Below w.heap.size w w1 → Calls Try.prog 37 #[.slice a m c] w1 fun e w' => e = .returned (.tuple #[.agg #[.bool false, .int .i64 s, .int .i64 h], .int .i64 0]) ∧ Below w1.heap.size w1 w')) :
    Calls Try.prog 22 #[.slice a m c] w fun e w' => e = .returned (.tuple #[.slice none 0 0, .int .i64 75]) ∧ Below w.heap.size w w' := by
  go_enter Try.func22, Try.ntmps22
  go_wp2_with fail
  with_reducible refine (FH.out w (Below.refl _ _)).mono ?_
  rintro e w1 ⟨rfl, B⟩
  clear FH
  go_wp2
  simp [bodyPost, results, Try.results22, go_sem]
  exact B.alloc B.size _
set_option maxRecDepth 100000 in
set_option maxHeartbeats 4000000 in
theorem parts_rest {a : Option Addr} {m c s h : Nat} (hn : s + h < m) (hm : m ≤ 16777216) (w : World)
    (FH : Hid (∀ w1, Below w.heap.size w w1 → Calls Try.prog 37 #[.slice a m c] w1 fun e w' => e = .returned (.tuple #[.agg #[.bool true, .int .i64 (s : Int), .int .i64 (h : Int)], .int .i64 0]) ∧ Below w1.heap.size w1 w')) :
    Calls Try.prog 22 #[.slice a m c] w fun e w' => e = .returned (.tuple #[.slice none 0 0, .int .i64 73]) ∧ Below w.heap.size w w' := by
  obtain ⟨t, et⟩ : ∃ t, t = s + h := ⟨_, rfl⟩
  have WH : Hid (∀ W, Calls Try.prog 38 #[.agg #[.bool true, .int .i64 (s : Int), .int .i64 (h : Int)]] W fun e w' => e = .returned (.int .i64 (t : Int)) ∧ Below W.heap.size W w') := fun W => by
    have r := whole_any (l := true) (s := s) (h := h) (by omega) (by omega) W
    rwa [show ((s : Int) + (h : Int)) = (t : Int) by omega] at r
  have k1 : (t : Int) < (m : Int) := by omega
  clear hn hm et
  go_enter Try.func22, Try.ntmps22
  go_wp2_with fail
  with_reducible refine (FH.out w (Below.refl _ _)).mono ?_
  rintro e w1 ⟨rfl, B⟩
  clear FH
  go_wp2_with (go_at_call 38; refine (WH.out _).mono ?_; rintro e x ⟨rfl, hbx⟩)
  simp [bodyPost, results, Try.results22, go_sem]
  have b2 := B.alloc (o := .cells #[.bool true, .int .i64 (s : Int), .int .i64 (h : Int)] 67) B.size
  exact b2.trans (hbx.mono b2.size)
set_option maxRecDepth 100000 in
set_option maxHeartbeats 4000000 in
theorem parts_on {b o m c s h : Nat} {R : World → Value → Int → Prop} (hn : s + h = m) (hm : m ≤ 16777216) (hc : m ≤ c) (w : World)
    (FH : Hid (∀ w1, Below w.heap.size w w1 → Calls Try.prog 37 #[.slice (some ⟨b, o, none⟩) m c] w1 fun e w' => e = .returned (.tuple #[.agg #[.bool true, .int .i64 (s : Int), .int .i64 (h : Int)], .int .i64 0]) ∧ Below w1.heap.size w1 w'))
    (CU : Hid (∀ w1, Below w.heap.size w w1 → Calls Try.prog 39 #[.slice (some ⟨b, atO o c s, none⟩) (m - s) (c - s)] w1 fun e w' => ∃ v k, e = .returned (.tuple #[v, .int .i64 k]) ∧ R w' v k ∧ Below w1.heap.size w1 w')) :
    Calls Try.prog 22 #[.slice (some ⟨b, o, none⟩) m c] w fun e w' => ∃ v k, e = .returned (.tuple #[v, .int .i64 k]) ∧ R w' v k ∧ Below w.heap.size w w' := by
  have WH : Hid (∀ W, Calls Try.prog 38 #[.agg #[.bool true, .int .i64 (s : Int), .int .i64 (h : Int)]] W fun e w' => e = .returned (.int .i64 (m : Int)) ∧ Below W.heap.size W w') := fun W => by
    have r := whole_any (l := true) (s := s) (h := h) (by omega) (by omega) W
    rwa [show ((s : Int) + (h : Int)) = (m : Int) by omega] at r
  have k1 : (s : Int) ≤ (m : Int) := by omega
  have k2 : s ≤ m := by omega
  have k3 : m ≤ c := hc
  have k4 : (m : Int) ≤ (c : Int) := by omega
  have ae : (if c = s then some (⟨b, o, none⟩ : Addr) else some ⟨b, o + s, none⟩) = some ⟨b, atO o c s, none⟩ := by unfold atO; split <;> rfl
  clear hn hm hc
  go_enter Try.func22, Try.ntmps22
  go_wp2_with fail
  with_reducible refine (FH.out w (Below.refl _ _)).mono ?_
  rintro e w1 ⟨rfl, B⟩
  clear FH
  have b2 := B.alloc (o := .cells #[.bool true, .int .i64 (s : Int), .int .i64 (h : Int)] 67) B.size
  go_wp2_with (first | (go_at_call 38; (refine (WH.out _).mono ?_); rintro e x ⟨rfl, hbx⟩; obtain ⟨g0, g1, g2⟩ := (Hb.new (W := w1) (t := 67) (l := true) (s := (s : Int)) (h := (h : Int))).keep hbx) | (go_at_call 39; (refine (CU.out _ (b2.trans (hbx.mono b2.size))).mono ?_); rintro e y ⟨v, k, rfl, hR, hby⟩))
  have b3 := b2.trans (hbx.mono b2.size)
  have b4 := b3.trans (hby.mono b3.size)
  clear b2 b3 hby hbx g0 g1 g2 CU WH B
  simp [bodyPost, results, Try.results22, go_sem]
  exact ⟨v, k, ⟨rfl, rfl⟩, hR, b4⟩
end Go.Proofs.Ytahekhamhdfkdaa

/- Layer 7: what cut answers, as a function of the bytes. -/
namespace Go.Proofs.Ytahekhamhdfkdaa
open Go.RowKit Go.Sort
/-- How many bytes the first item has, head and all. -/
def totP (A : List Int) : Nat := (hdP A).2.1 + (hdP A).2.2.1
/-- The items one behind the other, gathered: n bounds their number. -/
def cutA : Nat → List (List Int) → List Int → Int × List (List Int)
  | 0, XS, _ => (0, XS)
  | n + 1, XS, A => if A.length = 0 then (0, XS) else if (hdP A).2.2.2 ≠ 0 then ((hdP A).2.2.2, []) else cutA n (XS ++ [A.take (totP A)]) (A.drop (totP A))
theorem totP_fits {A : List Int} (e : (hdP A).2.2.2 = 0) : totP A ≤ A.length ∧ 1 ≤ totP A := ⟨(hdP_fits e).2.1, (hdP_fits e).2.2⟩
theorem cutA_end (n : Nat) (XS : List (List Int)) {A : List Int} (h : A.length = 0) : cutA n XS A = (0, XS) := by
  cases n with
  | zero => rfl
  | succ n => rw [cutA, if_pos h]
/-- More fuel than bytes changes nothing. -/
theorem cutA_fuel : ∀ (n m : Nat) (XS : List (List Int)) (A : List Int), A.length ≤ n → A.length ≤ m → cutA n XS A = cutA m XS A
  | 0, m, XS, A, h, _ => by rw [cutA_end 0 XS (by omega), cutA_end m XS (by omega)]
  | n + 1, 0, XS, A, _, h => by rw [cutA_end _ XS (by omega), cutA_end 0 XS (by omega)]
  | n + 1, m + 1, XS, A, h1, h2 => by
    rw [cutA, cutA]
    by_cases k : A.length = 0
    · rw [if_pos k, if_pos k]
    · rw [if_neg k, if_neg k]
      by_cases e : (hdP A).2.2.2 ≠ 0
      · rw [if_pos e, if_pos e]
      · rw [if_neg e, if_neg e]
        have f := totP_fits (Decidable.not_not.1 e)
        have d : (A.drop (totP A)).length = A.length - totP A := List.length_drop ..
        exact cutA_fuel n m _ _ (by omega) (by omega)
/-- What cut answers. -/
def cutP (XS : List (List Int)) (A : List Int) : Int × List (List Int) := cutA A.length XS A
theorem cutP_nil (XS : List (List Int)) {A : List Int} (h : A.length = 0) : cutP XS A = (0, XS) := cutA_end _ _ h
theorem cutP_err (XS : List (List Int)) {A : List Int} (h : A.length ≠ 0) (e : (hdP A).2.2.2 ≠ 0) : cutP XS A = ((hdP A).2.2.2, []) := by
  unfold cutP
  obtain ⟨n, en⟩ : ∃ n, A.length = n + 1 := ⟨A.length - 1, by omega⟩
  rw [en, cutA, if_neg h, if_pos e]
theorem cutP_step (XS : List (List Int)) {A : List Int} (h : A.length ≠ 0) (e : (hdP A).2.2.2 = 0) : cutP XS A = cutP (XS ++ [A.take (totP A)]) (A.drop (totP A)) := by
  have f := totP_fits e
  have d : (A.drop (totP A)).length = A.length - totP A := List.length_drop ..
  obtain ⟨n, en⟩ : ∃ n, A.length = n + 1 := ⟨A.length - 1, by omega⟩
  have q : cutA (n + 1) XS A = cutA n (XS ++ [A.take (totP A)]) (A.drop (totP A)) := by rw [cutA, if_neg h, if_neg (fun x => x e)]
  unfold cutP
  rw [en, q]
  exact cutA_fuel _ _ _ _ (by omega) (Nat.le_refl _)
end Go.Proofs.Ytahekhamhdfkdaa

/- Layer 7: a list of texts of one's own. -/
namespace Go.Proofs.Ytahekhamhdfkdaa
open Go.RowKit Go.Sort
/-- A list of texts: the row and each text in memory of one's own, apart from the row. -/
def TxE (B : Nat) (W : World) (pv : Value) (XS : List (List Int)) (VS : List Value) : Prop :=
  VS.length = XS.length ∧ W.ownsRow B 22 1 pv XS.length VS ∧ ∀ j, j < XS.length → ∃ u, VS[j]? = some u ∧ OwnB B W u (XS.getD j []) ∧ u ≠ .slice none 0 0 ∧ (∀ k, u.ownBlock = some k → pv.ownBlock ≠ some k)
theorem TxE.nil (B : Nat) (W : World) : TxE B W (.slice none 0 0) [] [] := ⟨rfl, ⟨rfl, .inl ⟨rfl, rfl⟩⟩, fun _ hj => absurd hj (Nat.not_lt_zero _)⟩
theorem TxE.keep {B : Nat} {W W' : World} {pv : Value} {XS : List (List Int)} {VS : List Value} (h : TxE B W pv XS VS) (hb : Below W.heap.size W W') : TxE B W' pv XS VS := by
  refine ⟨h.1, World.ownsRow.kept h.2.1 (grown_of_below hb Option.none) (by cases pv.ownBlock <;> simp), fun j hj => ?_⟩
  obtain ⟨u, h1, h2, h3, h4⟩ := h.2.2 j hj
  exact ⟨u, h1, h2.keep hb, h3, h4⟩
theorem TxE.step {B : Nat} {W W' : World} {pv v' u : Value} {XS : List (List Int)} {X : List Int} {VS : List Value} (h : TxE B W pv XS VS) (hu : OwnB B W u X) (hn : u ≠ .slice none 0 0) (ha : ∀ k, u.ownBlock = some k → pv.ownBlock ≠ some k)
    (ho : W'.ownsRow B 22 1 v' (XS.length + 1) (VS ++ [u])) (hg : W.grownBy W' pv.ownBlock) (hv : v'.ownBlock = pv.ownBlock ∨ v'.ownBlock = some W.heap.size) : TxE B W' v' (XS ++ [X]) (VS ++ [u]) := by
  have hl := h.1
  have far : ∀ {x : Value} {Y : List Int}, OwnB B W x Y → (∀ k, x.ownBlock = some k → pv.ownBlock ≠ some k) → ∀ k, x.ownBlock = some k → v'.ownBlock ≠ some k := fun {x Y} hx hk k e => by
    rcases hv with q | q
    · rw [q]; exact hk k e
    · rw [q]; intro e2; have := (hx.lt k e).2; have := Option.some.inj e2; omega
  refine ⟨by simp [hl], by simpa using ho, fun j hj => ?_⟩
  rw [List.length_append] at hj
  have l1 : ([X] : List (List Int)).length = 1 := rfl
  by_cases e : j = XS.length
  · subst e
    refine ⟨u, by rw [List.getElem?_append_right (by omega), hl, Nat.sub_self]; rfl, ?_, hn, far hu ha⟩
    have g : (XS ++ [X]).getD XS.length [] = X := by simp [List.getD]
    rw [g]
    exact hu.kept hg ha
  · obtain ⟨x, h1, h2, h3, h4⟩ := h.2.2 j (by omega)
    refine ⟨x, by rw [List.getElem?_append_left (by omega)]; exact h1, ?_, h3, far h2 h4⟩
    have g : (XS ++ [X]).getD j [] = XS.getD j [] := by simp [List.getD, List.getElem?_append_left (show j < XS.length by omega)]
    rw [g]
    exact h2.kept hg h4
end Go.Proofs.Ytahekhamhdfkdaa
