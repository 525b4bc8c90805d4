import Derived.Test.YtdkfpakghpbofaaRjF
/- Layer 7: alike; the lists that the statement gives. -/
namespace Go.Proofs.Ytdkfpakghpbofaa
open Go.RowKit Go.Sort

set_option maxRecDepth 100000 in
set_option maxHeartbeats 8000000 in
theorem alike_big {a a' : Option Addr} {b o c b' o' c' : Nat} {XS : List (List Int)} {V V' : Nat → Value} (hl : ∀ i, i < XS.length → (XS.getD i []).length < 281474976710656) (hn : XS.length ≤ 16777216) (ha : AzP a b o XS) (ha' : AzP a' b' o' XS) (w : World) (hE : Pz w b o XS V) (hE' : Pz w b' o' XS V') :
    Calls Try.prog 11 #[.slice a XS.length c, .slice a' XS.length c'] w fun e w' => e = .returned (.bool true) ∧ Below w.heap.size w w' := by
  have HA : Hid (AzP a b o XS ∧ AzP a' b' o' XS) := ⟨ha, ha'⟩
  have HI : Hid (∀ W, Below w.heap.size w W → Pz W b o XS V ∧ Pz W b' o' XS V') := fun W B => ⟨hE.keep B, hE'.keep B⟩
  have n1 : (XS.length : Int) ≤ 16777216 := by omega
  have SK : Hid (∀ i, i < XS.length → ∀ W v v', Tz W v (XS.getD i []) → Tz W v' (XS.getD i []) → Calls Try.prog 8 #[v, v'] W fun e w' => e = .returned (.bool true) ∧ Below W.heap.size W w') := fun i hi W v v' h1 h2 => by
    obtain ⟨a1, g1, p1, c1, rfl, _, z1, _, y1⟩ := h1
    obtain ⟨a2, g2, p2, c2, rfl, _, z2, _, y2⟩ := h2
    have k := same7_any (c := c1) (c' := c2) (hl i hi) z1 z2 W y1 y2
    rw [decide_eq_true rfl] at k
    exact k
  clear hl hn ha ha' hE hE'
  go_enter Try.func11, Try.ntmps11
  go_wp2_with fail
  go_loopg [5] XS.length (fun kk iv wr => ∃ i : Nat, kk = XS.length - i ∧ i ≤ XS.length ∧ iv = .int .i64 (i : Int) ∧ Below w.heap.size w wr)
  case atStart => exact ⟨0, rfl, Nat.zero_le _, rfl, Below.refl _ _⟩
  case round =>
    obtain ⟨i, hk, hi, rfl, B⟩ := hrel
    have HK : Hid (gk = XS.length - i ∧ i ≤ XS.length) := ⟨hk, hi⟩
    clear hk
    by_cases h8 : i = XS.length
    · subst h8
      go_wp2
      simp [bodyPost, results, Try.results11, go_sem]
      exact B
    · have hlt : i < XS.length := by omega
      have hlt' : (i : Int) < (XS.length : Int) := by omega
      obtain rfl := HA.out.1.cons (by omega)
      obtain rfl := HA.out.2.cons (by omega)
      have B3 : Hid (∀ d os, Below w.heap.size w (grow (redrawn wr d) os)) := fun d os => B.trans ((below_regrown wr d os).mono B.size)
      have gk1 := fun d os => ((HI.out _ (B3.out d os)).1 i hlt).1
      have gk2 := fun d os => ((HI.out _ (B3.out d os)).2 i hlt).1
      have sk : Hid (∀ d os, Calls Try.prog 8 #[V i, V' i] (grow (redrawn wr d) os) fun e w' => e = .returned (.bool true) ∧ Below (grow (redrawn wr d) os).heap.size (grow (redrawn wr d) os) w') := fun d os => SK.out i hlt _ _ _ ((HI.out _ (B3.out d os)).1 i hlt).2 ((HI.out _ (B3.out d os)).2 i hlt).2
      clear h8 hi SK
      generalize V i = v1 at *
      generalize V' i = v2 at *
      go_wp2_with fail
      refine wp_region_quiet_below (by kernel_rfl) (by kernel_rfl) ?_
      repeat
        first
          | go_big_quiet_skip
          | (go_big_quiet_want; go_big_quiet_op; go_big_quiet_on)
          | (go_big_quiet_want
             go_big_quiet_op
             apply Exists.intro
             refine ⟨fun p => ?_, ?_⟩
             · (go_at_call 8; with_reducible exact Calls.regrown_of (sk.out _ _))
             go_big_quiet_on)
      refine wpQuiet_nil ?_
      rintro w2 ⟨q, rfl⟩
      have hb := B3.out q.d q.os
      generalize grow (redrawn wr q.d) q.os = w2 at *
      clear B3 gk1 gk2 sk
      go_wp2
      go_roundg (XS.length - (i + 1))
      case measure => have := HK.out.1; omega
      case rel => exact ⟨i + 1, rfl, hlt, by go_num, hb⟩
/-- The texts that were given so far. -/
def GvE (W : World) (gv : Value) (XS : List (List Int)) (VS : List Value) (i : Nat) : Prop := ∀ j, j < i → ∃ gj, VS[j]? = some (.slice (some ⟨gj, 0, none⟩) (XS.getD j []).length ((XS.getD j []).length + 9)) ∧ Bz W gj 0 (XS.getD j [] ++ List.replicate 9 165) ∧ gv.ownBlock ≠ some gj
theorem bz9_lt {W : World} {g : Nat} {X : List Int} (h : Bz W g 0 (X ++ List.replicate 9 165)) : g < W.heap.size := World.block_lt_of_cell? W _ (h 0 (by rw [List.length_append, List.length_replicate]; omega))
theorem Bz.grownE {W W' : World} {g p : Nat} {X : List Int} {row : Option Nat} (h : Bz W g p X) (hg : W.grownBy W' row) (hn : row ≠ some g) : Bz W' g p X := fun i hi => by
  have h1 := h i hi
  have e : W'.heap[g]? = W.heap[g]? := hg.block g (World.block_lt_of_cell? W _ h1) (fun e => hn e.symm)
  rw [← h1]; simp only [World.cell?, e]
theorem GvE.keep {W W' : World} {gv : Value} {XS : List (List Int)} {VS : List Value} {i : Nat} (h : GvE W gv XS VS i) (hb : Below W.heap.size W W') : GvE W' gv XS VS i := fun j hj => by
  obtain ⟨gj, h1, h2, h3⟩ := h j hj
  exact ⟨gj, h1, h2.keep hb, h3⟩
/-- One more, appended. -/
theorem GvE.step {W W' : World} {gv v' : Value} {XS : List (List Int)} {VS : List Value} {i gi : Nat} (hl : VS.length = i) (h : GvE W gv XS VS i) (hz : Bz W gi 0 (XS.getD i [] ++ List.replicate 9 165)) (hn : gv.ownBlock ≠ some gi) (hg : W.grownBy W' gv.ownBlock) (hv : v'.ownBlock = gv.ownBlock ∨ v'.ownBlock = some W.heap.size) :
    GvE W' v' XS (VS ++ [.slice (some ⟨gi, 0, none⟩) (XS.getD i []).length ((XS.getD i []).length + 9)]) (i + 1) := fun j hj => by
  by_cases e : j = i
  · subst e
    refine ⟨gi, by rw [List.getElem?_append_right (by omega), hl, Nat.sub_self]; rfl, hz.grownE hg hn, ?_⟩
    rcases hv with k | k
    · rw [k]; exact hn
    · rw [k]; intro e; have := Option.some.inj e; have := bz9_lt hz; omega
  · obtain ⟨gj, h1, h2, h3⟩ := h j (by omega)
    refine ⟨gj, by rw [List.getElem?_append_left (by omega)]; exact h1, h2.grownE hg h3, ?_⟩
    rcases hv with k | k
    · rw [k]; exact h3
    · rw [k]; intro e; have := Option.some.inj e; have := bz9_lt h2; omega
end Go.Proofs.Ytdkfpakghpbofaa
