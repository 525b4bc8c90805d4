import Derived.Test.YtongiohdomacoaaAcF
/- Layer 14: twins, the statement's still. -/
namespace Go.Proofs.Ytongiohdomacoaa
open Go.RowKit Go.Sort

def mkA : List Int := 195 :: List.replicate 19 0
def mkH : List Int := 195 :: List.replicate 31 0
theorem mkA_c : cB mkA = [Value.int .u8 195, .int .u8 0, .int .u8 0, .int .u8 0, .int .u8 0, .int .u8 0, .int .u8 0, .int .u8 0, .int .u8 0, .int .u8 0, .int .u8 0, .int .u8 0, .int .u8 0, .int .u8 0, .int .u8 0, .int .u8 0, .int .u8 0, .int .u8 0, .int .u8 0, .int .u8 0] := rfl
theorem mkH_c : cB mkH = [Value.int .u8 195, .int .u8 0, .int .u8 0, .int .u8 0, .int .u8 0, .int .u8 0, .int .u8 0, .int .u8 0, .int .u8 0, .int .u8 0, .int .u8 0, .int .u8 0, .int .u8 0, .int .u8 0, .int .u8 0, .int .u8 0, .int .u8 0, .int .u8 0, .int .u8 0, .int .u8 0, .int .u8 0, .int .u8 0, .int .u8 0, .int .u8 0, .int .u8 0, .int .u8 0, .int .u8 0, .int .u8 0, .int .u8 0, .int .u8 0, .int .u8 0, .int .u8 0] := rfl
theorem eq_mA (w : World) : (Op.equalIn 10000 24 (.agg #[Value.int .u8 195, .int .u8 0, .int .u8 0, .int .u8 0, .int .u8 0, .int .u8 0, .int .u8 0, .int .u8 0, .int .u8 0, .int .u8 0, .int .u8 0, .int .u8 0, .int .u8 0, .int .u8 0, .int .u8 0, .int .u8 0, .int .u8 0, .int .u8 0, .int .u8 0, .int .u8 0]) (.agg #[Value.int .u8 195, .int .u8 0, .int .u8 0, .int .u8 0, .int .u8 0, .int .u8 0, .int .u8 0, .int .u8 0, .int .u8 0, .int .u8 0, .int .u8 0, .int .u8 0, .int .u8 0, .int .u8 0, .int .u8 0, .int .u8 0, .int .u8 0, .int .u8 0, .int .u8 0, .int .u8 0])).run Try.prog w = .ok true w := by
  have h := eq_adE (X := mkA) (Y := mkA) rfl rfl w
  rw [decide_eq_true rfl, mkA_c] at h; exact h
theorem eq_mH (w : World) : (Op.equalIn 10000 26 (.agg #[Value.int .u8 195, .int .u8 0, .int .u8 0, .int .u8 0, .int .u8 0, .int .u8 0, .int .u8 0, .int .u8 0, .int .u8 0, .int .u8 0, .int .u8 0, .int .u8 0, .int .u8 0, .int .u8 0, .int .u8 0, .int .u8 0, .int .u8 0, .int .u8 0, .int .u8 0, .int .u8 0, .int .u8 0, .int .u8 0, .int .u8 0, .int .u8 0, .int .u8 0, .int .u8 0, .int .u8 0, .int .u8 0, .int .u8 0, .int .u8 0, .int .u8 0, .int .u8 0]) (.agg #[Value.int .u8 195, .int .u8 0, .int .u8 0, .int .u8 0, .int .u8 0, .int .u8 0, .int .u8 0, .int .u8 0, .int .u8 0, .int .u8 0, .int .u8 0, .int .u8 0, .int .u8 0, .int .u8 0, .int .u8 0, .int .u8 0, .int .u8 0, .int .u8 0, .int .u8 0, .int .u8 0, .int .u8 0, .int .u8 0, .int .u8 0, .int .u8 0, .int .u8 0, .int .u8 0, .int .u8 0, .int .u8 0, .int .u8 0, .int .u8 0, .int .u8 0, .int .u8 0])).run Try.prog w = .ok true w := by
  have h := eq_haE (X := mkH) (Y := mkH) rfl rfl w
  rw [decide_eq_true rfl, mkH_c] at h; exact h
theorem wpList_load_wantE {P : Program} {ops : Array Oper} {rest : List Oper} {a : Act} {w : World} {Q : Exit → Act → World → Prop} {n gi : Nat} {gb : Bool} {ty tt : TypeId} {x : Operand} {pos : String} {after : Array Edge} (b o : Nat) (cs : List Value) (d : TypeDesc) (hc : w.rangeAt b o cs)
    (hu : P.underlying ty = some d) (hd : d.isRow = true) (hi : (P.info? ty).map (·.size) = some cs.length) (hx : a.eval x = .pointer (some ⟨b, o, none⟩)) (hw : Region.wanted ⟨some n, .load ty x, tt, pos, after, some (gi, gb)⟩ (yielded ops a.tmps) = true)
    (h : wpList P ops Q rest (a.put (some n) (.agg cs.toArray)) w) : wpList P ops Q (⟨some n, .load ty x, tt, pos, after, some (gi, gb)⟩ :: rest) a w :=
  BigFrame.wpList_want hw fun _ hK => wp_load_mid ty x rfl b o hx cs d hc hu hd hi (hK _ _ h)
/-- A twin: the list in a block of its own, a mark behind it, and behind each list of keys. -/
structure Twn (W : World) (g : Nat) (L : List EE) (V : Nat → Value) : Prop where
  es : Es W g 0 L V
  mrk : W.rangeAt g (L.length * 21) (cB mkA)
  ks : ∀ i, i < L.length → ∃ gi, V i = .slice (some ⟨gi, 0, none⟩) (L.getD i zE).K.length ((L.getD i zE).K.length + 1) ∧ W.rangeAt gi 0 (kyF ((L.getD i zE).K ++ [mkH]))
theorem Twn.keep {W W' : World} {g : Nat} {L : List EE} {V : Nat → Value} (h : Twn W g L V) (hb : Below W.heap.size W W') : Twn W' g L V :=
  ⟨h.es.keep hb, rng_keep h.mrk hb, fun i hi => by obtain ⟨gi, h1, h2⟩ := h.ks i hi; exact ⟨gi, h1, rng_keep h2 hb⟩⟩
theorem W32.snoc {K : List (List Int)} (h : W32 K) : W32 (K ++ [mkH]) := fun i hi => by
  by_cases e : i < K.length
  · have := h i e
    rwa [List.getD, List.getElem?_append_left e, ← List.getD]
  · have : i = K.length := by rw [List.length_append] at hi; simp at hi; omega
    subst this
    rw [List.getD, List.getElem?_append_right (Nat.le_refl _), Nat.sub_self]; rfl
theorem snoc_at (K : List (List Int)) : (K ++ [mkH]).getD K.length [] = mkH := by
  rw [List.getD, List.getElem?_append_right (Nat.le_refl _), Nat.sub_self]; rfl
set_option maxRecDepth 100000 in
set_option maxHeartbeats 8000000 in
theorem still14_yes {a : Option Addr} {g b o c : Nat} {L : List EE} {V V' : Nat → Value} (hl : L.length ≤ 3000000000000) (hw : WfE L) (hy : KyL L) (ha : AzE a b o L) (w : World) (hT : Twn w g L V) (hE : Es w b o L V') :
    Calls Try.prog 9 #[.slice (some ⟨g, 0, none⟩) L.length (L.length + 1), .slice a L.length c] w fun e w' => e = .returned (.bool true) ∧ Below w.heap.size w w' := by
  have HA : Hid (AzE a b o L ∧ WfE L ∧ KyL L ∧ L.length ≤ 3000000000000) := ⟨ha, hw, hy, hl⟩
  have HI : Hid (∀ W, Below w.heap.size w W → Twn W g L V ∧ Es W b o L V') := fun W B => ⟨hT.keep B, hE.keep B⟩
  have n1 : (L.length : Int) ≤ 3000000000000 := by omega
  have SL : Hid (∀ W, Below w.heap.size w W → Calls Try.prog 11 #[.slice (some ⟨g, 0, none⟩) L.length (L.length + 1), .slice a L.length c] W fun e w' => e = .returned (.bool true) ∧ Below W.heap.size W w') := fun W B => sameList_yes hl hw hy (.inr rfl) ha W (hT.es.keep B) (hE.keep B)
  have EA := eq_mA
  have EH := eq_mH
  clear hl hw ha hE hT hy
  go_enter Try.func9, Try.ntmps9
  go_wp2_with fail
  with_reducible refine (SL.out w (Below.refl _ _)).mono ?_
  rintro e w1 ⟨rfl, B1⟩
  have mk : w1.rangeAt g (L.length * 21) [Value.int .u8 195, .int .u8 0, .int .u8 0, .int .u8 0, .int .u8 0, .int .u8 0, .int .u8 0, .int .u8 0, .int .u8 0, .int .u8 0, .int .u8 0, .int .u8 0, .int .u8 0, .int .u8 0, .int .u8 0, .int .u8 0, .int .u8 0, .int .u8 0, .int .u8 0, .int .u8 0] := by rw [← mkA_c]; exact (HI.out w1 B1).1.mrk
  go_wp2_with ((with_reducible refine wpList_load_wantE (ty := 24) g (L.length * 21) [Value.int .u8 195, .int .u8 0, .int .u8 0, .int .u8 0, .int .u8 0, .int .u8 0, .int .u8 0, .int .u8 0, .int .u8 0, .int .u8 0, .int .u8 0, .int .u8 0, .int .u8 0, .int .u8 0, .int .u8 0, .int .u8 0, .int .u8 0, .int .u8 0, .int .u8 0, .int .u8 0] _ mk Try.underlying24 ?_ ?_ ?_ ?_ ?_); rfl; exact size_adE; rfl; rfl; simp only [Act.put, List.setIfInBounds_toArray, List.set_cons_succ, List.set_cons_zero])
  go_loopg [6] L.length (fun kk iv wr => ∃ i : Nat, kk = L.length - i ∧ i ≤ L.length ∧ iv = .int .i64 (i : Int) ∧ Below w.heap.size w wr)
  case atStart => exact ⟨0, rfl, Nat.zero_le _, rfl, B1⟩
  case round =>
    clear mk B1 w1 EA
    obtain ⟨i, hk, hi, rfl, B⟩ := hrel
    have HK : Hid (gk = L.length - i ∧ i ≤ L.length) := ⟨hk, hi⟩
    clear hk
    by_cases h8 : i = L.length
    · subst h8
      go_wp2
      simp [bodyPost, results, Try.results9, go_sem]
      exact B
    · have hlt : i < L.length := by omega
      have hlt' : (i : Int) < (L.length : Int) := by omega
      obtain rfl := HA.out.1.cons (by omega)
      have c1 := (HI.out wr B).2.key HA.out.2.1 hlt
      have c2 := (HI.out wr B).1.es.key HA.out.2.1 hlt
      rw [Nat.zero_add] at c2
      obtain ⟨ak, gk', pk, ck, ev, h2, h3, h4⟩ := ((HI.out wr B).2 i hlt).2
      obtain ⟨gi, ev2, rk⟩ := (HI.out wr B).1.ks i hlt
      rw [ev] at c1
      rw [ev2] at c2
      have rm : wr.rangeAt gi ((L.getD i zE).K.length * 32) [Value.int .u8 195, .int .u8 0, .int .u8 0, .int .u8 0, .int .u8 0, .int .u8 0, .int .u8 0, .int .u8 0, .int .u8 0, .int .u8 0, .int .u8 0, .int .u8 0, .int .u8 0, .int .u8 0, .int .u8 0, .int .u8 0, .int .u8 0, .int .u8 0, .int .u8 0, .int .u8 0, .int .u8 0, .int .u8 0, .int .u8 0, .int .u8 0, .int .u8 0, .int .u8 0, .int .u8 0, .int .u8 0, .int .u8 0, .int .u8 0, .int .u8 0, .int .u8 0] := by
        have h := ky_range (i := (L.getD i zE).K.length) rk (HA.out.2.1 i hlt).2.snoc (by rw [List.length_append]; simp)
        rw [snoc_at, Nat.zero_add, mkH_c] at h
        exact h
      have n2 : ((L.getD i zE).K.length : Int) ≤ 5000000000000 := by have := HA.out.2.2.1 i hlt; omega
      clear h2 h3 h4 ev ev2 rk h8 hi
      generalize (L.getD i zE).K.length = n at *
      go_wp2_with (refine wpList_load_mid rfl _ _ rfl gi (n * 32) rfl [Value.int .u8 195, .int .u8 0, .int .u8 0, .int .u8 0, .int .u8 0, .int .u8 0, .int .u8 0, .int .u8 0, .int .u8 0, .int .u8 0, .int .u8 0, .int .u8 0, .int .u8 0, .int .u8 0, .int .u8 0, .int .u8 0, .int .u8 0, .int .u8 0, .int .u8 0, .int .u8 0, .int .u8 0, .int .u8 0, .int .u8 0, .int .u8 0, .int .u8 0, .int .u8 0, .int .u8 0, .int .u8 0, .int .u8 0, .int .u8 0, .int .u8 0, .int .u8 0] _ rm Try.underlying26 rfl size_haE ?_)
      go_roundg (L.length - (i + 1))
      case measure => have := HK.out.1; omega
      case rel => exact ⟨i + 1, rfl, hlt, by go_num, B⟩
end Go.Proofs.Ytongiohdomacoaa
