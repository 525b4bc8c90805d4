import Derived.Test.YtlmlhiookoediaaRjC
import Derived.Test.YtlmlhiookoediaaCZL
/- Layer 7: Join of both sides. -/
namespace Go.Proofs.Ytlmlhiookoediaa
open Go.RowKit Go.Sort

/-- A text where a slice points. -/
def Tz (W : World) (v : Value) (X : List Int) : Prop := ∃ a g p c, v = .slice a X.length c ∧ X.length ≤ c ∧ Az a g p X ∧ (a = none → c = 0) ∧ Bz W g p X
theorem Tz.keep {W W' : World} {v : Value} {X : List Int} (h : Tz W v X) (hb : Below W.heap.size W W') : Tz W' v X := by
  obtain ⟨a, g, p, c, h1, h2, h3, h4, h5⟩ := h
  exact ⟨a, g, p, c, h1, h2, h3, h4, h5.keep hb⟩
/-- Texts in a row. -/
def Pz (W : World) (b o : Nat) (XS : List (List Int)) (V : Nat → Value) : Prop := ∀ i, i < XS.length → W.cell? ⟨b, o + i, none⟩ = some (V i) ∧ Tz W (V i) (XS.getD i [])
theorem Pz.keep {W W' : World} {b o : Nat} {XS : List (List Int)} {V : Nat → Value} (h : Pz W b o XS V) (hb : Below W.heap.size W W') : Pz W' b o XS V := fun i hi => ⟨cell_keep hb (h i hi).1, (h i hi).2.keep hb⟩
def AzP (a : Option Addr) (b o : Nat) (XS : List (List Int)) : Prop := XS = [] ∨ a = some ⟨b, o, none⟩
theorem AzP.cons {a : Option Addr} {b o : Nat} {XS : List (List Int)} (h : AzP a b o XS) (hl : 0 < XS.length) : a = some ⟨b, o, none⟩ := by
  rcases h with h | h
  · rw [h] at hl; exact absurd hl (Nat.lt_irrefl _)
  · exact h
def lenS (XS : List (List Int)) : Nat → Nat
  | 0 => 0
  | i + 1 => lenS XS i + (XS.getD i []).length
theorem lenS_mono (XS : List (List Int)) {i : Nat} : ∀ n, i ≤ n → lenS XS i ≤ lenS XS n
  | 0, h => by obtain rfl := Nat.le_zero.1 h; exact Nat.le_refl _
  | n + 1, h => by
    by_cases k : i = n + 1
    · rw [k]; exact Nat.le_refl _
    · have h1 := lenS_mono XS n (i := i) (by omega)
      show lenS XS i ≤ lenS XS n + _
      omega
def flS (XS : List (List Int)) : Nat → List Int
  | 0 => []
  | i + 1 => flS XS i ++ XS.getD i []
theorem flS_len (XS : List (List Int)) : ∀ n, (flS XS n).length = lenS XS n
  | 0 => rfl
  | n + 1 => by rw [flS, List.length_append, flS_len XS n, lenS]
def LimS (n : Nat) : Prop := n ≤ 1048576
theorem LimS.le {n : Nat} (h : LimS n) : n ≤ 1048576 := h
set_option maxRecDepth 100000 in
set_option maxHeartbeats 8000000 in
theorem rjoin_any {a : Option Addr} {b o c : Nat} {XS : List (List Int)} {V : Nat → Value} (hl : lenS XS XS.length ≤ 1048576) (hn : XS.length ≤ 1048576) (ha : AzP a b o XS) (w : World) (hE : Pz w b o XS V) :
    Calls Try.prog 6 #[.slice a XS.length c] w fun e w' => ∃ v, e = .returned (.tuple #[v, .int .i64 0]) ∧ OwnB w.heap.size w' v (hdR 192 (lenS XS XS.length) ++ flS XS XS.length) ∧ Below w.heap.size w w' := by
  have HA : Hid (AzP a b o XS ∧ LimS XS.length ∧ ∀ i, i ≤ XS.length → LimS (lenS XS i)) := ⟨ha, hn, fun i hi => Nat.le_trans (lenS_mono XS _ hi) hl⟩
  have HI : Hid (∀ W, Below w.heap.size w W → Pz W b o XS V) := fun W B => hE.keep B
  have n1 : (XS.length : Int) ≤ 1048576 := by omega
  have BF : Hid (∀ W, Calls Try.prog 13 #[.int .i64 (lenS XS XS.length : Int), .int .i64 192] W fun e w' => ∃ v', e = .returned v' ∧ OwnB W.heap.size w' v' (hdR 192 (lenS XS XS.length)) ∧ Below W.heap.size W w') := fun W => before_any (by omega) W
  have HL : Hid ((hdR 192 (lenS XS XS.length)).length ≤ 4) := hdR_len _ _
  have SX : Hid (∀ i, lenS XS (i + 1) = lenS XS i + (XS.getD i []).length ∧ flS XS (i + 1) = flS XS i ++ XS.getD i [] ∧ (flS XS i).length = lenS XS i) := fun i => ⟨rfl, rfl, flS_len XS i⟩
  clear hl hn ha hE
  obtain ⟨hd, ehd⟩ : ∃ hd, hd = hdR 192 (lenS XS XS.length) := ⟨_, rfl⟩
  rw [← ehd] at BF HL ⊢
  clear ehd
  go_enter Try.func6, Try.ntmps6
  go_wp2_with fail
  go_loopg [4, 5] XS.length (fun k sv iv wr => ∃ i : Nat, k = XS.length - i ∧ i ≤ XS.length ∧ sv = .int .i64 (lenS XS i : Int) ∧ iv = .int .i64 (i : Int) ∧ Below w.heap.size w wr)
  case atStart => exact ⟨0, rfl, Nat.zero_le _, rfl, rfl, Below.refl _ _⟩
  case round =>
    obtain ⟨i, hk, hi, rfl, rfl, B⟩ := hrel
    have HK : Hid (gk = XS.length - i ∧ i ≤ XS.length) := ⟨hk, hi⟩
    have l0' : (lenS XS i : Int) ≤ 1048576 := by have := (HA.out.2.2 i hi).le; omega
    clear hk
    by_cases h8 : i = XS.length
    · subst h8
      clear HK hi
      go_wp2_with fail
      with_reducible refine (BF.out wr).mono ?_
      have sB := B.size
      rintro e w1 ⟨v1, rfl, o1, b1⟩
      replace B := B.trans (b1.mono B.size)
      clear BF
      have O1 := o1.base (B' := w.heap.size) sB
      obtain ⟨a1, g1, c1, rfl, q1, z1, y1, _, _, nc1⟩ := o1.lies
      have l4 : (hd.length : Int) ≤ 4 := by have := HL.out; omega
      clear b1 o1 sB
      go_wp2_with fail
      go_loopg [6, 7] XS.length (fun k ov iv wr => ∃ i : Nat, k = XS.length - i ∧ i ≤ XS.length ∧ iv = .int .i64 (i : Int) ∧ OwnB w.heap.size wr ov (hd ++ flS XS i) ∧ Below w.heap.size w wr)
      case atStart => exact ⟨0, rfl, Nat.zero_le _, rfl, by rw [show flS XS 0 = [] from rfl, List.append_nil]; exact O1, B⟩
      case round =>
        clear O1 B z1 y1 q1 nc1
        obtain ⟨i, hk, hi, rfl, oo, B⟩ := hrel
        have HK : Hid (gk = XS.length - i ∧ i ≤ XS.length) := ⟨hk, hi⟩
        have HF : Hid (OwnB w.heap.size wr u6 (hd ++ flS XS i) ∧ Below w.heap.size w wr) := ⟨oo, B⟩
        clear hk oo
        by_cases h8 : i = XS.length
        · subst h8
          go_wp2
          simp [bodyPost, results, Try.results6, go_sem]
          exact ⟨HF.out.1, HF.out.2⟩
        · have hlt : i < XS.length := by omega
          have hlt' : (i : Int) < (XS.length : Int) := by omega
          obtain rfl := HA.out.1.cons (by omega)
          obtain ⟨c1, ak, gk', pk, ck, ev, h2, h3, h4, h5⟩ := HI.out wr B i hlt
          rw [ev] at c1
          have SR : Hid (Az ak gk' pk (XS.getD i []) ∧ (ak = none → ck = 0) ∧ Bz wr gk' pk (XS.getD i []) ∧ (hd ++ flS XS i).length + (XS.getD i []).length < 140737488355000 ∧ w.heap.size ≤ wr.heap.size) := ⟨h3, h4, h5, by
            rw [List.length_append, (SX.out i).2.2]
            have := HL.out
            have := (HA.out.2.2 (i + 1) hlt).le
            rw [(SX.out i).1] at this
            omega, B.size⟩
          have NX : Hid (hd ++ flS XS (i + 1) = (hd ++ flS XS i) ++ XS.getD i []) := by show _ = _; rw [(SX.out i).2.1, List.append_assoc]
          clear ev h2 h3 h4 h5 hi h8 B SX HI HL
          generalize XS.getD i [] = X at *
          generalize hd ++ flS XS i = Z at *
          go_wp2_with ((at_builtin; refine wpList_append_rd rfl _ _ rfl rfl rfl rfl HF.out.1 SR.out.1 SR.out.2.1 SR.out.2.2.1 SR.out.2.2.2.1 SR.out.2.2.2.2 ?_); intro v3 w3 o3 g3)
          have HO : Hid (OwnB w.heap.size w3 v3 (hd ++ flS XS (i + 1)) ∧ Below w.heap.size w w3) := ⟨by rw [NX.out]; exact o3, HF.out.2.grown g3 HF.out.2.size (fun k hk => (HF.out.1.lt k hk).1)⟩
          clear o3 g3
          go_roundg (XS.length - (i + 1))
          case measure => have := HK.out.1; omega
          case rel => exact ⟨i + 1, rfl, hlt, by go_num, HO.out⟩
    · have hlt : i < XS.length := by omega
      have hlt' : (i : Int) < (XS.length : Int) := by omega
      obtain rfl := HA.out.1.cons (by omega)
      obtain ⟨c1, ak, gk', pk, ck, ev, h2, h3, h4, h5⟩ := HI.out wr B i hlt
      rw [ev] at c1
      have l1' : (lenS XS i : Int) + ((XS.getD i []).length : Int) ≤ 1048576 := by have := (HA.out.2.2 (i + 1) hlt).le; rw [(SX.out i).1] at this; omega
      have NX : Hid (lenS XS (i + 1) = lenS XS i + (XS.getD i []).length) := (SX.out i).1
      clear ev h2 h3 h4 h5 hi h8
      generalize (XS.getD i []).length = m at *
      generalize lenS XS i = s at *
      go_wp2
      go_roundg (XS.length - (i + 1))
      case measure => have := HK.out.1; omega
      case rel => exact ⟨i + 1, rfl, hlt, by rw [NX.out, Int.natCast_add], by go_num, B⟩
end Go.Proofs.Ytlmlhiookoediaa
