import Derived.Test.YtongiohdomacoaaBmE
/- Layer 14: access lists in memory. -/
namespace Go.Proofs.Ytongiohdomacoaa
open Go.RowKit Go.Sort

/-- Bytes as cells. -/
def cB (A : List Int) : List Value := A.map (Value.int .u8)
theorem cB_len (A : List Int) : (cB A).length = A.length := List.length_map _
theorem cB_one (A : List Int) : ∀ v ∈ cB A, v.oneCell' = true := fun v hv => by
  obtain ⟨x, _, rfl⟩ := List.mem_map.1 hv; rfl
/-- An entry. -/
structure EE where
  A : List Int
  K : List (List Int)
def zE : EE := ⟨[], []⟩
/-- The cells of keys. -/
def kyF : List (List Int) → List Value
  | [] => []
  | k :: K => cB k ++ kyF K
def W32 (K : List (List Int)) : Prop := ∀ i, i < K.length → (K.getD i []).length = 32
theorem W32.tail {k : List Int} {K : List (List Int)} (h : W32 (k :: K)) : W32 K := fun i hi => h (i + 1) (by simpa using hi)
theorem kyF_len : ∀ (K : List (List Int)), W32 K → (kyF K).length = K.length * 32
  | [], _ => rfl
  | k :: K, h => by
    have h0 : k.length = 32 := h 0 (by simp)
    rw [kyF, List.length_append, kyF_len K h.tail, cB_len, h0, List.length_cons]; omega
theorem kyF_app : ∀ K M : List (List Int), kyF (K ++ M) = kyF K ++ kyF M
  | [], _ => rfl
  | k :: K, M => by rw [List.cons_append, kyF, kyF, kyF_app K M, List.append_assoc]
theorem kyF_one : ∀ (K : List (List Int)), ∀ v ∈ kyF K, v.oneCell' = true
  | [], v, hv => by cases hv
  | k :: K, v, hv => by
    rw [kyF, List.mem_append] at hv
    rcases hv with hv | hv
    · exact cB_one k v hv
    · exact kyF_one K v hv
theorem kyF_at : ∀ (K : List (List Int)) (i j : Nat), W32 K → i < K.length → j < 32 → (kyF K)[i * 32 + j]? = (cB (K.getD i []))[j]?
  | [], i, _, _, h, _ => absurd h (Nat.not_lt_zero _)
  | k :: K, 0, j, hw, _, hj => by
    have h0 : k.length = 32 := hw 0 (by simp)
    rw [kyF, Nat.zero_mul, Nat.zero_add, List.getElem?_append_left (by rw [cB_len, h0]; exact hj)]; rfl
  | k :: K, i + 1, j, hw, h, hj => by
    have h0 : k.length = 32 := hw 0 (by simp)
    have e : (i + 1) * 32 + j = 32 + (i * 32 + j) := by omega
    rw [kyF, e, List.getElem?_append_right (by rw [cB_len, h0]; omega), show 32 + (i * 32 + j) - (cB k).length = i * 32 + j by rw [cB_len, h0]; omega]
    exact kyF_at K i j hw.tail (by simpa using h) hj
theorem ky_range {W : World} {g p i : Nat} {K : List (List Int)} (h : W.rangeAt g p (kyF K)) (hw : W32 K) (hi : i < K.length) : W.rangeAt g (p + i * 32) (cB (K.getD i [])) := fun j v hv => by
  have hj : j < 32 := by
    have := (List.getElem?_eq_some_iff.1 hv).1
    rw [cB_len, hw i hi] at this; exact this
  have := h (i * 32 + j) v (by rw [kyF_at K i j hw hi hj]; exact hv)
  rw [Nat.add_assoc]; exact this
/-- Keys where a slice points. -/
def Ky (W : World) (v : Value) (K : List (List Int)) : Prop := ∃ a g p c, v = .slice a K.length c ∧ K.length ≤ c ∧ (K = [] ∨ a = some ⟨g, p, none⟩) ∧ W.rangeAt g p (kyF K)
theorem rng_keep {W W' : World} {b o : Nat} {cs : List Value} (h : W.rangeAt b o cs) (hb : Below W.heap.size W W') : W'.rangeAt b o cs := fun j v hv => cell_keep hb (h j v hv)
theorem Ky.keep {W W' : World} {v : Value} {K : List (List Int)} (h : Ky W v K) (hb : Below W.heap.size W W') : Ky W' v K := by
  obtain ⟨a, g, p, c, h1, h2, h3, h4⟩ := h
  exact ⟨a, g, p, c, h1, h2, h3, rng_keep h4 hb⟩
/-- Entries in a row, from a cell on; the cells of their keys. -/
def Es (W : World) (b o : Nat) (L : List EE) (V : Nat → Value) : Prop := ∀ i, i < L.length → W.rangeAt b (o + i * 21) (cB (L.getD i zE).A ++ [V i]) ∧ Ky W (V i) (L.getD i zE).K
theorem Es.keep {W W' : World} {b o : Nat} {L : List EE} {V : Nat → Value} (h : Es W b o L V) (hb : Below W.heap.size W W') : Es W' b o L V := fun i hi => ⟨rng_keep (h i hi).1 hb, (h i hi).2.keep hb⟩
def WfE (L : List EE) : Prop := ∀ i, i < L.length → (L.getD i zE).A.length = 20 ∧ W32 (L.getD i zE).K
/-- The cell of an entry's keys. -/
theorem Es.key {W : World} {b o : Nat} {L : List EE} {V : Nat → Value} (h : Es W b o L V) (hw : WfE L) {i : Nat} (hi : i < L.length) : W.cell? ⟨b, o + i * 21 + 20, none⟩ = some (V i) := by
  have h1 := (h i hi).1 20 (V i) (by
    rw [List.getElem?_append_right (by rw [cB_len, (hw i hi).1]; omega), cB_len, (hw i hi).1]; rfl)
  exact h1
theorem Es.adr {W : World} {b o : Nat} {L : List EE} {V : Nat → Value} (h : Es W b o L V) {i : Nat} (hi : i < L.length) : W.rangeAt b (o + i * 21) (cB (L.getD i zE).A) := fun j v hv => (h i hi).1 j v (by
  rw [List.getElem?_append_left (List.getElem?_eq_some_iff.1 hv).1]; exact hv)
def AzE (a : Option Addr) (b o : Nat) (L : List EE) : Prop := L = [] ∨ a = some ⟨b, o, none⟩
theorem AzE.cons {a : Option Addr} {b o : Nat} {L : List EE} (h : AzE a b o L) (hl : 0 < L.length) : a = some ⟨b, o, none⟩ := by
  rcases h with h | h
  · rw [h] at hl; exact absurd hl (Nat.lt_irrefl _)
  · exact h
/-- How many keys, as the program counts. -/
def cntE (L : List EE) : Nat → Int
  | 0 => 0
  | i + 1 => wrap64 (cntE L i + ((L.getD i zE).K.length : Int))
set_option maxRecDepth 100000 in
set_option maxHeartbeats 8000000 in
/-- The document's Count. -/
theorem rcount_any {a : Option Addr} {b o c : Nat} {L : List EE} {V : Nat → Value} (hl : L.length ≤ 3000000000000) (hw : WfE L) (ha : AzE a b o L) (w : World) (hE : Es w b o L V) :
    Calls Try.prog 7 #[.slice a L.length c] w fun e w' => e = .returned (.tuple #[.int .i64 L.length, .int .i64 (cntE L L.length)]) ∧ Below w.heap.size w w' := by
  have HA : Hid (AzE a b o L ∧ WfE L ∧ L.length ≤ 3000000000000) := ⟨ha, hw, hl⟩
  have HI : Hid (∀ W, Below w.heap.size w W → Es W b o L V) := fun W B => hE.keep B
  have n1 : (L.length : Int) ≤ 3000000000000 := by omega
  clear hl hw ha hE
  go_enter Try.func7, Try.ntmps7
  go_wp2_with fail
  go_loopg [4, 5] L.length (fun k sv iv wr => ∃ i : Nat, k = L.length - i ∧ i ≤ L.length ∧ sv = .int .i64 (cntE L i) ∧ iv = .int .i64 (i : Int) ∧ Below w.heap.size w wr)
  case atStart => exact ⟨0, rfl, Nat.zero_le _, rfl, rfl, Below.refl _ _⟩
  case round =>
    obtain ⟨i, hk, hi, rfl, rfl, B⟩ := hrel
    have HK : Hid (gk = L.length - i ∧ i ≤ L.length) := ⟨hk, hi⟩
    clear hk
    by_cases h8 : i = L.length
    · subst h8
      clear HK
      go_wp2
      simp [bodyPost, results, Try.results7, go_sem]
      exact B
    · have hlt : i < L.length := by omega
      have hlt' : (i : Int) < (L.length : Int) := by omega
      obtain rfl := HA.out.1.cons (by omega)
      have c1 := (HI.out wr B).key HA.out.2.1 hlt
      obtain ⟨ak, gk', pk, ck, ev, h2, h3, h4⟩ := (HI.out wr B i hlt).2
      rw [ev] at c1
      have NX : Hid (cntE L (i + 1) = wrap64 (cntE L i + ((L.getD i zE).K.length : Int))) := rfl
      clear h2 h3 h4 ev hi h8
      generalize (L.getD i zE).K.length = n at *
      generalize cntE L i = s at *
      go_wp2
      go_roundg (L.length - (i + 1))
      case measure => have := HK.out.1; omega
      case rel => exact ⟨i + 1, rfl, hlt, by rw [NX.out], by go_num, B⟩
end Go.Proofs.Ytongiohdomacoaa
