import Derived.Test.YtllfmlgnemkklaaDoorTsN
import Derived.Test.YtllfmlgnemkklaaDoorTsH
/- Layer 18: the keys of an access list counted, both sides' loops. -/
namespace Go.Proofs.YtllfmlgnemkklaaDoor
open Go.RowKit Go.Sort
open tq
/-- The keys of the first n entries. -/
def keyE (L : List En) : Nat → Nat
  | 0 => 0
  | n + 1 => keyE L n + (L.getD n zEn).ks.length
theorem keyE_le {L : List En} (h : ∀ i, i < L.length → (L.getD i zEn).ks.length < 1000000000) : ∀ n, n ≤ L.length → keyE L n ≤ n * 1000000000
  | 0, _ => Nat.le_refl _
  | n + 1, hn => by have := keyE_le h n (by omega); have := h n (by omega); rw [keyE]; omega
set_option maxRecDepth 100000 in
set_option maxHeartbeats 8000000 in
theorem countE_any {a : Option Addr} {b o c : Nat} {L : List En} (hl : L.length < 1000000000) (hk : ∀ i, i < L.length → (L.getD i zEn).ks.length < 1000000000) (w : World) (hG : EsG w a b o c L) :
    Calls Tryd.prog 44 #[.slice a L.length c] w fun e w' => e = .returned (.tuple #[.int .i64 (L.length : Nat), .int .i64 (keyE L L.length : Nat)]) ∧ Below w.heap.size w w' := by
  have GR : Hid (∀ W, Below w.heap.size w W → EsG W a b o c L) := fun W B => hG.keep B
  have KB : Hid (∀ n, n ≤ L.length → keyE L n ≤ n * 1000000000) := keyE_le hk
  have n1 : (L.length : Int) < 1000000000 := by omega
  have AA : Hid (L = [] ∨ a = some ⟨b, o, none⟩) := hG.2.1
  clear hl hk hG
  go_enter Tryd.func44, Tryd.ntmps44
  go_wp2_with fail
  go_loopg [3, 8] L.length (fun k sv iv wr => ∃ i : Nat, k = L.length - i ∧ i ≤ L.length ∧ sv = .int .i64 (keyE L i : Nat) ∧ iv = .int .i64 (i : Int) ∧ Below w.heap.size w wr)
  case atStart => exact ⟨0, rfl, Nat.zero_le _, rfl, rfl, Below.refl _ _⟩
  case round =>
    obtain ⟨i, hk, hi, rfl, rfl, B⟩ := hrel
    have HK : Hid (gk = L.length - i) := hk
    clear hk
    by_cases h8 : i = L.length
    · subst h8
      clear HK
      go_wp2
      simp [bodyPost, results, Tryd.results44, go_sem]
      exact B
    · have hlt : i < L.length := by omega
      have hlt' : (i : Int) < (L.length : Int) := by omega
      obtain rfl : a = some ⟨b, o, none⟩ := by
        rcases AA.out with e | e
        · rw [e] at hlt; simp at hlt
        · exact e
      have g := (GR.out wr B).2.2 i hlt
      have r1 := g.2
      have hA := g.1.1.1
      have e20 : (enC (L.getD i zEn))[20]? = some (Value.slice (L.getD i zEn).a (L.getD i zEn).ks.length (L.getD i zEn).c) := by
        rw [enC, List.getElem?_append_right (by rw [hC_len, hA]; omega), hC_len, hA]; rfl
      have el : Hid ((enC (L.getD i zEn)).length = 21) := enC_len hA
      have eo : Hid (∀ v ∈ enC (L.getD i zEn), v.oneCell' = true) := enC_one _
      have NX : Hid (keyE L (i + 1) = keyE L i + (L.getD i zEn).ks.length) := rfl
      have WR : Hid (keyE L i + (L.getD i zEn).ks.length < 4000000000000000000) := by
        have := KB.out (i + 1) (by omega)
        rw [NX.out] at this
        show _ < _
        omega
      have W6 : IntKind.i64.wrap ((keyE L i : Nat) + ((L.getD i zEn).ks.length : Int)) = ((keyE L i + (L.getD i zEn).ks.length : Nat) : Int) := by have := WR.out; rw [IntKind.wrap_i64]; omega
      clear g hA h8 hi
      generalize enC (L.getD i zEn) = cs at *
      generalize (L.getD i zEn).a = ak at *
      generalize (L.getD i zEn).c = ck at *
      generalize (L.getD i zEn).ks.length = n at *
      generalize keyE L i = s at *
      have E20 : Hid _ := e20
      clear e20
      go_wp2_with first
        | (refine wpList_load_midT rfl 41 _ rfl b (o + i * 21) rfl cs _ r1 Tryd.underlying41 rfl (by rw [el.out]; exact size_en) ?_)
        | (refine wpList_allocT rfl 41 rfl (some 5) rfl 21 48 rI_e ?_; intro b5 W5 h5 B5 t5)
        | (refine wpList_storeT rfl 41 _ _ rfl b5 cs rfl rfl (by rw [el.out]; exact t5) (by rw [el.out]; exact size_en) eo.out ?_; intro W9 u9 r9 t9; (have BZ : Hid (Below w.heap.size w W9) := (by have := h5.out; have := B.size; exact u9.below (by omega) (B.trans (B5.mono B.size)))); (have c20 : W9.cell? ⟨b5, 20, none⟩ = some (.slice ak n ck) := by simpa using r9 20 _ E20.out); clear B u9 r9 t9 r1 B5 t5)
      go_roundg (L.length - (i + 1))
      case measure => have := HK.out; omega
      case rel => exact ⟨i + 1, rfl, hlt, by rw [NX.out, Int.natCast_add], by go_num, BZ.out⟩
end Go.Proofs.YtllfmlgnemkklaaDoor

/- Layer 18: the statements' twin; what a transaction lent answers. -/
namespace Go.Proofs.YtllfmlgnemkklaaDoor.tq
open Go.RowKit Go.Sort
def BdTF (t : Txv) : Prop := t.Dl.length < 1000000000 ∧ t.Hsl.length < 1000000000 ∧ t.Ul.length < 100000000 ∧ t.El.length < 1000000000 ∧ ∀ i, i < t.El.length → (t.El.getD i zEn).ks.length < 1000000000
end Go.Proofs.YtllfmlgnemkklaaDoor.tq
namespace Go.Proofs.YtllfmlgnemkklaaDoor
open Go.RowKit Go.Sort
open tq
theorem stray_same {u t : Txv} {W : World} (h : LtT W u t) (k f : Nat) : strayT u k f = strayT t k f := by
  unfold strayT blankT
  rw [h.nu.1, h.nu.2.1, h.nu.2.2.1, h.nu.2.2.2.2.1, h.E.1, h.Hs.1, h.U.1]
theorem strays_same {u t : Txv} {W : World} (h : LtT W u t) (k : Nat) : straysT u k = straysT t k := by
  unfold straysT
  rw [show strayT u k = strayT t k from funext fun f => stray_same h k f]
theorem df_same {u t : Txv} {W : World} (h : LtT W u t) : dfN u = dfN t := by
  unfold dfN
  rw [h.sc.1, strays_same h, h.sc.2.1, h.sc.2.2.2.2.1, h.sc.2.2.2.2.2, h.Hs.1, h.U.1]
end Go.Proofs.YtllfmlgnemkklaaDoor
