import Derived.Test.YtidchaaahgnabaaDoorHxW
import Derived.Test.YtidchaaahgnabaaDoorKSums
namespace Go.Proofs.YtidchaaahgnabaaDoor
open Go.RowKit Go.Sort

/-- A text's bytes as the sponge takes them. -/
def bvL (l : List UInt8) : List (BitVec 8) := l.map UInt8.toBitVec
theorem bvL_len (l : List UInt8) : (bvL l).length = l.length := by simp [bvL]
theorem bvL_Y (l : List UInt8) {i : Nat} (h : i < l.length) : Y ((bvL l).getD i 0) = ((l.getD i 0).toNat : Int) := by
  rw [Y_eq, bvL, List.getD, List.getElem?_map, List.getElem?_eq_getElem h, List.getD, List.getElem?_eq_getElem h]
  rfl
/-- The digest of a text. -/
noncomputable def kecL (l : List UInt8) : List Int := (hashL (finL 0 (absb (List.replicate 25 0) 0 (bvL l)) l.length)).map Y
theorem kecL_len (l : List UInt8) : (kecL l).length = 32 := by simp [kecL, hashL]
theorem kecL_low (l : List UInt8) (i : Nat) : 0 ≤ (kecL l).getD i 0 ∧ (kecL l).getD i 0 < 256 := by
  by_cases h : i < (kecL l).length
  · rw [List.getD, List.getElem?_eq_getElem h]
    simp only [kecL, List.getElem_map, Option.getD_some]
    exact ⟨Y_lo _, Y_hi _⟩
  · rw [List.getD, List.getElem?_eq_none (by omega)]
    exact ⟨Int.le_refl _, by decide⟩
theorem ksum_any {l : List UInt8} {g o c b : Nat} (hl : l.length < 1073741824) (hc : l.length ≤ c) (w : World) (hb : w.cell? ⟨b, 0, none⟩ = some (.slice (some ⟨g, o, none⟩) l.length c)) (hx : ∀ i, i < l.length → w.cell? ⟨g, o + i, none⟩ = some (.int .u8 ((l.getD i 0).toNat : Int))) (ht : Tab w 4 turnsN) (hm : Lns w 2 marksN) :
    Calls Tryd.prog 32 #[.slice (some ⟨b, 0, none⟩) 1 1] w fun e w' => e = .returned (.agg ((kecL l).map (Value.int .u8)).toArray) ∧ Below w.heap.size w w' := by
  have e1 : (bvL l).length = l.length := bvL_len l
  have h := sum_any (PS := [⟨some ⟨g, o, none⟩, g, o, c, bvL l⟩]) (a := some ⟨b, 0, none⟩) (bp := b) (op := 0) (cp := 1) (by simp [catX, e1]; exact hl) (by show 1 ≤ _; omega) (Nat.le_refl _) (.inr rfl) w (fun i hi => by
    have : i = 0 := by simpa using hi
    subst this
    refine ⟨?_, .inr rfl, by show (bvL l).length ≤ c; omega, fun i hi => ?_⟩
    · show w.cell? ⟨b, 0 + 0, none⟩ = some (.slice (some ⟨g, o, none⟩) (bvL l).length c)
      rw [e1]; exact hb
    · have hi' : i < l.length := by rw [← e1]; exact hi
      show w.cell? ⟨g, o + i, none⟩ = some (.int .u8 (Y ((bvL l).getD i 0)))
      rw [bvL_Y l hi']; exact hx i hi') ht hm
  refine h.mono fun e w' ⟨h1, h2⟩ => ⟨?_, h2⟩
  rw [h1]
  have ec : catX [⟨some ⟨g, o, none⟩, g, o, c, bvL l⟩] = bvL l := by simp [catX]
  rw [ec, digV, kecL, e1, List.map_map]
  rfl
/-- A text turned into bytes: where they come to lie. -/
theorem conv_text (l : List UInt8) : ∃ (cp : World → Nat) (R : World → World), (∀ u, (convert 9 30 (.string ⟨l.toArray⟩)).run Tryd.prog u = .ok (.slice (some ⟨u.heap.size, 0, none⟩) l.length (cp u)) (R u)) ∧ (∀ u, l.length ≤ cp u) ∧
    ∀ u, Below u.heap.size u (R u) ∧ (R u).heap.size = u.heap.size + 1 ∧ (∀ i, i < l.length → (R u).cell? ⟨u.heap.size, i, none⟩ = some (.int .u8 ((l.getD i 0).toNat : Int))) ∧ (∀ i, i < l.length → (R u).frozen? ⟨u.heap.size, i, none⟩ = false) := by
  have sz : (⟨l.toArray⟩ : ByteArray).size = l.length := by simp [ByteArray.size]
  refine ⟨_, _, fun u => by rw [run_bytes_of_string u 9 30 5 ⟨l.toArray⟩ Tryd.underlying9 Tryd.underlying30 Tryd.underlying5, sz], fun u => grownCap_ge u l.length 0 5, fun u => ⟨((Below.refl _ _).drew).alloc (Nat.le_refl _) _, by simp, fun i hi => ?_, fun i hi => ?_⟩⟩
  · rw [show u.heap.size = u.drew.heap.size from rfl, World.cell?_alloc_mark, bytesRow_at _ _ _ (by simpa using hi)]
    simp [List.getD, List.getElem?_eq_getElem hi]
  · rw [show u.heap.size = u.drew.heap.size from rfl, World.frozen?_alloc_mark]
    have : i < (bytesRow ⟨l.toArray⟩ (grownCap u l.length 0 5)).size := by
      have h := bytesRow_at ⟨l.toArray⟩ (grownCap u l.length 0 5) i (by simpa using hi)
      by_cases hx : i < (bytesRow ⟨l.toArray⟩ (grownCap u l.length 0 5)).size
      · exact hx
      · rw [Array.getElem?_eq_none (by omega)] at h; cases h
    have : decide ((bytesRow ⟨l.toArray⟩ (grownCap u l.length 0 5)).size ≤ i) = false := decide_eq_false (by omega)
    rw [this]
    rfl
end Go.Proofs.YtidchaaahgnabaaDoor
