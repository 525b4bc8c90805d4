import Derived.Test.YtidchaaahgnabaaDoorHxC
import Derived.Maps.AppendAt
namespace Go.Proofs.YtidchaaahgnabaaDoor
open Go.RowKit Go.Sort

theorem info_partsH {P : Program} {e : TypeId} {z : Value} {s b : Nat} (h : (P.info? e).map (fun i => (i.zero, i.size, i.bytes)) = some (some z, s, b)) : ∃ i, P.info? e = some i ∧ i.zero = some z ∧ i.size = s ∧ i.bytes = b := by
  cases hi : P.info? e with
  | none => rw [hi] at h; cases h
  | some i =>
    rw [hi] at h
    simp only [Option.map_some, Option.some.injEq, Prod.mk.injEq] at h
    exact ⟨i, rfl, h.1, h.2.1, h.2.2⟩
theorem cell_oneH (w : World) (x : Value) (t : TypeId) : ∀ (j : Nat) u, [x][j]? = some u → (w.alloc (.cells #[x] t)).cell? (Addr.add ⟨w.heap.size, 0, none⟩ j) = some u := fun j u h => by
  cases j with
  | zero =>
    simp only [List.getElem?_cons_zero, Option.some.injEq] at h
    subst h
    simp [Addr.add, go_sem]
  | succ j => simp at h
/-- A slice of the call's own memory, of these numbers. -/
def OwnI (B : Nat) (W : World) (v : Value) (L : List Int) : Prop := W.ownsRow B 3 1 v L.length (L.map (Value.int .i64))
theorem OwnI.row {B : Nat} {W : World} {v : Value} {L : List Int} (h : OwnI B W v L) : W.ownsRow B 3 1 v L.length (L.map (Value.int .i64)) := h
theorem frB_bt {s : ByteArray} (h : 2 ≤ s.size) : frB s = true ↔ bt s 0 = 48 ∧ bt s 1 = 120 := by
  have p0 : 0 < s.size := by omega
  have p1 : 1 < s.size := by omega
  have e0 : (s.extract 0 2).toList = [s[0]'p0, s[1]'p1] := by
    rw [ByteArray.toList_eq]
    refine List.ext_getElem? fun i => ?_
    rw [Array.getElem?_toList, ByteArray.data_extract, Array.getElem?_extract]
    have hs : s.data.size = s.size := rfl
    match i with
    | 0 => rw [if_pos (by omega), Array.getElem?_eq_getElem (by omega)]; rfl
    | 1 => rw [if_pos (by omega), Array.getElem?_eq_getElem (by omega)]; rfl
    | i + 2 => rw [if_neg (by omega)]; rfl
  have q : ∀ (u : UInt8) (n : Nat) (hn : n < 256), u = UInt8.ofNat n ↔ (u.toNat : Int) = n := fun u n hn => by
    rw [← UInt8.toNat_inj, UInt8.toNat_ofNat', Nat.mod_eq_of_lt (by omega)]
    omega
  unfold frB
  rw [e0, beq_iff_eq, ← bt_get s 0 p0, ← bt_get s 1 p1]
  simp only [List.cons.injEq, and_true]
  exact and_congr (q _ 48 (by decide)) (q _ 120 (by decide))
end Go.Proofs.YtidchaaahgnabaaDoor

namespace Go.Proofs.YtidchaaahgnabaaDoor
open Go.RowKit Go.Sort

/-- The digits' values, from a cell on. -/
def Dl (W : World) (g : Nat) (t : ByteArray) : Prop := ∀ i, i < t.size → W.cell? ⟨g, i, none⟩ = some (.int .i64 (dv (bt t i)))
theorem Dl.keep {W W' : World} {g : Nat} {t : ByteArray} (h : Dl W g t) (hb : Below W.heap.size W W') : Dl W' g t := fun i hi => cellK hb (h i hi)
end Go.Proofs.YtidchaaahgnabaaDoor

namespace Go.Proofs.YtidchaaahgnabaaDoor
open Go.RowKit Go.Sort

theorem Qd.newv (w : World) (t : TypeId) (a b c d : Int) : Qd (w.alloc (.cells #[.int .u64 a, .int .u64 b, .int .u64 c, .int .u64 d] t)) w.heap.size [a, b, c, d] := fun j hj => by
  have : j = 0 ∨ j = 1 ∨ j = 2 ∨ j = 3 := by omega
  rcases this with rfl | rfl | rfl | rfl
  all_goals exact ⟨by simp [go_sem], by simp [go_sem]⟩
end Go.Proofs.YtidchaaahgnabaaDoor
