import Derived.Test.YtidchaaahgnabaaDoorHxC
import Derived.Maps.AppendAt
namespace Go.Proofs.YtidchaaahgnabaaDoor
open Go.RowKit Go.Sort

theorem info_partsH {P : Program} {e : TypeId} {z : Value} {s b : Nat} (h : (P.info? e).map (fun i => (i.zero, i.size, i.bytes)) = some (some z, s, b)) : ∃ i, P.info? e = some i ∧ i.zero = some z ∧ i.size = s ∧ i.bytes = b := by
  cases hi : P.info? e with
  | none => rw [hi] at h; cases h
  | some i =>
    rw [hi] at h
    simp only [Option.map_some, Option.some.injEq, Prod.mk.injEq] at h
    exact ⟨i, rfl, h.1, h.2.1, h.2.2⟩
theorem cell_oneH (w : World) (x : Value) (t : TypeId) : ∀ (j : Nat) u, [x][j]? = some u → (w.alloc (.cells #[x] t)).cell? (Addr.add ⟨w.heap.size, 0, none⟩ j) = some u := fun j u h => by
  cases j with
  | zero =>
    simp only [List.getElem?_cons_zero, Option.some.injEq] at h
    subst h
    simp [Addr.add, go_sem]
  | succ j => simp at h
/-- A slice of the call's own memory, of these numbers. -/
def OwnI (B : Nat) (W : World) (v : Value) (L : List Int) : Prop := W.ownsRow B 3 1 v L.length (L.map (Value.int .i64))
theorem OwnI.row {B : Nat} {W : World} {v : Value} {L : List Int} (h : OwnI B W v L) : W.ownsRow B 3 1 v L.length (L.map (Value.int .i64)) := h
theorem frB_bt {s : ByteArray} (h : 2 ≤ s.size) : frB s = true ↔ bt s 0 = 48 ∧ bt s 1 = 120 := by
  have p0 : 0 < s.size := by omega
  have p1 : 1 < s.size := by omega
  have e0 : (s.extract 0 2).toList = [s[0]'p0, s[1]'p1] := by
    rw [ByteArray.toList_eq]
    refine List.ext_getElem? fun i => ?_
    rw [Array.getElem?_toList, ByteArray.data_extract, Array.getElem?_extract]
    have hs : s.data.size = s.size := rfl
    match i with
    | 0 => rw [if_pos (by omega), Array.getElem?_eq_getElem (by omega)]; rfl
    | 1 => rw [if_pos (by omega), Array.getElem?_eq_getElem (by omega)]; rfl
    | i + 2 => rw [if_neg (by omega)]; rfl
  have q : ∀ (u : UInt8) (n : Nat) (hn : n < 256), u = UInt8.ofNat n ↔ (u.toNat : Int) = n := fun u n hn => by
    rw [← UInt8.toNat_inj, UInt8.toNat_ofNat', Nat.mod_eq_of_lt (by omega)]
    omega
  unfold frB
  rw [e0, beq_iff_eq, ← bt_get s 0 p0, ← bt_get s 1 p1]
  simp only [List.cons.injEq, and_true]
  exact and_congr (q _ 48 (by decide)) (q _ 120 (by decide))
end Go.Proofs.YtidchaaahgnabaaDoor

namespace Go.Proofs.YtidchaaahgnabaaDoor
open Go.RowKit Go.Sort

/-- The digits' values, from a cell on. -/
def Dl (W : World) (g : Nat) (t : ByteArray) : Prop := ∀ i, i < t.size → W.cell? ⟨g, i, none⟩ = some (.int .i64 (dv (bt t i)))
theorem Dl.keep {W W' : World} {g : Nat} {t : ByteArray} (h : Dl W g t) (hb : Below W.heap.size W W') : Dl W' g t := fun i hi => cellK hb (h i hi)
end Go.Proofs.YtidchaaahgnabaaDoor

namespace Go.Proofs.YtidchaaahgnabaaDoor
open Go.RowKit Go.Sort

theorem dv_zero {c : Int} : dv c = 0 ↔ c = 48 := by
  unfold dv; split <;> (try split) <;> (try split) <;> omega
theorem Qd.newv (w : World) (t : TypeId) (a b c d : Int) : Qd (w.alloc (.cells #[.int .u64 a, .int .u64 b, .int .u64 c, .int .u64 d] t)) w.heap.size [a, b, c, d] := fun j hj => by
  have : j = 0 ∨ j = 1 ∨ j = 2 ∨ j = 3 := by omega
  rcases this with rfl | rfl | rfl | rfl
  all_goals exact ⟨by simp [go_sem], by simp [go_sem]⟩
theorem eqH (a0 a1 a2 a3 b0 b1 b2 b3 : Int) (w : World) : (Op.equalIn 10000 34 (.agg #[.int .u64 a0, .int .u64 a1, .int .u64 a2, .int .u64 a3]) (.agg #[.int .u64 b0, .int .u64 b1, .int .u64 b2, .int .u64 b3])).run Tryd.prog w = .ok (a0 == b0 && (a1 == b1 && (a2 == b2 && a3 == b3))) w := by
  have tu := Tryd.underlying32
  have ta := Tryd.isAgg32
  have tz := Tryd.sizeOf32
  rw [show (10000 : Nat) = 9999 + 1 from rfl, Op.equalIn]
  simp only [Sem.run_bind, run_underlying Tryd.underlying34, Result.andThen_ok]
  simp only [Std.Legacy.Range.forIn_eq_forIn_range', Std.Legacy.Range.size, Nat.sub_zero, Nat.add_sub_cancel, Nat.div_one, List.range'_succ, List.range'_zero, List.forIn_cons, List.forIn_nil]
  go_simp
  by_cases h1 : a0 = b0 <;> by_cases h2 : a1 = b1 <;> by_cases h3 : a2 = b2 <;> by_cases h4 : a3 = b3 <;> simp [h1, h2, h3, h4]
set_option maxRecDepth 100000 in
theorem pq_any {s : ByteArray} {a b c d e : Int} (hq : ∀ w, Calls Tryd.prog 44 #[.string s, .int .i64 64] w fun r w' => r = .returned (.tuple #[.agg #[.int .u64 a, .int .u64 b, .int .u64 c, .int .u64 d], .int .i64 e]) ∧ Below w.heap.size w w') (w : World) :
    Calls Tryd.prog 27 #[.string s] w fun r w' => r = .returned (.tuple #[.agg #[.int .u64 a, .int .u64 b, .int .u64 c, .int .u64 d], .int .i64 e]) ∧ Below w.heap.size w w' := by
  have o3 : w.heap.size ≤ w.heap.size := Nat.le_refl _
  go_enter Tryd.func27, Tryd.ntmps27
  go_wp2_with ((with_reducible refine (hq _).mono ?_); rintro e1 w1 ⟨rfl, hb⟩; (have hR := (Qd.newb w 34).keep hb); (obtain ⟨d0, g0⟩ := hR 0 (by decide)); (obtain ⟨d1, g1⟩ := hR 1 (by decide)); (obtain ⟨d2, g2⟩ := hR 2 (by decide)); (obtain ⟨d3, g3⟩ := hR 3 (by decide)); (have B := ((Below.refl w.heap.size w).alloc (Nat.le_refl _) _).trans (hb.mono (by simp))); (clear hb hR))
  simp [bodyPost, results, Tryd.results27, go_sem, d0, d1, d2, d3]
  repeat (first | with_reducible exact B | with_reducible refine Below.setCell ?_ o3 _)
set_option maxRecDepth 100000 in
theorem pu_any {s : ByteArray} {a b c d e : Int} (hq : ∀ w, Calls Tryd.prog 44 #[.string s, .int .i64 16] w fun r w' => r = .returned (.tuple #[.agg #[.int .u64 a, .int .u64 b, .int .u64 c, .int .u64 d], .int .i64 e]) ∧ Below w.heap.size w w') (w : World) :
    Calls Tryd.prog 29 #[.string s] w fun r w' => r = .returned (.tuple #[.int .u64 a, .int .i64 e]) ∧ Below w.heap.size w w' := by
  go_enter Tryd.func29, Tryd.ntmps29
  go_wp2_with ((with_reducible refine (hq _).mono ?_); rintro e1 w1 ⟨rfl, B⟩)
  simp [bodyPost, results, Tryd.results29, go_sem]
  exact B.alloc B.size _
end Go.Proofs.YtidchaaahgnabaaDoor
