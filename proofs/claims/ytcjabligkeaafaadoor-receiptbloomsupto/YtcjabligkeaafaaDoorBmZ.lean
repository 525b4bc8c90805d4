import Derived.Test.YtcjabligkeaafaaDoorBmX
import Derived.Laws.OwnMore
import Derived.Great.BuildSlice
import Derived.Great.FillDense
import Derived.Deep.RegionHeld
/- BloomBack. -/
namespace Go.Proofs.YtcjabligkeaafaaDoor.S
open Go.RowKit Go.Sort

/-- A slice of filters, built. -/
noncomputable def fcells (FS : List (List (BitVec 8))) : Array Value := (FS.flatMap byts).toArray
theorem wp_build_blooms {o : Oper} {a : Act} {w : World} {K : Act → World → Prop} {Q : Exit → Act → World → Prop} (n : Nat) (parts : Array (Nat × Operand)) (ho : o.op = .buildSlice 42 n parts)
    (FS : List (List (BitVec 8))) (hl : ∀ F ∈ FS, F.length = 256) (hn : FS.length = n) (h0 : 0 < n) (h3 : n < 3) (hp : (parts.map fun (i, x) => (i, a.eval x)).toList = ((FS.map fun F => Value.agg (byts F).toArray).zipIdx 0).map fun x => (x.2, x.1))
    (h : K (a.put o.dst (.slice (some ⟨w.heap.size, 0, none⟩) n n)) (w.alloc (.cells (fcells FS) 28))) : o.wp Tryd.prog a w K Q := by
  unfold fcells at h
  have hi : (Tryd.prog.info? 28).map (fun i => (i.zero, i.size)) = some (some (.agg (List.replicate 256 (Value.int .u8 0)).toArray), 256) := by kernel_rfl
  generalize hz : Value.agg (List.replicate 256 (Value.int .u8 0)).toArray = z at hi
  cases hq : Tryd.prog.info? 28 with
  | none => rw [hq] at hi; cases hi
  | some ie =>
    rw [hq] at hi
    simp only [Option.map_some, Option.some.injEq, Prod.mk.injEq] at hi
    refine wp_buildSlice 42 28 n parts ho (FS.flatMap byts).toArray ie z Tryd.underlying42 hq hi.1 (by rw [hi.2]; omega) (by rw [hi.2]; omega) ?_ h
    rw [hp, hi.2]
    have f := Go.Great.fill_whole (s := 256) (by decide) (FS.map fun F => Value.agg (byts F).toArray) ((Array.range (n * 256)).map (z.cells[· % z.cells.size]!)) (fun v hv => by
      obtain ⟨F, hF, rfl⟩ := List.mem_map.1 hv
      show (byts F).toArray.size = 256
      rw [List.size_toArray, byts_len, hl F hF]) (by simp [hn])
    rw [f]
    congr 2
    rw [List.flatMap_map]
    rfl
theorem fls_new {W : World} (FS : List (List (BitVec 8))) (hl : ∀ F ∈ FS, F.length = 256) : Fls (W.alloc (.cells (fcells FS) 28)) W.heap.size 0 FS := by
  unfold fcells
  intro k hk
  have e : FS.getD k zF = FS[k] := by rw [List.getD, List.getElem?_eq_getElem hk]; rfl
  have lk : (FS.getD k zF).length = 256 := by rw [e]; exact hl _ (List.getElem_mem hk)
  refine ⟨lk, fun j v hv => ?_⟩
  rw [Nat.zero_add, World.cell?_alloc_mark]
  have hj : j < 256 := by
    have := (List.getElem?_eq_some_iff.1 hv).1
    rwa [byts_len, lk] at this
  have flat : ∀ (l : List (List (BitVec 8))) (k : Nat), (∀ F ∈ l, F.length = 256) → k < l.length → (l.flatMap byts)[k * 256 + j]? = (byts (l.getD k zF))[j]? := by
    intro l
    induction l with
    | nil => intro k _ h; simp at h
    | cons F l ih =>
      intro k hl h
      have lF : (byts F).length = 256 := by rw [byts_len]; exact hl F (by simp)
      rw [List.flatMap_cons]
      cases k with
      | zero => rw [Nat.zero_mul, Nat.zero_add, List.getElem?_append_left (by omega)]; rfl
      | succ k =>
        rw [List.getElem?_append_right (by omega), lF, show (k + 1) * 256 + j - 256 = k * 256 + j by omega, ih k (fun G hG => hl G (by simp [hG])) (by simpa using h)]
        rfl
  have h := flat FS k hl hk
  rw [hv] at h
  simpa using h
theorem orA_two {A B : List (BitVec 8)} (hA : A.length = 256) : orA zF [A, B] = orF A B := by
  show orF (orF zF A) B = _
  rw [orF_zero hA]

end Go.Proofs.YtcjabligkeaafaaDoor.S
