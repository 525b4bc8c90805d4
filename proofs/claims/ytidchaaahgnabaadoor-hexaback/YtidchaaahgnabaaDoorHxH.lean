import Derived.Test.YtidchaaahgnabaaDoorHxG
import Derived.Deep.RegionHeld
import Derived.Deep.AppendLies
namespace Go.Proofs.YtidchaaahgnabaaDoor
open Go.RowKit Go.Sort

theorem OwnB.made (W : World) (n : Nat) {B : Nat} (hB : B ≤ W.heap.size) (hn : n ≤ maxLen) : OwnB B (W.alloc (.cells (madeCells #[.int .u8 0] n) 5)) (.slice (some ⟨W.heap.size, 0, none⟩) n n) (List.replicate n 0) := by
  have h := World.ownsRow_lit (base := B) (e := 5) (size := 1) W (madeCells #[.int .u8 0] n) n hB hn (by rw [size_madeCells, Nat.mul_one])
  rw [toList_madeCells_one] at h
  rw [OwnB, List.length_replicate, List.map_replicate]
  exact h
/-- What ParseData answers. -/
noncomputable def pdE (s : ByteArray) : Int := open Classical in if 33554434 < s.size then 2 else if okP s then (if (tl s).size % 2 = 0 then 0 else 81) else 80
noncomputable def pdX (s : ByteArray) : List Int := open Classical in if s.size ≤ 33554434 ∧ okP s ∧ (tl s).size % 2 = 0 then pk (tl s) ((tl s).size / 2) else []
set_option maxRecDepth 100000 in
theorem pd_no {s : ByteArray} (hs : s.size < 140737488355328) (hl : s.size ≤ 33554434) (h : ¬ okP s) (w : World) :
    Calls Tryd.prog 28 #[.string s] w fun e w' => e = .returned (.tuple #[.slice none 0 0, .int .i64 80]) ∧ w' = w := by
  have ht := tailOf_no hs h
  have hl' : (s.size : Int) ≤ 33554434 := by omega
  clear hs hl h
  go_enter Tryd.func28, Tryd.ntmps28
  go_wp2_with ((with_reducible refine (ht _).mono ?_); rintro e1 w1 ⟨rfl, rfl⟩)
  simp [bodyPost, results, Tryd.results28, go_sem]
set_option maxRecDepth 100000 in
theorem pd_odd {s : ByteArray} (hs : s.size < 140737488355328) (hl : s.size ≤ 33554434) (h : okP s) (ho : (tl s).size % 2 ≠ 0) (w : World) :
    Calls Tryd.prog 28 #[.string s] w fun e w' => e = .returned (.tuple #[.slice none 0 0, .int .i64 81]) ∧ w' = w := by
  have ht := tailOf_yes hs h
  have hl' : (s.size : Int) ≤ 33554434 := by omega
  have o1 : ((tl s).size : Int) % 2 = 1 := by omega
  clear hs hl h
  go_enter Tryd.func28, Tryd.ntmps28
  go_wp2_with ((with_reducible refine (ht _).mono ?_); rintro e1 w1 ⟨rfl, rfl⟩)
  simp [bodyPost, results, Tryd.results28, go_sem]
set_option maxRecDepth 100000 in
set_option maxHeartbeats 4000000 in
theorem pd_yes {s : ByteArray} (hs : s.size < 140737488355328) (hl : s.size ≤ 33554434) (h : okP s) (ho : (tl s).size % 2 = 0) (w : World) :
    Calls Tryd.prog 28 #[.string s] w fun e w' => ∃ v, e = .returned (.tuple #[v, .int .i64 0]) ∧ OwnB w.heap.size w' v (pk (tl s) ((tl s).size / 2)) ∧ Below w.heap.size w w' := by
  have ht := tailOf_yes hs h
  have hl' : (s.size : Int) ≤ 33554434 := by omega
  have ts := tl_size s
  have hd := h.2.2
  clear h
  generalize tl s = t at *
  obtain ⟨n, en⟩ : ∃ n, n = t.size / 2 := ⟨_, rfl⟩
  have o1 : (t.size : Int) % 2 = 0 := by omega
  have o2 : (t.size : Int) / 2 = (n : Int) := by omega
  have n1 : n ≤ 16777217 := by omega
  have HT : Hid (t.size = 2 * n ∧ dgs t ∧ n ≤ 16777217) := ⟨by omega, hd, n1⟩
  obtain ⟨i0, hi, hz0, hz1, hz2⟩ := info_partsH info_byteH
  have hmk : ∀ u : World, (Instr.makeSlice 30 (.int .i64 (n : Int)) (.int .i64 (n : Int))).run Tryd.prog u = .ok (.slice (some ⟨u.heap.size, 0, none⟩) n n) (u.alloc (.cells (madeCells #[.int .u8 0] n) 5)) := fun u => by
    have h := run_make (P := Tryd.prog) u 30 5 i0 (.int .u8 0) Tryd.underlying30 hi hz0 .i64 .i64 (n : Int) (n : Int) (by omega) (Int.le_refl _) (by rw [hz2]; omega) (by omega)
    have e : ((n : Int)).toNat = n := by omega
    rw [e] at h
    simpa [hz1, Value.cells] using h
  rw [← en]
  clear ho hs hl ts hd en hz0 hz1 hz2 hi
  have n1' : (n : Int) ≤ 16777217 := by omega
  have hrd := read_any (X := List.replicate n 0) (List.length_replicate ..) HT.out.1 (by have := HT.out.2.2; omega) HT.out.2.1 _ (OwnB.made (B := w.heap.size) w n (Nat.le_refl _) (by unfold maxLen; omega))
  go_enter Tryd.func28, Tryd.ntmps28
  go_wp2_with first | ((with_reducible refine (ht _).mono ?_); rintro e1 w1 ⟨rfl, hw1⟩; (rw [hw1]); (clear hw1 w1)) | ((with_reducible refine hrd.mono ?_); rintro e1 w1 ⟨rfl, ho1, hg1⟩)
  simp [bodyPost, results, Tryd.results28, go_sem]
  exact ⟨ho1, ((Below.refl w.heap.size w).alloc (Nat.le_refl _) _).grown hg1 (by simp) (fun k hk => by cases hk; exact Nat.le_refl _)⟩
set_option maxRecDepth 100000 in
theorem pd_long {s : ByteArray} (hs : 33554434 < s.size) (w : World) :
    Calls Tryd.prog 28 #[.string s] w fun e w' => e = .returned (.tuple #[.slice none 0 0, .int .i64 2]) ∧ w' = w := by
  have hl' : (33554434 : Int) < (s.size : Int) := by omega
  clear hs
  go_enter Tryd.func28, Tryd.ntmps28
  go_wp2
  simp [bodyPost, results, Tryd.results28, go_sem]
theorem pd_any {s : ByteArray} (w : World) :
    Calls Tryd.prog 28 #[.string s] w fun e w' => ∃ v, e = .returned (.tuple #[v, .int .i64 (pdE s)]) ∧ OwnB w.heap.size w' v (pdX s) ∧ Below w.heap.size w w' := by
  unfold pdE pdX
  by_cases hs : 33554434 < s.size
  · rw [if_pos hs, if_neg (fun x => by omega)]
    exact (pd_long hs w).mono fun e w' ⟨h1, h2⟩ => ⟨_, h1, OwnB.nil _ _, by rw [h2]; exact Below.refl _ _⟩
  · rw [if_neg hs]
    by_cases h : okP s
    · by_cases ho : (tl s).size % 2 = 0
      · rw [if_pos h, if_pos ho, if_pos ⟨by omega, h, ho⟩]
        exact pd_yes (by omega) (by omega) h ho w
      · rw [if_pos h, if_neg ho, if_neg (fun x => ho x.2.2)]
        exact (pd_odd (by omega) (by omega) h ho w).mono fun e w' ⟨h1, h2⟩ => ⟨_, h1, OwnB.nil _ _, by rw [h2]; exact Below.refl _ _⟩
    · rw [if_neg h, if_neg (fun x => h x.2.1)]
      exact (pd_no (by omega) (by omega) h w).mono fun e w' ⟨h1, h2⟩ => ⟨_, h1, OwnB.nil _ _, by rw [h2]; exact Below.refl _ _⟩
end Go.Proofs.YtidchaaahgnabaaDoor

namespace Go.Proofs.YtidchaaahgnabaaDoor
open Go.RowKit Go.Sort

/-- A slice that can be read. -/
def Rd (W : World) (v : Value) (X : List Int) : Prop := ∃ a g c, v = .slice a X.length c ∧ (X ≠ [] → a = some ⟨g, 0, none⟩) ∧ ∀ i, i < X.length → W.cell? ⟨g, i, none⟩ = some (.int .u8 (X.getD i 0))
theorem OwnB.rd {B : Nat} {W : World} {v : Value} {X : List Int} (h : OwnB B W v X) : Rd W v X := by
  rcases h.2 with ⟨rfl, h0⟩ | ⟨g, cap, cur, rfl, _⟩
  · have e : X = [] := List.length_eq_zero_iff.1 h0
    subst e
    exact ⟨_, 0, 0, rfl, fun h => absurd rfl h, fun i hi => absurd hi (Nat.not_lt_zero _)⟩
  · exact ⟨_, g, cap, rfl, fun _ => rfl, fun i hi => OwnB.cell h rfl hi⟩
theorem Rd.keep {W W' : World} {v : Value} {X : List Int} (h : Rd W v X) (hb : Below W.heap.size W W') : Rd W' v X := by
  obtain ⟨a, g, c, h1, h2, h3⟩ := h
  exact ⟨a, g, c, h1, h2, fun i hi => cellK hb (h3 i hi)⟩
end Go.Proofs.YtidchaaahgnabaaDoor
