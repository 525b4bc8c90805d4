import Derived.Test.YtidchaaahgnabaaDoorHxMix
import Derived.Test.YtidchaaahgnabaaDoorHxG
namespace Go.Proofs.YtidchaaahgnabaaDoor
open Go.RowKit Go.Sort

/-- These bytes lie in a block from its first cell on, and may be written. -/
def Cz (W : World) (g : Nat) (X : List Int) : Prop := ∀ i, i < X.length → W.cell? ⟨g, i, none⟩ = some (.int .u8 (X.getD i 0)) ∧ W.frozen? ⟨g, i, none⟩ = false
theorem Cz.keep {W W' : World} {g : Nat} {X : List Int} (h : Cz W g X) (hb : Below W.heap.size W W') : Cz W' g X := fun i hi => by
  obtain ⟨c, f⟩ := h i hi
  exact ⟨cellK hb c, by rw [hb.frozen (p := ⟨g, i, none⟩) (World.block_lt_of_cell? _ _ c)]; exact f⟩
theorem Cz.set {W : World} {g i : Nat} {X : List Int} (h : Cz W g X) (u : Int) : Cz (W.setCell ⟨g, i, none⟩ (.int .u8 u)) g (X.set i u) ∧ W.grownBy (W.setCell ⟨g, i, none⟩ (.int .u8 u)) (some g) := by
  refine ⟨fun j hj => ?_, ⟨rfl, rfl, rfl, by simp [World.setCell], fun k _ hk => Below.heap_setCell _ _ _ _ (fun e => hk (by simp [e]))⟩⟩
  rw [List.length_set] at hj
  obtain ⟨c, f⟩ := h j hj
  refine ⟨?_, by simpa using f⟩
  by_cases e : j = i
  · subst e
    rw [World.cell?_setCell_same' _ _ _ (by rw [c]; rfl), List.getD, List.getElem?_set_self hj]
    rfl
  · rw [World.cell?_setCell_other _ _ _ _ (fun x => e (by cases x; rfl)), c, List.getD, List.getD, List.getElem?_set_ne (by omega)]

end Go.Proofs.YtidchaaahgnabaaDoor

/- Layer 8: texts of addresses, in plain numbers. -/
namespace Go.Proofs.YtidchaaahgnabaaDoor
open Go.RowKit Go.Sort
/-- The byte at a place of a text. -/
def tb (T : List UInt8) (i : Nat) : Int := ((T.getD i 0).toNat : Int)
/-- A text of 42 bytes that reads as the address A. -/
def Rds (T : List UInt8) (A : List Int) : Prop := T.length = 42 ∧ tb T 0 = 48 ∧ tb T 1 = 120 ∧ ∀ i, i < 20 → dv (tb T (2 + 2 * i)) = A.getD i 0 / 16 ∧ dv (tb T (2 + 2 * i + 1)) = A.getD i 0 % 16
theorem bt_list (T : List UInt8) (i : Nat) : bt ⟨T.toArray⟩ i = tb T i := by unfold bt tb; rfl
theorem size_list (T : List UInt8) : (⟨T.toArray⟩ : ByteArray).size = T.length := by simp [ByteArray.size]
theorem Rds.digit {T : List UInt8} {A : List Int} (hb : ∀ i, 0 ≤ A.getD i 0 ∧ A.getD i 0 < 256) (h : Rds T A) {j : Nat} (hj : j < 40) : 0 ≤ dv (tb T (2 + j)) := by
  obtain ⟨_, _, _, h4⟩ := h
  obtain ⟨a, b⟩ := h4 (j / 2) (by omega)
  have c := hb (j / 2)
  by_cases k : j % 2 = 0
  · rw [show 2 + j = 2 + 2 * (j / 2) by omega, a]; omega
  · rw [show 2 + j = 2 + 2 * (j / 2) + 1 by omega, b]; omega
theorem Rds.ok {T : List UInt8} {A : List Int} (hA : A.length = 20) (hb : ∀ i, 0 ≤ A.getD i 0 ∧ A.getD i 0 < 256) (h : Rds T A) : okP ⟨T.toArray⟩ ∧ (tl ⟨T.toArray⟩).size = 40 ∧ pk (tl ⟨T.toArray⟩) 20 = A := by
  have sz := size_list T
  obtain ⟨h1, h2, h3, h4⟩ := id h
  have tz : (tl ⟨T.toArray⟩).size = 40 := by rw [tl_size, sz]; omega
  refine ⟨⟨by omega, ?_, fun i hi => ?_⟩, tz, ?_⟩
  · exact (frB_bt (by omega)).2 ⟨by rw [bt_list]; exact h2, by rw [bt_list]; exact h3⟩
  · rw [tl_bt, bt_list, Nat.add_comm]
    exact h.digit hb (by omega)
  · apply List.ext_getElem
    · rw [pk_len, hA]
    · intro i hi1 hi2
      obtain ⟨a, b⟩ := h4 i (by omega)
      have e : A[i] = A.getD i 0 := by rw [List.getD, List.getElem?_eq_getElem hi2]; rfl
      have g : (pk (tl ⟨T.toArray⟩) 20)[i] = 16 * dv (bt (tl ⟨T.toArray⟩) (2 * i)) + dv (bt (tl ⟨T.toArray⟩) (2 * i + 1)) := by simp [pk]
      rw [g, tl_bt, tl_bt, bt_list, bt_list, e, show 2 * i + 2 = 2 + 2 * i by omega, show 2 * i + 1 + 2 = 2 + 2 * i + 1 by omega, a, b]
      have := hb i
      omega
theorem ckS_len (A : List Int) : (ckS A).length = 42 := by simp [ckS]
theorem ckS_at (A : List Int) {j : Nat} (h : j < 42) : (ckS A).getD j 0 = tx ([48, 120] ++ hexB A) (kecL (([48, 120] ++ hexB A).drop 2)) 40 j := by
  unfold ckS
  rw [List.getD, List.getElem?_map, List.getElem?_range h]; rfl
/-- A small letter for a great one. -/
def lw (u : UInt8) : UInt8 := if 65 ≤ (u.toNat : Int) ∧ (u.toNat : Int) ≤ 90 then u + 32 else u
theorem lw_num (u : UInt8) : ((lw u).toNat : Int) = if 65 ≤ (u.toNat : Int) ∧ (u.toNat : Int) ≤ 90 then (u.toNat : Int) + 32 else (u.toNat : Int) := by
  unfold lw
  split
  · rename_i h
    rw [UInt8.toNat_add]
    show (((u.toNat + 32) % 256 : Nat) : Int) = _
    omega
  · rfl
theorem lw_dv {u : UInt8} (h : 0 ≤ dv (u.toNat : Int)) : dv ((lw u).toNat : Int) = dv (u.toNat : Int) := by
  rw [lw_num]
  split
  · rename_i q
    unfold dv at h ⊢
    split at h
    · omega
    · split at h
      · omega
      · split at h
        · rename_i a b c
          rw [if_neg (by omega), if_pos (by omega), if_neg a, if_neg b, if_pos c]; omega
        · omega
  · rfl
def lowT (T : List UInt8) : List UInt8 := T.map lw
theorem lowT_at {T : List UInt8} {j : Nat} (h : j < T.length) : (lowT T).getD j 0 = lw (T.getD j 0) := by
  unfold lowT
  rw [List.getD, List.getElem?_map, List.getElem?_eq_getElem h, List.getD, List.getElem?_eq_getElem h]; rfl
theorem Rds.low {T : List UInt8} {A : List Int} (hb : ∀ i, 0 ≤ A.getD i 0 ∧ A.getD i 0 < 256) (h : Rds T A) : Rds (lowT T) A := by
  obtain ⟨h1, h2, h3, h4⟩ := id h
  refine ⟨by simp [lowT, h1], ?_, ?_, fun i hi => ?_⟩
  · unfold tb at h2 ⊢
    rw [lowT_at (by omega), lw_num, h2]; rfl
  · unfold tb at h3 ⊢
    rw [lowT_at (by omega), lw_num, h3]; rfl
  · obtain ⟨a, b⟩ := h4 i hi
    have c1 := h.digit hb (j := 2 * i) (by omega)
    have c2 := h.digit hb (j := 2 * i + 1) (by omega)
    rw [← Nat.add_assoc] at c2
    unfold tb at a b c1 c2 ⊢
    rw [lowT_at (by omega), lowT_at (by omega), lw_dv c1, lw_dv c2]
    exact ⟨a, b⟩
theorem dv_cases {c : Int} (h : 0 ≤ dv c) : (48 ≤ c ∧ c ≤ 57) ∨ (97 ≤ c ∧ c ≤ 102) ∨ (65 ≤ c ∧ c ≤ 70) := by
  unfold dv at h
  split at h
  · rename_i a; exact .inl a
  · split at h
    · rename_i a; exact .inr (.inl a)
    · split at h
      · rename_i a; exact .inr (.inr a)
      · omega
/-- A letter of the other case. -/
def tn (u : UInt8) : UInt8 := if 97 ≤ (u.toNat : Int) then u - 32 else u + 32
theorem tn_num {u : UInt8} (h : 65 ≤ (u.toNat : Int)) (h1 : (u.toNat : Int) ≤ 102) : ((tn u).toNat : Int) = if 97 ≤ (u.toNat : Int) then (u.toNat : Int) - 97 + 65 else (u.toNat : Int) - 65 + 97 := by
  unfold tn
  split
  · rw [UInt8.toNat_sub_of_le _ _ (by rw [UInt8.le_iff_toNat_le]; show 32 ≤ u.toNat; omega)]
    show ((u.toNat - 32 : Nat) : Int) = _
    omega
  · rw [UInt8.toNat_add]
    show (((u.toNat + 32) % 256 : Nat) : Int) = _
    omega
theorem tn_dv {u : UInt8} (h : 0 ≤ dv (u.toNat : Int)) (h65 : 65 ≤ (u.toNat : Int)) : dv ((tn u).toNat : Int) = dv (u.toNat : Int) := by
  have q := dv_cases h
  rw [tn_num h65 (by omega)]
  split
  · unfold dv
    rw [if_neg (by omega), if_neg (by omega), if_pos (by omega), if_neg (by omega), if_pos (by omega)]; omega
  · unfold dv
    rw [if_neg (by omega), if_pos (by omega), if_neg (by omega), if_neg (by omega), if_pos (by omega)]; omega
theorem set_at (T : List UInt8) (j i : Nat) (u : UInt8) (hj : j < T.length) : (T.set j u).getD i 0 = if i = j then u else T.getD i 0 := by
  rw [List.getD, List.getElem?_set]
  by_cases k : j = i
  · subst k; rw [if_pos rfl, if_pos hj, if_pos rfl]; rfl
  · rw [if_neg k, if_neg (fun e => k e.symm)]; rfl
theorem Rds.turn {T : List UInt8} {A : List Int} (hb : ∀ i, 0 ≤ A.getD i 0 ∧ A.getD i 0 < 256) (h : Rds T A) {k : Nat} (hk : k < 40) (h65 : 65 ≤ tb T (2 + k)) : Rds (T.set (2 + k) (tn (T.getD (2 + k) 0))) A := by
  obtain ⟨h1, h2, h3, h4⟩ := id h
  have d : ∀ i, i < 40 → dv (tb (T.set (2 + k) (tn (T.getD (2 + k) 0))) (2 + i)) = dv (tb T (2 + i)) := fun i hi => by
    unfold tb
    rw [set_at _ _ _ _ (by omega)]
    by_cases e : i = k
    · subst e
      rw [if_pos rfl]
      exact tn_dv (h.digit hb hi) h65
    · rw [if_neg (by omega)]
  refine ⟨by simp [h1], ?_, ?_, fun i hi => ?_⟩
  · unfold tb; rw [set_at _ _ _ _ (by omega), if_neg (by omega)]; exact h2
  · unfold tb; rw [set_at _ _ _ _ (by omega), if_neg (by omega)]; exact h3
  · have a := d (2 * i) (by omega)
    have b := d (2 * i + 1) (by omega)
    rw [← Nat.add_assoc] at b
    rw [a, b]
    exact h4 i hi
end Go.Proofs.YtidchaaahgnabaaDoor

/- Layer 8: ParseAddress and ParseHash. -/
namespace Go.Proofs.YtidchaaahgnabaaDoor
open Go.RowKit Go.Sort
theorem Cz.range {W : World} {g : Nat} {X : List Int} (h : Cz W g X) : W.rangeAt g 0 (X.map (Value.int .u8)) := fun j v hv => by
  rw [List.getElem?_map] at hv
  obtain ⟨x, hx, rfl⟩ := Option.map_eq_some_iff.1 hv
  have hj : j < X.length := (List.getElem?_eq_some_iff.1 hx).1
  rw [Nat.zero_add, (h j hj).1, List.getD, hx]; rfl
theorem Cz.there {W : World} {g : Nat} {X : List Int} (h : Cz W g X) : W.there g 0 X.length := fun j hj => by
  rw [Nat.zero_add]; exact ⟨by rw [(h j hj).1]; rfl, (h j hj).2⟩
theorem Cz.new {W : World} {M : Array Value} {t : TypeId} {X : List Int} (e : M = (X.map (Value.int .u8)).toArray) : Cz (W.alloc (.cells M t)) W.heap.size X := fun i hi => by
  have c : M[i]? = some (.int .u8 (X.getD i 0)) := by
    rw [e, List.getElem?_toArray, List.getElem?_map, List.getElem?_eq_getElem hi, List.getD, List.getElem?_eq_getElem hi]; rfl
  refine ⟨?_, ?_⟩
  · rw [World.cell?_alloc_mark, c]
  · rw [World.frozen?_alloc_mark]
    simp
theorem Cz.lt {W : World} {g : Nat} {X : List Int} (h : Cz W g X) (h0 : 0 < X.length) : g < W.heap.size := World.block_lt_of_cell? W _ (h 0 h0).1
theorem Cz.grown {W W' : World} {g : Nat} {X : List Int} {row : Option Nat} (h : Cz W g X) (hg : W.grownBy W' row) (hn : row ≠ some g) : Cz W' g X := fun i hi => by
  have e : W'.heap[g]? = W.heap[g]? := hg.block g (World.block_lt_of_cell? W _ (h i hi).1) (fun e => hn e.symm)
  exact ⟨by rw [← (h i hi).1]; simp only [World.cell?, e], by rw [← (h i hi).2]; simp only [World.frozen?, e]⟩
theorem laidH {w W : World} {n b : Nat} {D : List Value} (B : Below n w W) (hb : n ≤ b) (ht : W.there b 0 D.length) : Below n w (W.setCells b 0 D) ∧ (W.setCells b 0 D).rangeAt b 0 D := ⟨below_cellsH B hb D 0, World.rangeAt_setCells_same _ _ _ _ ht⟩
theorem one_u8 (X : List Int) : (X.map (Value.int .u8)).toArray.all (·.oneCell') = true := all_oneCell_toArray (fun v hv => by obtain ⟨x, _, rfl⟩ := List.mem_map.1 hv; rfl)
end Go.Proofs.YtidchaaahgnabaaDoor

/- Layer 8: arrays compared; a store into a new array; lower. -/
namespace Go.Proofs.YtidchaaahgnabaaDoor
open Go.RowKit Go.Sort
theorem there_newH {W : World} {cs : Array Value} {t : TypeId} {n : Nat} (hn : n = cs.size) : (W.alloc (.cells cs t)).there W.heap.size 0 n := by
  subst hn
  intro j hj
  rw [Nat.zero_add, World.cell?_alloc_mark, World.frozen?_alloc_mark]
  refine ⟨by simp [hj], ?_⟩
  simp
/-- A store of a whole array into a block just made; the world behind it under a name. -/
theorem wpList_put_new {ops : Array Oper} {rest : List Oper} {op : Oper} {a : Act} {w : World} {Q : Exit → Act → World → Prop} {M : Array Value} {t : TypeId} (hgd : op.guard = none) (ty : TypeId) (x y : Operand) (ho : op.op = .store ty x y) (N : List Value)
    (hx : a.eval x = .pointer (some ⟨w.heap.size, 0, none⟩)) (hy : a.eval y = .agg N.toArray) (hM : M.size = N.length) (hi : (Tryd.prog.info? ty).map (·.size) = some N.length) (h1 : N.toArray.all (·.oneCell') = true)
    (h : ∀ W', Below w.heap.size w W' → W'.rangeAt w.heap.size 0 N → wpList Tryd.prog ops Q rest (a.put op.dst undef) W') : wpList Tryd.prog ops Q (op :: rest) a (w.alloc (.cells M t)) := by
  have tr : (w.alloc (.cells M t)).there w.heap.size 0 N.length := there_newH hM.symm
  refine wpList_store_mid hgd ty x y ho w.heap.size 0 N.toArray hx hy (by simpa using tr) (by simpa using hi) h1 ?_
  have L := laidH ((Below.refl w.heap.size w).alloc (Nat.le_refl _) (.cells M t)) (Nat.le_refl _) tr
  exact h _ L.1 L.2
/-- A text's bytes in a block that may be written. -/
def Fz (W : World) (g n : Nat) (f : Nat → UInt8) : Prop := ∀ i, i < n → W.cell? ⟨g, i, none⟩ = some (.int .u8 ((f i).toNat : Int)) ∧ W.frozen? ⟨g, i, none⟩ = false
theorem Fz.keep {W W' : World} {g n : Nat} {f : Nat → UInt8} (h : Fz W g n f) (hb : Below W.heap.size W W') : Fz W' g n f := fun i hi => by
  have lt : g < W.heap.size := World.block_lt_of_cell? W _ (h i hi).1
  exact ⟨by rw [hb.cell (p := ⟨g, i, none⟩) lt]; exact (h i hi).1, by rw [hb.frozen (p := ⟨g, i, none⟩) lt]; exact (h i hi).2⟩
theorem Fz.put {W : World} {g n i : Nat} {f f' : Nat → UInt8} {x : Int} {u : UInt8} (h : Fz W g n f) (hi : i < n) (hx : x = (u.toNat : Int)) (hf : ∀ j, j < n → f' j = if j = i then u else f j) : Fz (W.setCell ⟨g, i, none⟩ (.int .u8 x)) g n f' := fun j hj => by
  refine ⟨?_, by rw [World.frozen?_setCell]; exact (h j hj).2⟩
  rw [hf j hj]
  by_cases e : j = i
  · subst e
    rw [World.cell?_setCell_same' _ _ _ (by rw [(h _ hj).1]; rfl), if_pos rfl, hx]
  · rw [World.cell?_setCell_other _ _ _ _ (fun x => e (by cases x; rfl)), if_neg e]; exact (h j hj).1
theorem Fz.same {W : World} {g n : Nat} {f f' : Nat → UInt8} (h : Fz W g n f) (hf : ∀ j, j < n → f' j = f j) : Fz W g n f' := fun j hj => by rw [hf j hj]; exact h j hj
/-- The bytes as a text again. -/
theorem Fz.text {W : World} {g n cap : Nat} {f : Nat → UInt8} {T : List UInt8} (h : Fz W g n f) (hl : T.length = n) (hf : ∀ j, j < n → f j = T.getD j 0) : (convert 30 9 (.slice (some ⟨g, 0, none⟩) n cap)).run Tryd.prog W = .ok (.string ⟨T.toArray⟩) W := by
  have r := run_convert_bytes_back (P := Tryd.prog) W 30 9 5 ⟨g, 0, none⟩ cap T Tryd.underlying30 Tryd.underlying5 Tryd.underlying9 (fun j hj => by
    rw [Addr.add_mid, Nat.zero_add, (h j (by omega)).1, hf j (by omega), List.getD, List.getElem?_eq_getElem hj]; rfl)
  rw [hl] at r
  exact r
/-- A text turned into bytes of its own. -/
theorem Fz.of (T : List UInt8) (w : World) : ∃ cap W, (convert 9 30 (.string ⟨T.toArray⟩)).run Tryd.prog w = .ok (.slice (some ⟨w.heap.size, 0, none⟩) T.length cap) W ∧ T.length ≤ cap ∧ Below w.heap.size w W ∧ Fz W w.heap.size T.length (fun j => T.getD j 0) := by
  obtain ⟨cp, R, h1, h2, h3⟩ := conv_text T
  obtain ⟨b, _, c, f⟩ := h3 w
  exact ⟨cp w, R w, h1 w, h2 w, b, fun i hi => ⟨c i hi, f i hi⟩⟩
theorem hnum_any (v : Int) (w : World) : Calls Tryd.prog 11 #[.int .i64 v] w fun e w' => e = .returned (.int .i64 v) ∧ Below w.heap.size w w' := by
  go_enter Tryd.func11, Tryd.ntmps11
  go_wp2
  simp [bodyPost, results, Tryd.results11, go_sem]
  exact Below.refl _ _
end Go.Proofs.YtidchaaahgnabaaDoor

/- Layer 8: ParseHash of any text. -/
namespace Go.Proofs.YtidchaaahgnabaaDoor
open Go.RowKit Go.Sort
end Go.Proofs.YtidchaaahgnabaaDoor

/- Layer 8: the law HexaCase. -/
namespace Go.Proofs.YtidchaaahgnabaaDoor
open Go.RowKit Go.Sort
theorem rangeBoxH {W : World} {M : List Value} {t : TypeId} : (W.alloc (.cells M.toArray t)).rangeAt W.heap.size 0 M := fun j v hv => by
  rw [Nat.zero_add, World.cell?_alloc_mark]
  simpa using hv
theorem range_keepH {W W' : World} {b : Nat} {M : List Value} (h : W.rangeAt b 0 M) (hb : Below W.heap.size W W') : W'.rangeAt b 0 M := fun j v hv => by
  have c := h j v hv
  rw [hb.cell (World.block_lt_of_cell? W _ c)]; exact c
end Go.Proofs.YtidchaaahgnabaaDoor
