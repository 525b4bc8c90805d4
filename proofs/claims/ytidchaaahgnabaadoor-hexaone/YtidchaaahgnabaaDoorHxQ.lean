import Derived.Test.YtidchaaahgnabaaDoorHxP
/- Layer 8: arrays compared; a store into a new array; lower. -/
namespace Go.Proofs.YtidchaaahgnabaaDoor
open Go.RowKit Go.Sort
theorem extB {A B : List Int} (h : A.length = B.length) (e : ∀ t, t < A.length → A.getD t 0 = B.getD t 0) : A = B := by
  apply List.ext_getElem h
  intro i h1 h2
  have := e i h1
  rw [List.getD, List.getD, List.getElem?_eq_getElem h1, List.getElem?_eq_getElem h2] at this
  exact this
theorem there_newH {W : World} {cs : Array Value} {t : TypeId} {n : Nat} (hn : n = cs.size) : (W.alloc (.cells cs t)).there W.heap.size 0 n := by
  subst hn
  intro j hj
  rw [Nat.zero_add, World.cell?_alloc_mark, World.frozen?_alloc_mark]
  refine ⟨by simp [hj], ?_⟩
  simp
/-- A store of a whole array into a block just made; the world behind it under a name. -/
theorem wpList_put_new {ops : Array Oper} {rest : List Oper} {op : Oper} {a : Act} {w : World} {Q : Exit → Act → World → Prop} {M : Array Value} {t : TypeId} (hgd : op.guard = none) (ty : TypeId) (x y : Operand) (ho : op.op = .store ty x y) (N : List Value)
    (hx : a.eval x = .pointer (some ⟨w.heap.size, 0, none⟩)) (hy : a.eval y = .agg N.toArray) (hM : M.size = N.length) (hi : (Tryd.prog.info? ty).map (·.size) = some N.length) (h1 : N.toArray.all (·.oneCell') = true)
    (h : ∀ W', Below w.heap.size w W' → W'.rangeAt w.heap.size 0 N → wpList Tryd.prog ops Q rest (a.put op.dst undef) W') : wpList Tryd.prog ops Q (op :: rest) a (w.alloc (.cells M t)) := by
  have tr : (w.alloc (.cells M t)).there w.heap.size 0 N.length := there_newH hM.symm
  refine wpList_store_mid hgd ty x y ho w.heap.size 0 N.toArray hx hy (by simpa using tr) (by simpa using hi) h1 ?_
  have L := laidH ((Below.refl w.heap.size w).alloc (Nat.le_refl _) (.cells M t)) (Nat.le_refl _) tr
  exact h _ L.1 L.2
/-- A text's bytes in a block that may be written. -/
def Fz (W : World) (g n : Nat) (f : Nat → UInt8) : Prop := ∀ i, i < n → W.cell? ⟨g, i, none⟩ = some (.int .u8 ((f i).toNat : Int)) ∧ W.frozen? ⟨g, i, none⟩ = false
theorem Fz.keep {W W' : World} {g n : Nat} {f : Nat → UInt8} (h : Fz W g n f) (hb : Below W.heap.size W W') : Fz W' g n f := fun i hi => by
  have lt : g < W.heap.size := World.block_lt_of_cell? W _ (h i hi).1
  exact ⟨by rw [hb.cell (p := ⟨g, i, none⟩) lt]; exact (h i hi).1, by rw [hb.frozen (p := ⟨g, i, none⟩) lt]; exact (h i hi).2⟩
theorem Fz.put {W : World} {g n i : Nat} {f f' : Nat → UInt8} {x : Int} {u : UInt8} (h : Fz W g n f) (hi : i < n) (hx : x = (u.toNat : Int)) (hf : ∀ j, j < n → f' j = if j = i then u else f j) : Fz (W.setCell ⟨g, i, none⟩ (.int .u8 x)) g n f' := fun j hj => by
  refine ⟨?_, by rw [World.frozen?_setCell]; exact (h j hj).2⟩
  rw [hf j hj]
  by_cases e : j = i
  · subst e
    rw [World.cell?_setCell_same' _ _ _ (by rw [(h _ hj).1]; rfl), if_pos rfl, hx]
  · rw [World.cell?_setCell_other _ _ _ _ (fun x => e (by cases x; rfl)), if_neg e]; exact (h j hj).1
theorem Fz.same {W : World} {g n : Nat} {f f' : Nat → UInt8} (h : Fz W g n f) (hf : ∀ j, j < n → f' j = f j) : Fz W g n f' := fun j hj => by rw [hf j hj]; exact h j hj
/-- The bytes as a text again. -/
theorem Fz.text {W : World} {g n cap : Nat} {f : Nat → UInt8} {T : List UInt8} (h : Fz W g n f) (hl : T.length = n) (hf : ∀ j, j < n → f j = T.getD j 0) : (convert 30 9 (.slice (some ⟨g, 0, none⟩) n cap)).run Tryd.prog W = .ok (.string ⟨T.toArray⟩) W := by
  have r := run_convert_bytes_back (P := Tryd.prog) W 30 9 5 ⟨g, 0, none⟩ cap T Tryd.underlying30 Tryd.underlying5 Tryd.underlying9 (fun j hj => by
    rw [Addr.add_mid, Nat.zero_add, (h j (by omega)).1, hf j (by omega), List.getD, List.getElem?_eq_getElem hj]; rfl)
  rw [hl] at r
  exact r
/-- A text turned into bytes of its own. -/
theorem Fz.of (T : List UInt8) (w : World) : ∃ cap W, (convert 9 30 (.string ⟨T.toArray⟩)).run Tryd.prog w = .ok (.slice (some ⟨w.heap.size, 0, none⟩) T.length cap) W ∧ T.length ≤ cap ∧ Below w.heap.size w W ∧ Fz W w.heap.size T.length (fun j => T.getD j 0) := by
  obtain ⟨cp, R, h1, h2, h3⟩ := conv_text T
  obtain ⟨b, _, c, f⟩ := h3 w
  exact ⟨cp w, R w, h1 w, h2 w, b, fun i hi => ⟨c i hi, f i hi⟩⟩
set_option maxRecDepth 100000 in
set_option maxHeartbeats 4000000 in
theorem lower_any {T : List UInt8} (hl : T.length < 140737488355328) (w : World) :
    Calls Tryd.prog 10 #[.string ⟨T.toArray⟩] w fun e w' => e = .returned (.string ⟨(lowT T).toArray⟩) ∧ Below w.heap.size w w' := by
  obtain ⟨cap, W, hcv, hcap, hB, hF⟩ := Fz.of T w
  obtain ⟨n, en⟩ : ∃ n, n = T.length := ⟨_, rfl⟩
  rw [← en] at hcv hcap hF
  have EN : Hid (T.length = n ∧ T.length < 140737488355328) := ⟨en.symm, hl⟩
  have o1 : w.heap.size ≤ w.heap.size := Nat.le_refl _
  clear en hl hcap
  go_enter Tryd.func10, Tryd.ntmps10
  go_wp2_with fail
  go_loopg [4] n (fun k iv wr => ∃ i : Nat, k = n - i ∧ i ≤ n ∧ iv = .int .i64 (i : Int) ∧ Below w.heap.size w wr ∧ Fz wr w.heap.size n (fun j => if j < i then lw (T.getD j 0) else T.getD j 0))
  case atStart => exact ⟨0, rfl, Nat.zero_le _, rfl, hB, hF.same (fun j _ => by rw [if_neg (Nat.not_lt_zero _)])⟩
  case round =>
    clear hB hF hcv
    obtain ⟨i, hk, hi, rfl, B, hF⟩ := hrel
    have HK : Hid (gk = n - i ∧ i ≤ n) := ⟨hk, hi⟩
    clear hk
    by_cases h8 : i = n
    · subst h8
      have ct := Fz.text (cap := cap) (T := lowT T) hF (by rw [← EN.out.1]; simp [lowT]) (fun j hj => by
        show (if j < i then lw (T.getD j 0) else T.getD j 0) = _
        rw [if_pos hj, lowT_at (by rw [EN.out.1]; exact hj)])
      have HB : Hid (Below w.heap.size w wr) := B
      clear hF B hi
      go_wp2
      simp [bodyPost, results, Tryd.results10, go_sem]
      exact HB.out
    · have hlt : i < n := by omega
      have hlt' : (i : Int) < (n : Int) := by omega
      obtain ⟨gx, fx⟩ := hF i hlt
      have e0 : (if i < i then lw (T.getD i 0) else T.getD i 0) = T.getD i 0 := if_neg (Nat.lt_irrefl _)
      simp only [e0] at gx
      have n1 : (n : Int) < 140737488355328 := by have := EN.out; omega
      have lwn := lw_num (T.getD i 0)
      have u0 : (0 : Int) ≤ ((T.getD i 0).toNat : Int) ∧ ((T.getD i 0).toNat : Int) < 256 := by have := (T.getD i 0).toNat_lt; omega
      have HF : Hid (Fz wr w.heap.size n (fun j => if j < i then lw (T.getD j 0) else T.getD j 0) ∧ Below w.heap.size w wr) := ⟨hF, B⟩
      obtain ⟨u, hu⟩ : ∃ u : UInt8, Hid (u = T.getD i 0) := ⟨_, rfl⟩
      rw [← hu.out] at gx lwn u0
      obtain ⟨v, hv⟩ : ∃ v : Int, v = (u.toNat : Int) := ⟨_, rfl⟩
      rw [← hv] at gx lwn u0
      have HV : Hid (v = (u.toNat : Int)) := hv
      obtain ⟨v0, v1⟩ := u0
      clear hF B hi e0 hv
      by_cases k : 65 ≤ v ∧ v ≤ 90
      · rw [if_pos k] at lwn
        obtain ⟨k1, k2⟩ := k
        have HL : Hid (v + 32 = ((lw u).toNat : Int)) := lwn.symm
        clear lwn
        go_wp2
        go_roundg (n - (i + 1))
        case measure => have := HK.out; omega
        case rel =>
          refine ⟨i + 1, rfl, hlt, by go_num, HF.out.2.setCell o1 _, HF.out.1.put (u := lw u) hlt (by have := HL.out; omega) (fun j hj => ?_)⟩
          by_cases e : j = i
          · subst e; rw [if_pos (by omega), if_pos rfl, hu.out]
          · rw [if_neg e]
            by_cases e2 : j < i
            · rw [if_pos e2, if_pos (by omega)]
            · rw [if_neg e2, if_neg (by omega)]
      · rw [if_neg k] at lwn
        have HL : Hid (lw u = u) := by
          show lw u = u
          have := HV.out
          exact UInt8.toNat_inj.1 (by omega)
        clear lwn
        by_cases k1 : 65 ≤ v
        · have k2 : ¬ v ≤ 90 := fun x => k ⟨k1, x⟩
          clear k
          go_wp2
          go_roundg (n - (i + 1))
          case measure => have := HK.out; omega
          case rel =>
            refine ⟨i + 1, rfl, hlt, by go_num, HF.out.2, HF.out.1.same (fun j hj => ?_)⟩
            by_cases e : j = i
            · subst e; rw [if_pos (by omega), if_neg (by omega), ← hu.out]; exact HL.out
            · by_cases e2 : j < i
              · rw [if_pos e2, if_pos (by omega)]
              · rw [if_neg e2, if_neg (by omega)]
        · clear k
          go_wp2
          go_roundg (n - (i + 1))
          case measure => have := HK.out; omega
          case rel =>
            refine ⟨i + 1, rfl, hlt, by go_num, HF.out.2, HF.out.1.same (fun j hj => ?_)⟩
            by_cases e : j = i
            · subst e; rw [if_pos (by omega), if_neg (by omega), ← hu.out]; exact HL.out
            · by_cases e2 : j < i
              · rw [if_pos e2, if_pos (by omega)]
              · rw [if_neg e2, if_neg (by omega)]
theorem hnum_any (v : Int) (w : World) : Calls Tryd.prog 11 #[.int .i64 v] w fun e w' => e = .returned (.int .i64 v) ∧ Below w.heap.size w w' := by
  go_enter Tryd.func11, Tryd.ntmps11
  go_wp2
  simp [bodyPost, results, Tryd.results11, go_sem]
  exact Below.refl _ _
end Go.Proofs.YtidchaaahgnabaaDoor
