import Derived.Test.YtidchaaahgnabaaDoorHxZ
import Derived.Great.Walk
namespace Go.Proofs.YtidchaaahgnabaaDoor
open Go.RowKit Go.Sort

noncomputable def kecB (l : List UInt8) : List (BitVec 8) := hashL (finL 0 (absb (List.replicate 25 0) 0 (bvL l)) l.length)
theorem kecB_byts (l : List UInt8) : (kecL l).map (Value.int .u8) = byts (kecB l) := by rw [kecL, List.map_map]; rfl
theorem kecB_len (l : List UInt8) : (kecB l).length = 32 := hashL_len _
theorem wpListH {P : Program} {ops : Array Oper} {Q : Exit → Act → World → Prop} {rest : List Oper} {a : Act} {w : World} (S : World → Prop) (h : S w) (k : ∀ W, S W → wpList P ops Q rest a W) : wpList P ops Q rest a w := k w h
theorem below_cellsH {W w : World} {n b : Nat} (h : Below n w W) (hb : n ≤ b) : ∀ (vs : List Value) (o : Nat), Below n w (W.setCells b o vs) := fun vs => by
  induction vs generalizing W with
  | nil => exact fun _ => h
  | cons v r ih => exact fun o => ih (h.setCell (p := ⟨b, o, none⟩) hb v) (o + 1)
theorem wpList_load_wantH {P : Program} {ops : Array Oper} {rest : List Oper} {a : Act} {w : World} {Q : Exit → Act → World → Prop} {n gi : Nat} {gb : Bool} {ty tt : TypeId} {x : Operand} {pos : String} {after : Array Edge} (b o : Nat) (cs : List Value) (d : TypeDesc) (hc : w.rangeAt b o cs)
    (hu : P.underlying ty = some d) (hd : d.isRow = true) (hi : (P.info? ty).map (·.size) = some cs.length) (hx : a.eval x = .pointer (some ⟨b, o, none⟩)) (hw : Region.wanted ⟨some n, .load ty x, tt, pos, after, some (gi, gb)⟩ (yielded ops a.tmps) = true)
    (h : wpList P ops Q rest (a.put (some n) (.agg cs.toArray)) w) : wpList P ops Q (⟨some n, .load ty x, tt, pos, after, some (gi, gb)⟩ :: rest) a w :=
  BigFrame.wpList_want hw fun _ hK => wp_load_mid ty x rfl b o hx cs d hc hu hd hi (hK _ _ h)
set_option maxRecDepth 100000 in
theorem alloc_hash (dst : Option Tmp) (pos : String) (ty : TypeId) (af : Array Edge) (ρ : Operand → Value) (w : World) : (execOp ρ { dst := dst, op := Op.alloc 36, type := ty, pos := pos, after := af, guard := none }).run Tryd.prog w = .ok (.value (.pointer (some ⟨w.heap.size, 0, none⟩))) (w.alloc (.cells #[.int .u8 0, .int .u8 0, .int .u8 0, .int .u8 0, .int .u8 0, .int .u8 0, .int .u8 0, .int .u8 0, .int .u8 0, .int .u8 0, .int .u8 0, .int .u8 0, .int .u8 0, .int .u8 0, .int .u8 0, .int .u8 0, .int .u8 0, .int .u8 0, .int .u8 0, .int .u8 0, .int .u8 0, .int .u8 0, .int .u8 0, .int .u8 0, .int .u8 0, .int .u8 0, .int .u8 0, .int .u8 0, .int .u8 0, .int .u8 0, .int .u8 0, .int .u8 0] 36)) := by
  simp [execOp, go_sem]
/-- A letter with its case. -/
def ck1 (u : UInt8) (h : Int) : UInt8 := if smB (u.toNat : Int) = true ∧ 8 ≤ h then u - 32 else u
/-- The text when i letters have their case. -/
def tx (l : List UInt8) (L : List Int) (i j : Nat) : UInt8 := if 2 ≤ j ∧ j < 2 + i then ck1 (l.getD j 0) (halfN L (j - 2)) else l.getD j 0
theorem tx_zero (l : List UInt8) (L : List Int) (j : Nat) : tx l L 0 j = l.getD j 0 := by unfold tx; rw [if_neg (by omega)]
theorem tx_at (l : List UInt8) (L : List Int) (i : Nat) : tx l L i (2 + i) = l.getD (2 + i) 0 := by unfold tx; rw [if_neg (by omega)]
theorem tx_new (l : List UInt8) (L : List Int) (i : Nat) : tx l L (i + 1) (2 + i) = ck1 (l.getD (2 + i) 0) (halfN L i) := by unfold tx; rw [if_pos (by omega), Nat.add_sub_cancel_left]
theorem tx_old {l : List UInt8} {L : List Int} {i j : Nat} (h : j ≠ 2 + i) : tx l L (i + 1) j = tx l L i j := by
  unfold tx
  by_cases h2 : 2 ≤ j ∧ j < 2 + i
  · rw [if_pos h2, if_pos (by omega)]
  · rw [if_neg h2, if_neg (by omega)]
theorem tx_same {l : List UInt8} {L : List Int} {i : Nat} (h : ck1 (l.getD (2 + i) 0) (halfN L i) = l.getD (2 + i) 0) : tx l L (i + 1) = tx l L i := by
  funext j
  by_cases e : j = 2 + i
  · subst e; rw [tx_new, tx_at, h]
  · exact tx_old e
theorem ck1_turned {u : UInt8} {h : Int} (h1 : smB (u.toNat : Int) = true) (h2 : 8 ≤ h) : ((ck1 u h).toNat : Int) = (u.toNat : Int) - 97 + 65 := by
  have hc : 97 ≤ (u.toNat : Int) ∧ (u.toNat : Int) ≤ 102 := by simpa [smB] using h1
  unfold ck1
  rw [if_pos ⟨h1, h2⟩, UInt8.toNat_sub_of_le _ _ (by rw [UInt8.le_iff_toNat_le]; show 32 ≤ u.toNat; omega)]
  show ((u.toNat - 32 : Nat) : Int) = _
  omega
/-- What the loop over the tail finds: the digest in its block, the text's bytes in theirs. -/
structure Ck (w W : World) (gt gh : Nat) (f : Nat → UInt8) (D : List (BitVec 8)) : Prop where
  below : Below w.heap.size w W
  dig : Hsh W gh D
  cell : ∀ i, i < 42 → W.cell? ⟨gt, i, none⟩ = some (.int .u8 ((f i).toNat : Int))
  free : ∀ i, i < 42 → W.frozen? ⟨gt, i, none⟩ = false
  ge : w.heap.size ≤ gt
  ne : gt ≠ gh
/-- The checked address. -/
noncomputable def ckS (A : List Int) : List UInt8 := (List.range 42).map (tx ([48, 120] ++ hexB A) (kecL (([48, 120] ++ hexB A).drop 2)) 40)
theorem Ck.keep {w W W' : World} {gt gh : Nat} {f : Nat → UInt8} {D : List (BitVec 8)} (h : Ck w W gt gh f D) (hb : Below W.heap.size W W') : Ck w W' gt gh f D :=
  ⟨h.below.trans (hb.mono h.below.size), h.dig.keep hb, fun i hi => cellK hb (h.cell i hi), fun i hi => by rw [hb.frozen (p := ⟨gt, i, none⟩) (World.block_lt_of_cell? _ _ (h.cell i hi))]; exact h.free i hi, h.ge, h.ne⟩
theorem Ck.put {w W : World} {gt gh i : Nat} {l : List UInt8} {L : List Int} {D : List (BitVec 8)} {x : Int} (h : Ck w W gt gh (tx l L i) D) (hx : x = ((ck1 (l.getD (2 + i) 0) (halfN L i)).toNat : Int)) : Ck w (W.setCell ⟨gt, 2 + i, none⟩ (.int .u8 x)) gt gh (tx l L (i + 1)) D := by
  refine ⟨h.below.setCell h.ge _, h.dig.other h.ne _, fun j hj => ?_, fun j hj => by simpa using h.free j hj, h.ge, h.ne⟩
  by_cases e : j = 2 + i
  · subst e
    rw [World.cell?_setCell_same' _ _ _ (by rw [h.cell _ hj]; rfl), hx, tx_new]
  · rw [World.cell?_setCell_other _ _ _ _ (fun x => e (by cases x; rfl)), h.cell j hj, tx_old e]
set_option maxRecDepth 100000 in
set_option maxHeartbeats 8000000 in
theorem checksum_any {A : List Int} (hA : A.length = 20) (hb : ∀ i, 0 ≤ A.getD i 0 ∧ A.getD i 0 < 256) (w : World) (ht : Tab w 4 turnsN) (hm : Lns w 2 marksN) :
    Calls Tryd.prog 8 #[.agg (A.map (Value.int .u8)).toArray] w fun e w' => e = .returned (.string ⟨(ckS A).toArray⟩) ∧ Below w.heap.size w w' := by
  obtain ⟨M, HM⟩ : ∃ M, Hid (M = (A.map (Value.int .u8)).toArray) := ⟨_, rfl⟩
  rw [← HM.out]
  have hc : ∀ i, i < 20 → (w.alloc (.cells M 23)).cell? ⟨w.heap.size, 0 + i, none⟩ = some (.int .u8 (A.getD i 0)) := fun i hi => by
    have e : M[i]? = some (.int .u8 (A.getD i 0)) := by
      rw [HM.out, List.getElem?_toArray, List.getElem?_map, List.getElem?_eq_getElem (by omega), List.getD, List.getElem?_eq_getElem (by omega)]; rfl
    simp [go_sem, e]
  have hw := written_any (a := some ⟨w.heap.size, 0, none⟩) (g := w.heap.size) (o := 0) (n := 20) (c := 20) hA (by decide) hb (fun _ => rfl) _ hc
  have HT : Hid (Tab w 4 turnsN ∧ Lns w 2 marksN) := ⟨ht, hm⟩
  obtain ⟨l, el⟩ : ∃ l : List UInt8, l = [48, 120] ++ hexB A := ⟨_, rfl⟩
  have Hl : Hid (l = [48, 120] ++ hexB A) := el
  clear el
  rw [← Hl.out] at hw
  have L42 : Hid (l.length = 42) := by rw [Hl.out, List.length_append, hexB_len, hA]; rfl
  clear ht hm hc hb
  go_enter Tryd.func8, Tryd.ntmps8
  go_wp2_with fail
  with_reducible refine hw.mono ?_
  rintro e1 w1 ⟨rfl, b1⟩
  have HB : Hid (Below w.heap.size w w1) := ((Below.refl _ _).alloc (Nat.le_refl _) _).trans (b1.mono (by simp))
  clear b1 hw
  obtain ⟨cap, W2, hcv, hcap, HW2⟩ : ∃ cap W2, (convert 9 30 (.string ⟨l.toArray⟩)).run Tryd.prog w1 = .ok (.slice (some ⟨w1.heap.size, 0, none⟩) 42 cap) W2 ∧ 42 ≤ cap ∧ Hid (Below w1.heap.size w1 W2 ∧ W2.heap.size = w1.heap.size + 1 ∧ (∀ i, i < 42 → W2.cell? ⟨w1.heap.size, i, none⟩ = some (.int .u8 ((l.getD i 0).toNat : Int))) ∧ (∀ i, i < 42 → W2.frozen? ⟨w1.heap.size, i, none⟩ = false)) := by
    obtain ⟨cp, R, h1, h2, h3⟩ := conv_text l
    have e := L42.out
    have h1 := h1 w1; have h2 := h2 w1; have h3 := h3 w1
    rw [e] at h1 h2 h3
    exact ⟨cp w1, R w1, h1, h2, h3⟩
  have cap1 : (42 : Int) ≤ (cap : Int) := by omega
  have cap2 : cap ≠ 2 := by omega
  obtain ⟨lt, Hlt⟩ : ∃ l' : List UInt8, Hid (l' = l.drop 2) := ⟨_, rfl⟩
  have L40 : Hid (lt.length = 40) := by rw [Hlt.out, List.length_drop, L42.out]; exact rfl
  have hks := ksum_any (l := lt) (g := w1.heap.size) (o := 2) (c := cap - 2) (b := W2.heap.size) (by have := L40.out; omega) (by have := L40.out; omega) (W2.alloc (.cells #[.slice (some ⟨w1.heap.size, 2, none⟩) 40 (cap - 2)] 30)) (by rw [L40.out]; simp [go_sem]) (fun i hi => by
    rw [L40.out] at hi
    have h := HW2.out.2.2.1 (2 + i) (by omega)
    have hb : Below W2.heap.size W2 (W2.alloc (.cells #[.slice (some ⟨w1.heap.size, 2, none⟩) 40 (cap - 2)] 30)) := (Below.refl _ _).alloc (Nat.le_refl _) _
    rw [cellK hb h, Hlt.out]
    simp [List.getD, List.getElem?_drop]) ((HT.out.1.keep HB.out).keep HW2.out.1 |>.alloc _) (((HT.out.2.keep HB.out).keep HW2.out.1).keep ((Below.refl _ _).alloc (Nat.le_refl _) _))
  rw [kecB_byts] at hks
  obtain ⟨D, HD⟩ : ∃ D, Hid (D = kecB lt) := ⟨_, rfl⟩
  have D32 : Hid (D.length = 32) := by rw [HD.out]; exact kecB_len lt
  rw [← HD.out] at hks
  obtain ⟨N, HN⟩ : ∃ N, Hid (N = byts D) := ⟨_, rfl⟩
  rw [← HN.out] at hks
  go_wp2_with fail
  with_reducible refine hks.mono ?_
  rintro e1 w3 ⟨rfl, b3⟩
  have l1 : w.heap.size < w1.heap.size ∨ True := .inr trivial
  have B3 : Below w.heap.size w w3 := ((HB.out.trans (HW2.out.1.mono HB.out.size)).alloc (by have := HB.out.size; have := HW2.out.2.1; omega) _).trans (b3.mono (by have := HB.out.size; have := HW2.out.2.1; simp; omega))
  have cw3 : ∀ i, i < 42 → w3.cell? ⟨w1.heap.size, i, none⟩ = some (.int .u8 ((l.getD i 0).toNat : Int)) ∧ w3.frozen? ⟨w1.heap.size, i, none⟩ = false := fun i hi => by
    have h := HW2.out.2.2.1 i hi
    have hb : Below W2.heap.size W2 w3 := ((Below.refl W2.heap.size W2).alloc (Nat.le_refl _) _).trans (b3.mono (by simp))
    exact ⟨cellK hb h, by rw [hb.frozen (p := ⟨w1.heap.size, i, none⟩) (World.block_lt_of_cell? _ _ h)]; exact HW2.out.2.2.2 i hi⟩
  have Z0 : Hsh (w3.alloc (.cells #[.int .u8 0, .int .u8 0, .int .u8 0, .int .u8 0, .int .u8 0, .int .u8 0, .int .u8 0, .int .u8 0, .int .u8 0, .int .u8 0, .int .u8 0, .int .u8 0, .int .u8 0, .int .u8 0, .int .u8 0, .int .u8 0, .int .u8 0, .int .u8 0, .int .u8 0, .int .u8 0, .int .u8 0, .int .u8 0, .int .u8 0, .int .u8 0, .int .u8 0, .int .u8 0, .int .u8 0, .int .u8 0, .int .u8 0, .int .u8 0, .int .u8 0, .int .u8 0] 36)) w3.heap.size (List.replicate 32 0) := Hsh.zeros _ rfl
  have NS : N.toArray.size = 32 := by rw [List.size_toArray, HN.out]; simp [byts, D32.out]
  have OC : N.toArray.all (·.oneCell') = true := by
    rw [HN.out]
    exact all_oneCell_toArray (fun v hv => by simp [byts] at hv; obtain ⟨_, _, rfl⟩ := hv; rfl)
  have TR : (w3.alloc (.cells #[.int .u8 0, .int .u8 0, .int .u8 0, .int .u8 0, .int .u8 0, .int .u8 0, .int .u8 0, .int .u8 0, .int .u8 0, .int .u8 0, .int .u8 0, .int .u8 0, .int .u8 0, .int .u8 0, .int .u8 0, .int .u8 0, .int .u8 0, .int .u8 0, .int .u8 0, .int .u8 0, .int .u8 0, .int .u8 0, .int .u8 0, .int .u8 0, .int .u8 0, .int .u8 0, .int .u8 0, .int .u8 0, .int .u8 0, .int .u8 0, .int .u8 0, .int .u8 0] 36)).there w3.heap.size 0 N.toArray.size := by rw [NS]; exact Z0.there
  have FF : Hid (Ck w ((w3.alloc (.cells #[.int .u8 0, .int .u8 0, .int .u8 0, .int .u8 0, .int .u8 0, .int .u8 0, .int .u8 0, .int .u8 0, .int .u8 0, .int .u8 0, .int .u8 0, .int .u8 0, .int .u8 0, .int .u8 0, .int .u8 0, .int .u8 0, .int .u8 0, .int .u8 0, .int .u8 0, .int .u8 0, .int .u8 0, .int .u8 0, .int .u8 0, .int .u8 0, .int .u8 0, .int .u8 0, .int .u8 0, .int .u8 0, .int .u8 0, .int .u8 0, .int .u8 0, .int .u8 0] 36)).setCells w3.heap.size 0 N.toArray.toList) w1.heap.size w3.heap.size (tx l (D.map Y) 0) D) := by
    have hlt : w1.heap.size < w3.heap.size := World.block_lt_of_cell? _ _ (cw3 0 (by decide)).1
    have ba : Below w3.heap.size w3 (w3.alloc (.cells #[.int .u8 0, .int .u8 0, .int .u8 0, .int .u8 0, .int .u8 0, .int .u8 0, .int .u8 0, .int .u8 0, .int .u8 0, .int .u8 0, .int .u8 0, .int .u8 0, .int .u8 0, .int .u8 0, .int .u8 0, .int .u8 0, .int .u8 0, .int .u8 0, .int .u8 0, .int .u8 0, .int .u8 0, .int .u8 0, .int .u8 0, .int .u8 0, .int .u8 0, .int .u8 0, .int .u8 0, .int .u8 0, .int .u8 0, .int .u8 0, .int .u8 0, .int .u8 0] 36)) := (Below.refl _ _).alloc (Nat.le_refl _) _
    refine ⟨below_cellsH (B3.alloc B3.size _) B3.size _ _, ?_, fun i hi => ?_, fun i hi => ?_, HB.out.size, by omega⟩
    · rw [List.toList_toArray, HN.out]; exact Z0.stored D32.out
    · rw [World.cell?_setCells_out _ _ _ _ _ (fun e => by simp at e; omega), tx_zero]
      exact cellK ba (cw3 i hi).1
    · rw [World.frozen?_setCells, ba.frozen (p := ⟨w1.heap.size, i, none⟩) hlt]
      exact (cw3 i hi).2
  clear hks hcv B3 cw3 Z0 l1 b3
  go_wp2_with ((refine Go.Great.wpList_allocTo rfl _ rfl _ _ (alloc_hash _ _ _ _ _ _) ?_); (refine wpList_store_mid rfl 36 _ _ rfl w3.heap.size 0 N.toArray rfl rfl TR (by rw [NS]; kernel_rfl) OC ?_); (refine wpListH (fun W => Ck w W w1.heap.size w3.heap.size (tx l (D.map Y) 0) D) FF.out ?_); (clear FF TR); (rintro W hC); (have HC : Hid _ := hC); (clear hC); (simp only [Act.put, List.setIfInBounds_toArray, List.set_cons_zero, List.set_cons_succ]))
  have HL : Hid ((D.map Y).length = 32 ∧ (∀ i, 0 ≤ (D.map Y).getD i 0 ∧ (D.map Y).getD i 0 < 256) ∧ byts D = (D.map Y).map (Value.int .u8)) := by
    refine ⟨by rw [List.length_map, D32.out], fun i => ?_, by rw [byts, List.map_map]; rfl⟩
    by_cases h : i < (D.map Y).length
    · rw [List.getD, List.getElem?_eq_getElem h, List.getElem_map, Option.getD_some]; exact ⟨Y_lo _, Y_hi _⟩
    · rw [List.getD, List.getElem?_eq_none (by omega)]; exact ⟨Int.le_refl _, by decide⟩
  obtain ⟨gt, Hgt⟩ : ∃ g, Hid (g = w1.heap.size) := ⟨_, rfl⟩
  obtain ⟨gh, Hgh⟩ : ∃ g, Hid (g = w3.heap.size) := ⟨_, rfl⟩
  rw [← Hgt.out, ← Hgh.out] at HC
  rw [← Hgt.out, ← Hgh.out]
  clear OC NS HT HB HW2
  go_loopg [18] 40 (fun k iv wr => ∃ i : Nat, k = 40 - i ∧ i ≤ 40 ∧ iv = .int .i64 (i : Int) ∧ Ck w wr gt gh (tx l (D.map Y) i) D)
  case atStart => exact ⟨0, rfl, Nat.zero_le _, rfl, HC.out⟩
  case round =>
    clear HC
    obtain ⟨i, hk, hi, rfl, ck⟩ := hrel
    have HK : Hid (gk = 40 - i) := hk
    have HC : Hid (Ck w wr gt gh (tx l (D.map Y) i) D) := ck
    clear hk
    by_cases h8 : i < 40
    · have hlt : (i : Int) < 40 := by omega
      have gx := ck.cell (2 + i) (by omega)
      have fx := ck.free (2 + i) (by omega)
      rw [tx_at] at gx
      obtain ⟨u, Hu⟩ : ∃ u : UInt8, Hid (u = l.getD (2 + i) 0) := ⟨_, rfl⟩
      rw [← Hu.out] at gx
      have hs := small_any (u.toNat : Int)
      clear ck
      by_cases hsm : smB (u.toNat : Int) = true
      · rw [hsm] at hs
        have hr := HC.out.dig.range
        have hh := half_any (L := D.map Y) (i := i) HL.out.1 HL.out.2.1 (by omega) wr
        rw [← HL.out.2.2, ← HN.out] at hh
        rw [← HN.out] at hr
        have il : (Tryd.prog.info? 36).map (·.size) = some N.length := by rw [show N.length = 32 by rw [HN.out]; simp [byts, D32.out]]; kernel_rfl
        by_cases h9 : 8 ≤ halfN (D.map Y) i
        · have hd9 : decide (8 ≤ halfN (D.map Y) i) = true := decide_eq_true h9
          have HX : Hid ((u.toNat : Int) - 97 + 65 = ((ck1 (l.getD (2 + i) 0) (halfN (D.map Y) i)).toNat : Int)) := by rw [← Hu.out]; exact (ck1_turned hsm h9).symm
          have hc9 : 97 ≤ (u.toNat : Int) ∧ (u.toNat : Int) ≤ 102 := by simpa [smB] using hsm
          obtain ⟨q1, q2⟩ := hc9
          clear hsm h9
          go_wp2_with first | ((with_reducible refine (hs _).mono ?_); rintro e1 w9 ⟨rfl, hw9⟩; (rw [hw9]); (clear hw9 w9)) | ((with_reducible refine wpList_load_wantH (ty := 36) gh 0 N _ hr Tryd.underlying36 ?_ il ?_ ?_ ?_); rfl; rfl; rfl; simp only [Act.put, List.setIfInBounds_toArray, List.set_cons_succ, List.set_cons_zero]) | ((with_reducible refine hh.mono ?_); rintro e1 w9 ⟨rfl, hb9⟩; (have HC9 : Hid _ := HC.out.keep hb9); (have gx9 := HC9.out.cell (2 + i) (by omega)); (have fx9 := HC9.out.free (2 + i) (by omega)); (clear hb9))
          go_roundg (40 - (i + 1))
          case measure => have := HK.out; omega
          case rel => exact ⟨i + 1, rfl, by omega, by rw [Int.natCast_add]; rfl, HC9.out.put HX.out⟩
        · have hd9 : decide (8 ≤ halfN (D.map Y) i) = false := decide_eq_false h9
          have HE : Hid (tx l (D.map Y) (i + 1) = tx l (D.map Y) i) := tx_same (by rw [← Hu.out, ck1, if_neg (fun x => h9 x.2)])
          clear hsm h9
          go_wp2_with first | ((with_reducible refine (hs _).mono ?_); rintro e1 w9 ⟨rfl, hw9⟩; (rw [hw9]); (clear hw9 w9)) | ((with_reducible refine wpList_load_wantH (ty := 36) gh 0 N _ hr Tryd.underlying36 ?_ il ?_ ?_ ?_); rfl; rfl; rfl; simp only [Act.put, List.setIfInBounds_toArray, List.set_cons_succ, List.set_cons_zero]) | ((with_reducible refine hh.mono ?_); rintro e1 w9 ⟨rfl, hb9⟩; (have HC9 : Hid _ := HC.out.keep hb9); (clear hb9))
          go_roundg (40 - (i + 1))
          case measure => have := HK.out; omega
          case rel => exact ⟨i + 1, rfl, by omega, by rw [Int.natCast_add]; rfl, by rw [HE.out]; exact HC9.out⟩
      · have hsm' : smB (u.toNat : Int) = false := by simpa using hsm
        rw [hsm'] at hs
        have HE : Hid (tx l (D.map Y) (i + 1) = tx l (D.map Y) i) := tx_same (by rw [← Hu.out, ck1, if_neg (fun x => hsm x.1)])
        clear hsm hsm'
        go_wp2_with ((with_reducible refine (hs _).mono ?_); rintro e1 w9 ⟨rfl, hw9⟩; (rw [hw9]); (clear hw9 w9))
        go_roundg (40 - (i + 1))
        case measure => have := HK.out; omega
        case rel => exact ⟨i + 1, rfl, by omega, by rw [Int.natCast_add]; rfl, by rw [HE.out]; exact HC.out⟩
    · obtain rfl : i = 40 := by omega
      have hlt : ¬ (((40 : Nat) : Int) < 40) := by omega
      have hcb : (convert 30 9 (.slice (some ⟨gt, 0, none⟩) 42 cap)).run Tryd.prog wr = .ok (.string ⟨((List.range 42).map (tx l (D.map Y) 40)).toArray⟩) wr := by
        have h := run_convert_bytes_back (P := Tryd.prog) wr 30 9 5 ⟨gt, 0, none⟩ cap ((List.range 42).map (tx l (D.map Y) 40)) Tryd.underlying30 Tryd.underlying5 Tryd.underlying9 (fun j hj => by
          have hj' : j < 42 := by simpa using hj
          rw [Addr.add_mid, Nat.zero_add, HC.out.cell j hj']
          simp)
        rw [show ((List.range 42).map (tx l (D.map Y) 40)).length = 42 by simp] at h
        exact h
      obtain ⟨z, Hz⟩ : ∃ z, Hid (z = (List.range 42).map (tx l (D.map Y) 40)) := ⟨_, rfl⟩
      rw [← Hz.out] at hcb
      clear ck
      go_wp2
      go_ret
      refine ⟨?_, HC.out.below⟩
      rw [Hz.out, HD.out, Hlt.out, Hl.out]
      rfl
end Go.Proofs.YtidchaaahgnabaaDoor
