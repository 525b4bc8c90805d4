import Derived.Test.YtohdlfilldaghaaNbM
/- Layer 11: apart. -/
namespace Go.Proofs.Ytohdlfilldaghaa
open Go.RowKit Go.Sort

/-- What is kept but for the blocks of n slices. -/
structure Many (w w' : World) (n : Nat) (V : Nat → Value) : Prop where
  os : w'.os = w.os
  tape : w'.tape = w.tape
  output : w'.output = w.output
  size : w.heap.size ≤ w'.heap.size
  block : ∀ k, k < w.heap.size → (∀ i, i < n → (V i).ownBlock ≠ some k) → w'.heap[k]? = w.heap[k]?
theorem Many.refl (w : World) (n : Nat) (V : Nat → Value) : Many w w n V := ⟨rfl, rfl, rfl, Nat.le_refl _, fun _ _ _ => rfl⟩
theorem Many.grown {w w1 w2 : World} {n i : Nat} {V : Nat → Value} (h : Many w w1 n V) (hi : i < n) (hg : w1.grownBy w2 (V i).ownBlock) : Many w w2 n V :=
  ⟨hg.os.trans h.os, hg.tape.trans h.tape, hg.output.trans h.output, Nat.le_trans h.size hg.size, fun k hk hn => (hg.block k (Nat.lt_of_lt_of_le hk h.size) (fun e => hn i hi e.symm)).trans (h.block k hk hn)⟩
/-- n slices in a list: all can be read, those from s on are the call's own. -/
structure Fam (B : Nat) (W : World) (gl n : Nat) (V : Nat → Value) (F : Nat → List Int) (s : Nat) : Prop where
  cell : ∀ i, i < n → W.cell? ⟨gl, i, none⟩ = some (V i)
  rd : ∀ i, i < n → Rd W (V i) (F i)
  own : ∀ i, s ≤ i → i < n → OwnB B W (V i) (F i)
  dis : ∀ i j k, i < n → j < n → i ≠ j → (V i).ownBlock = some k → (V j).ownBlock ≠ some k
  far : ∀ i k, i < n → (V i).ownBlock = some k → gl ≠ k
theorem Fam.step {B gl n s s' i : Nat} {W W' : World} {V : Nat → Value} {F : Nat → List Int} {Y : List Int} (h : Fam B W gl n V F s) (hi : i < n) (hg : W.grownBy W' (V i).ownBlock) (hr : Rd W' (V i) Y) (ho : s' ≤ i → OwnB B W' (V i) Y) (hs : s ≤ s') : Fam B W' gl n V (fun j => if j = i then Y else F j) s' where
  cell := fun j hj => hg.cell (h.cell j hj) (fun e => h.far i gl hi e.symm rfl)
  rd := fun j hj => by
    by_cases e : j = i
    · subst e; simpa using hr
    · simp only [if_neg e]
      exact (h.rd j hj).kept hg (fun k hk => h.dis j i k hj hi e hk)
  own := fun j h1 h2 => by
    by_cases e : j = i
    · subst e; simpa using ho h1
    · simp only [if_neg e]
      exact (h.own j (Nat.le_trans hs h1) h2).kept hg (fun k hk => h.dis j i k h2 hi e hk)
  dis := h.dis
  far := h.far
theorem Fam.weak {B gl n s s' : Nat} {W : World} {V : Nat → Value} {F : Nat → List Int} (h : Fam B W gl n V F s) (hs : s ≤ s') : Fam B W gl n V F s' := ⟨h.cell, h.rd, fun i h1 h2 => h.own i (Nat.le_trans hs h1) h2, h.dis, h.far⟩
theorem Fam.congr {B gl n s : Nat} {W : World} {V : Nat → Value} {F G : Nat → List Int} (h : Fam B W gl n V F s) (e : ∀ i, i < n → F i = G i) : Fam B W gl n V G s :=
  ⟨h.cell, fun i hi => e i hi ▸ h.rd i hi, fun i h1 h2 => e i h2 ▸ h.own i h1 h2, h.dis, h.far⟩
def fillL (X : Nat → List Int) (j : Nat) : List Int := List.replicate (X j).length (20 + (j : Int))
theorem fillL_len (X : Nat → List Int) (j : Nat) : (fillL X j).length = (X j).length := by simp [fillL]
theorem fillL_at (X : Nat → List Int) (j k : Nat) (h : k < (X j).length) : (fillL X j).getD k 0 = 20 + (j : Int) := by
  rw [fillL, List.getD, List.getElem?_replicate, if_pos h]; rfl
theorem rep_snoc (k : Nat) (x : Int) : List.replicate k x ++ [x] = List.replicate (k + 1) x := by rw [List.replicate_succ']
set_option maxRecDepth 100000 in
set_option maxHeartbeats 8000000 in
theorem apart_any {B gl n cl : Nat} {V : Nat → Value} {X : Nat → List Int} (hn : n ≤ 4) (hX : ∀ i, i < n → (X i).length < 140737488354000) (w : World) (hB : B ≤ w.heap.size) (h : Fam B w gl n V X 0) (hlt : ∀ i k, i < n → (V i).ownBlock = some k → k < w.heap.size) :
    Calls Try.prog 11 #[.slice (some ⟨gl, 0, none⟩) n cl] w fun e w' => e = .returned (.bool true) ∧ Many w w' n V := by
  have n4 : (n : Int) ≤ 4 := by omega
  have HX : Hid ((∀ i, i < n → (X i).length < 140737488354000) ∧ n ≤ 4 ∧ B ≤ w.heap.size ∧ (∀ i k, i < n → (V i).ownBlock = some k → k < w.heap.size)) := ⟨hX, hn, hB, hlt⟩
  have HI : Hid (Fam B w gl n V X 0) := h
  clear hX hB h hn hlt
  go_enter Try.func11, Try.ntmps11
  go_wp2_with fail
  go_loopg [3, 4] n (fun k iv kv wr => ∃ i : Nat, k = n - i ∧ i ≤ n ∧ iv = .int .i64 (i : Int) ∧ Fam B wr gl n V (fun j => if j < i then fillL X j else X j) 0 ∧ Many w wr n V)
  case atStart => exact ⟨0, rfl, Nat.zero_le _, rfl, HI.out.congr (fun i _ => by simp), Many.refl _ _ _⟩
  case round =>
    clear HI
    obtain ⟨i, hk, hi9, rfl, hF, hM⟩ := hrel
    have HK : Hid (gk = n - i) := hk
    have HF : Hid (Fam B wr gl n V (fun j => if j < i then fillL X j else X j) 0 ∧ Many w wr n V) := ⟨hF, hM⟩
    clear hk hF hM
    by_cases h8 : i < n
    · have hlt : (i : Int) < (n : Int) := by omega
      have o0 := HF.out.1.own i (Nat.zero_le _) h8
      simp only [Nat.lt_irrefl, if_false] at o0
      obtain ⟨a, g, c, ev, hc, haz, _, _, hob, _⟩ := o0.lies
      have cc0 := HF.out.1.cell i h8
      rw [ev] at cc0
      obtain ⟨L, eL⟩ : ∃ L, L = (X i).length := ⟨_, rfl⟩
      rw [← eL] at ev cc0
      have HL : Hid ((X i).length = L ∧ L < 140737488354000 ∧ V i = .slice a L c ∧ Az a g 0 (X i)) := ⟨eL.symm, by rw [eL]; exact HX.out.1 i h8, ev, haz⟩
      have l1 : (L : Int) < 140737488354000 := by have := HL.out.2.1; omega
      have HJ : Hid (i < n) := h8
      clear o0 haz hob hc ev eL cc0 h8
      go_wp2_with fail
      go_loopg [4] L (fun k kv wq => ∃ j : Nat, k = L - j ∧ j ≤ L ∧ kv = .int .i64 (j : Int) ∧ Fam B wq gl n V (fun q => if q < i then fillL X q else if q = i then partw (fillL X i) (X i) j else X q) 0 ∧ Many w wq n V)
      case atStart => exact ⟨0, rfl, Nat.zero_le _, rfl, HF.out.1.congr (fun q _ => by by_cases e : q = i <;> simp [e, partw_zero]), HF.out.2⟩
      case round =>
        clear HF
        obtain ⟨j, hk, hj9, rfl, hF, hM⟩ := hrel
        have HK2 : Hid (gk = L - j) := hk
        have HF : Hid (Fam B wr gl n V (fun q => if q < i then fillL X q else if q = i then partw (fillL X i) (X i) j else X q) 0 ∧ Many w wr n V) := ⟨hF, hM⟩
        clear hk hF hM
        have cc := HF.out.1.cell i HJ.out
        rw [HL.out.2.2.1] at cc
        by_cases h9 : j < L
        · have hlt2 : (j : Int) < (L : Int) := by omega
          have i4 : (i : Int) < 4 := by omega
          obtain rfl := HL.out.2.2.2.cons (by rw [HL.out.1]; omega)
          have oo := HF.out.1.own i (Nat.zero_le _) HJ.out
          simp only [Nat.lt_irrefl, if_false, if_true] at oo
          rw [HL.out.2.2.1] at oo
          have lf : (fillL X i).length = (X i).length := fillL_len X i
          have lp : (partw (fillL X i) (X i) j).length = L := by rw [partw_len lf, HL.out.1]
          have cQ := oo.cell lp h9
          have fQ := oo.free lp j
          have HS := oo.set lp j (20 + (i : Int))
          have e1 := fillL_at X i j (by rw [HL.out.1]; exact h9)
          rw [← e1, partw_set lf (by rw [HL.out.1]; exact h9), e1] at HS
          have HS' : Hid _ := HS
          have HF2 : Hid (Fam B (wr.setCell ⟨g, j, none⟩ (.int .u8 (20 + (i : Int)))) gl n V (fun q => if q < i then fillL X q else if q = i then partw (fillL X i) (X i) (j + 1) else X q) 0 ∧ Many w (wr.setCell ⟨g, j, none⟩ (.int .u8 (20 + (i : Int)))) n V) := by
            have ob : (V i).ownBlock = some g := by rw [HL.out.2.2.1]; rfl
            have ow : OwnB B (wr.setCell ⟨g, j, none⟩ (.int .u8 (20 + (i : Int)))) (V i) (partw (fillL X i) (X i) (j + 1)) := by rw [HL.out.2.2.1]; exact HS'.out.1
            refine ⟨(HF.out.1.step HJ.out (by rw [ob]; exact HS'.out.2) ow.rd (fun _ => ow) (Nat.le_refl _)).congr (fun q _ => ?_), HF.out.2.grown HJ.out (by rw [ob]; exact HS'.out.2)⟩
            by_cases e : q = i
            · subst e; simp
            · simp [e]
          clear HS HS' HF oo lf lp e1
          generalize (partw (fillL X i) (X i) j).getD j 0 = y at *
          go_wp2
          go_roundg (L - (j + 1))
          case measure => have := HK2.out; omega
          case rel => exact ⟨j + 1, rfl, by omega, by go_num, HF2.out⟩
        · obtain rfl : L = j := by omega
          have HF2 : Hid (Fam B wr gl n V (fun q => if q < i + 1 then fillL X q else X q) 0 ∧ Many w wr n V) := by
            refine ⟨HF.out.1.congr (fun q _ => ?_), HF.out.2⟩
            by_cases e : q = i
            · subst e
              have ep := partw_all (P := fillL X q) (X := X q) (fillL_len X q)
              rw [HL.out.1] at ep
              simp [ep]
            · by_cases e2 : q < i
              · simp [e2, show q < i + 1 by omega]
              · simp [e, e2, show ¬ q < i + 1 by omega]
          clear HF h9
          go_wp2
          go_roundg (n - (i + 1))
          case measure => have := HK.out; have := HJ.out; omega
          case rel => exact ⟨i + 1, rfl, by have := HJ.out; omega, by go_num, HF2.out⟩
    · obtain rfl : n = i := by omega
      have HF2 : Hid (Fam B wr gl n V (fillL X) 0 ∧ Many w wr n V) := ⟨HF.out.1.congr (fun q hq => by simp [hq]), HF.out.2⟩
      clear HF HK h8 hi9
      go_wp2_with fail
      go_loopg [5, 6, 7] n (fun k iv mv kv wr => ∃ i : Nat, k = n - i ∧ i ≤ n ∧ iv = .int .i64 (i : Int) ∧ Fam B wr gl n V (fillL X) i ∧ Many w wr n V)
      case atStart => exact ⟨0, rfl, Nat.zero_le _, rfl, HF2.out⟩
      case round =>
        clear HF2
        obtain ⟨i, hk, hi9, rfl, hF, hM⟩ := hrel
        have HK : Hid (gk = n - i) := hk
        have HF : Hid (Fam B wr gl n V (fillL X) i ∧ Many w wr n V) := ⟨hF, hM⟩
        clear hk hF hM
        by_cases h8 : i < n
        · have hlt : (i : Int) < (n : Int) := by omega
          have o0 := HF.out.1.own i (Nat.le_refl _) h8
          obtain ⟨a, g, c, ev, hc, haz, _, hob, _, _⟩ := o0.lies
          have cc := HF.out.1.cell i h8
          rw [ev] at cc
          obtain ⟨L, eL⟩ : ∃ L, L = (fillL X i).length := ⟨_, rfl⟩
          rw [← eL] at ev cc
          have HL : Hid ((fillL X i).length = L ∧ L < 140737488354000 ∧ V i = .slice a L c) := ⟨eL.symm, by rw [eL, fillL_len]; exact HX.out.1 i h8, ev⟩
          have HJ : Hid (i < n) := h8
          obtain ⟨W0, HP, HF0, HBW⟩ : ∃ W0, Hid (Ap B W0 wr (.slice a L c) (.slice a L c) (fillL X i) []) ∧ Hid (Fam B W0 gl n V (fillL X) i ∧ Many w W0 n V) ∧ Hid (B ≤ W0.heap.size) := by
            rw [ev] at o0
            exact ⟨wr, ⟨by rw [List.append_nil]; exact o0, o0.rd, .inl rfl, World.grownBy.refl _ _, fun k hk => (o0.lt k hk).2⟩, HF.out, Nat.le_trans HX.out.2.2.1 HF.out.2.size⟩
          clear o0 haz hob hc ev eL h8 HF
          go_wp2_with (at_builtin; (refine wpList_append_ap (n := L) 241 rfl _ _ rfl _ rfl rfl HP.out (by simp [HL.out.1]) (by have := HL.out.2.1; omega) HBW.out ?_); (intro g1 c1 w1 HA1); (have HC : Hid _ := HA1); (clear HA1))
          clear HP cc
          go_loopg [6, 7] 99 (fun k mv kv wq => ∃ j : Nat, k = 99 - j ∧ j ≤ 99 ∧ kv = .int .i64 (j : Int) ∧ Ap B W0 wq (.slice a L c) mv (fillL X i) ([241] ++ List.replicate j 242))
          case atStart => exact ⟨0, rfl, Nat.zero_le _, rfl, HC.out⟩
          case round =>
            clear HC
            obtain ⟨j, hk, hj9, rfl, ap⟩ := hrel
            have HK2 : Hid (gk = 99 - j) := hk
            have HA : Hid _ := ap
            clear hk ap
            by_cases h9 : j < 99
            · have hlt2 : (j : Int) < 99 := by omega
              go_wp2_with (at_builtin; (refine wpList_append_ap (n := L + 1 + j) 242 rfl _ _ rfl _ rfl rfl HA.out (by rw [HL.out.1, List.length_append, List.length_replicate]; simp; omega) (by have := HL.out.2.1; omega) HBW.out ?_); (intro g2 c2 w2 HA2); (have HE : Hid _ := HA2); (clear HA2))
              go_roundg (99 - (j + 1))
              case measure => have := HK2.out; omega
              case rel => exact ⟨j + 1, rfl, by omega, by go_num, by rw [← rep_snoc j 242, ← List.append_assoc]; exact HE.out⟩
            · obtain rfl : j = 99 := by omega
              have l9 : (fillL X i ++ ([241] ++ List.replicate 99 242)).length = L + 100 := by rw [List.length_append, HL.out.1]; simp
              obtain ⟨g3, c3, e6, _, _⟩ := World.ownsRow.form HA.out.oc (by omega)
              rw [l9] at e6
              subst e6
              have HF : Hid (Fam B wr gl n V (fillL X) (i + 1) ∧ Many w wr n V) := by
                have ra : Rd wr (V i) (fillL X i) := by rw [HL.out.2.2]; exact HA.out.ra
                have gr : W0.grownBy wr (V i).ownBlock := by rw [HL.out.2.2]; exact HA.out.gr
                refine ⟨(HF0.out.1.step HJ.out gr ra (fun h => absurd h (by omega)) (by omega)).congr (fun q _ => ?_), HF0.out.2.grown HJ.out gr⟩
                by_cases e : q = i
                · subst e; simp
                · simp [e]
              have cc := HF.out.1.cell i HJ.out
              rw [HL.out.2.2] at cc
              have hw : (((L + 100 : Nat) : Int) != (L : Int) + 100) = false := by simp
              have lL : (L : Int) < 140737488354000 := by have := HL.out.2.1; omega
              clear HA HF0 l9 h9 hj9
              go_wp2
              go_roundg (n - (i + 1))
              case measure => have := HK.out; have := HJ.out; omega
              case rel => exact ⟨i + 1, rfl, by have := HJ.out; omega, by go_num, HF.out⟩
        · obtain rfl : n = i := by omega
          clear HK h8 hi9
          go_wp2_with fail
          go_loopg [8, 9] n (fun k iv kv wq => ∃ i : Nat, k = n - i ∧ i ≤ n ∧ iv = .int .i64 (i : Int) ∧ Fam B wq gl n V (fillL X) n ∧ Many w wq n V)
          case atStart => exact ⟨0, rfl, Nat.zero_le _, rfl, HF.out⟩
          case round =>
            clear HF
            obtain ⟨i, hk, hi9, rfl, hF, hM⟩ := hrel
            have HK : Hid (gk = n - i) := hk
            have HF : Hid (Fam B wr gl n V (fillL X) n ∧ Many w wr n V) := ⟨hF, hM⟩
            clear hk hF hM
            by_cases h8 : i < n
            · have hlt : (i : Int) < (n : Int) := by omega
              have i4 : (i : Int) < 4 := by omega
              have rd := HF.out.1.rd i h8
              have HJ : Hid (i < n) := h8
              obtain ⟨a, g, c, ev, hv, hcell⟩ := rd
              obtain ⟨L, eL⟩ : ∃ L, L = (fillL X i).length := ⟨_, rfl⟩
              rw [← eL] at ev
              have HL : Hid ((fillL X i).length = L ∧ V i = .slice a L c ∧ (fillL X i ≠ [] → a = some ⟨g, 0, none⟩)) := ⟨eL.symm, ev, hv⟩
              have lL : (L : Int) < 140737488354000 := by have := HX.out.1 i h8; rw [← fillL_len X i, HL.out.1] at this; omega
              clear ev hv eL hcell h8
              go_wp2_with fail
              go_loopg [9] L (fun k kv wq => ∃ j : Nat, k = L - j ∧ j ≤ L ∧ kv = .int .i64 (j : Int) ∧ Fam B wq gl n V (fillL X) n ∧ Many w wq n V)
              case atStart => exact ⟨0, rfl, Nat.zero_le _, rfl, HF.out⟩
              case round =>
                clear HF
                obtain ⟨j, hk, hj9, rfl, hF, hM⟩ := hrel
                have HK2 : Hid (gk = L - j) := hk
                have HF : Hid (Fam B wr gl n V (fillL X) n ∧ Many w wr n V) := ⟨hF, hM⟩
                clear hk hF hM
                have cc := HF.out.1.cell i HJ.out
                rw [HL.out.2.1] at cc
                by_cases h9 : j < L
                · have hlt2 : (j : Int) < (L : Int) := by omega
                  have nn : fillL X i ≠ [] := fun e => by have := HL.out.1; rw [e] at this; simp at this; omega
                  obtain ⟨g', c', ev', _, hcell⟩ := (HF.out.1.rd i HJ.out).block nn
                  rw [HL.out.2.1, HL.out.1] at ev'
                  injection ev' with e1 e2 e3
                  subst e1
                  have xq := hcell j (by rw [HL.out.1]; exact h9)
                  rw [fillL_at X i j (by rw [← fillL_len X i, HL.out.1]; exact h9)] at xq
                  clear hcell e2 e3 nn
                  go_wp2
                  go_roundg (L - (j + 1))
                  case measure => have := HK2.out; omega
                  case rel => exact ⟨j + 1, rfl, by omega, by go_num, HF.out⟩
                · obtain rfl : L = j := by omega
                  clear h9
                  go_wp2
                  go_roundg (n - (i + 1))
                  case measure => have := HK.out; have := HJ.out; omega
                  case rel => exact ⟨i + 1, rfl, by have := HJ.out; omega, by go_num, HF.out⟩
            · obtain rfl : n = i := by omega
              clear h8 hi9 HK
              go_wp2
              simp [bodyPost, results, Try.results11, go_sem]
              exact HF.out.2
end Go.Proofs.Ytohdlfilldaghaa
