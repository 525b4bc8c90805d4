import Derived.Test.YtaefmdofchjofaaXsB
import Derived.Test.YtaefmdofchjofaaAdLast
import Derived.Deep.RegionHeld
import Derived.OrdersHeld
import Derived.Test.YtaefmdofchjofaaRxY
/- Layer 21: Item of the program. -/
namespace Go.Proofs.Ytaefmdofchjofaa
open Go.RowKit Go.Sort
theorem kworldS {K : Act → World → Prop} {a : Act} {w : World} (I : World → Prop) (h : I w) (k : ∀ V, I V → K a V) : K a w := k w h
theorem its4 {W : World} {t0 t1 t2 t3 : Tr} {d0 q0 d1 q1 d2 q2 d3 q3 : Value} {ty : TypeId} (h0 : It W t0 d0 q0) (h1 : It W t1 d1 q1) (h2 : It W t2 d2 q2) (h3 : It W t3 d3 q3) : Its (W.alloc (.cells #[.bool t0.l, d0, q0, .bool t1.l, d1, q1, .bool t2.l, d2, q2, .bool t3.l, d3, q3] ty)) W.heap.size 0 [t0, t1, t2, t3] := by
  have B : Below W.heap.size W (W.alloc (.cells #[.bool t0.l, d0, q0, .bool t1.l, d1, q1, .bool t2.l, d2, q2, .bool t3.l, d3, q3] ty)) := (Below.refl _ _).alloc (Nat.le_refl _) _
  have r := rangeBox (W := W) (M := [.bool t0.l, d0, q0, .bool t1.l, d1, q1, .bool t2.l, d2, q2, .bool t3.l, d3, q3]) (t := ty)
  rw [Its, Its, Its, Its, Its]
  refine ⟨⟨d0, q0, fun j v hv => ?_, It.keep B _ h0⟩, ⟨d1, q1, fun j v hv => ?_, It.keep B _ h1⟩, ⟨d2, q2, fun j v hv => ?_, It.keep B _ h2⟩, ⟨d3, q3, fun j v hv => ?_, It.keep B _ h3⟩, trivial⟩
  · match j, hv with
    | 0, hv => exact r 0 v hv
    | 1, hv => exact r 1 v hv
    | 2, hv => exact r 2 v hv
    | j + 3, hv => simp at hv
  · match j, hv with
    | 0, hv => exact r 3 v hv
    | 1, hv => exact r 4 v hv
    | 2, hv => exact r 5 v hv
    | j + 3, hv => simp at hv
  · match j, hv with
    | 0, hv => exact r 6 v hv
    | 1, hv => exact r 7 v hv
    | 2, hv => exact r 8 v hv
    | j + 3, hv => simp at hv
  · match j, hv with
    | 0, hv => exact r 9 v hv
    | 1, hv => exact r 10 v hv
    | 2, hv => exact r 11 v hv
    | j + 3, hv => simp at hv
/-- An account in a block. -/
structure Acb (W : World) (g : Nat) (n b : Int) (S C : List Int) : Prop where
  non : W.cell? ⟨g, 0, none⟩ = some (.int .u64 n)
  num : W.cell? ⟨g, 1, none⟩ = some (.int .u64 (l0 b)) ∧ W.cell? ⟨g, 2, none⟩ = some (.int .u64 (l1 b)) ∧ W.cell? ⟨g, 3, none⟩ = some (.int .u64 (l2 b)) ∧ W.cell? ⟨g, 4, none⟩ = some (.int .u64 (l3 b))
  sto : Bz W g 5 S
  cod : Bz W g 37 C
theorem Acb.of {W : World} {g : Nat} {n b : Int} {S C : List Int} (hS : S.length = 32) (h : W.rangeAt g 0 (acM n b (u8L S) (u8L C))) : Acb W g n b S C := by
  refine ⟨?_, ⟨?_, ?_, ?_, ?_⟩, fun i hi => ?_, fun i hi => ?_⟩
  · simpa using h 0 _ (by simp [acM])
  · simpa using h 1 _ (by simp [acM])
  · simpa using h 2 _ (by simp [acM])
  · simpa using h 3 _ (by simp [acM])
  · simpa using h 4 _ (by simp [acM])
  · have := h (5 + i) (.int .u8 (S.getD i 0)) (by
      unfold acM u8L
      rw [show 5 + i = i + 1 + 1 + 1 + 1 + 1 by omega]
      simp only [List.getElem?_cons_succ]
      rw [List.getElem?_append_left (by simp; exact hi), List.getElem?_map, List.getElem?_eq_getElem hi]
      simp [List.getD, hi])
    simpa using this
  · have := h (37 + i) (.int .u8 (C.getD i 0)) (by
      unfold acM u8L
      rw [show 37 + i = (32 + i) + 1 + 1 + 1 + 1 + 1 by omega]
      simp only [List.getElem?_cons_succ]
      rw [List.getElem?_append_right (by simp [hS]), List.getElem?_map]
      simp [hS, List.getD, hi])
    simpa using this
theorem Acb.keep {W W' : World} {g : Nat} {n b : Int} {S C : List Int} (h : Acb W g n b S C) (B : Below W.heap.size W W') : Acb W' g n b S C :=
  ⟨keepC B h.non, ⟨keepC B h.num.1, keepC B h.num.2.1, keepC B h.num.2.2.1, keepC B h.num.2.2.2⟩, h.sto.keep B, h.cod.keep B⟩
set_option maxRecDepth 100000 in
set_option maxHeartbeats 8000000 in
theorem item_any {n b : Int} {S C : List Int} (hn : Word n) (hb : Num b) (hS : S.length = 32) (hC : C.length = 32) (w : World) :
    Calls Try.prog 4 #[.agg (acM n b (u8L S) (u8L C)).toArray] w fun e w' => ∃ v, e = .returned (.tuple #[v, .int .i64 0]) ∧ OwnB w.heap.size w' v (acX n b S C) ∧ Below w.heap.size w w' := by
  have C0 : Hid (∀ W, Calls Try.prog 16 #[.int .u64 n] W fun e w' => ∃ d q, e = .returned (.agg #[.bool false, d, q]) ∧ It w' (.mk false (stripL (putL n)) []) d q ∧ Below W.heap.size W w') := fun W => (small_any hn W).mono fun e w' ⟨d, q, h1, h2, h3⟩ => ⟨d, q, h1, Ot.it _ h2, h3⟩
  have C1 : Hid (∀ W, Calls Try.prog 17 #[.agg #[.int .u64 (l0 b), .int .u64 (l1 b), .int .u64 (l2 b), .int .u64 (l3 b)]] W fun e w' => ∃ d q, e = .returned (.agg #[.bool false, d, q]) ∧ It w' (.mk false (stripL (putL b)) []) d q ∧ Below W.heap.size W w') := fun W => (numbT_any hb W).mono fun e w' ⟨d, q, h1, h2, h3⟩ => ⟨d, q, h1, Ot.it _ h2, h3⟩
  have C2 : Hid (∀ W g o (X : List Int), X.length = 32 → Bz W g o X → Calls Try.prog 18 #[.slice (some ⟨g, o, none⟩) 32 32] W fun e w' => ∃ d q, e = .returned (.agg #[.bool false, d, q]) ∧ It w' (.mk false X []) d q ∧ Below W.heap.size W w') := fun W g o X hX h => (text_any hX.symm (by omega) (.inr rfl) W h).mono fun e w' ⟨d, q, h1, h2, h3⟩ => ⟨d, q, h1, Ot.it _ h2, h3⟩
  have C3 : Hid (∀ W g, Its W g 0 [.mk false (stripL (putL n)) [], .mk false (stripL (putL b)) [], .mk false S [], .mk false C []] → Calls Try.prog 15 #[.slice (some ⟨g, 0, none⟩) 4 4] W fun e w' => ∃ d q, e = .returned (.agg #[.bool true, d, q]) ∧ It w' (acT n b S C) d q ∧ Below W.heap.size W w') := fun W g h => (list_any (ts := [.mk false (stripL (putL n)) [], .mk false (stripL (putL b)) [], .mk false S [], .mk false C []]) (by have h := acT_wt (n := n) (b := b) hS hC; unfold acT at h; rw [wtT] at h; omega) (.inr rfl) W h).mono fun e w' ⟨d, q, h1, h2, h3⟩ => ⟨d, q, h1, Ot.it _ h2, h3⟩
  have C4 : Hid (∀ W d q, It W (acT n b S C) d q → Calls Try.prog 14 #[.agg #[.bool true, d, q]] W fun e w' => ∃ v, e = .returned (.tuple #[v, .int .i64 0]) ∧ OwnB W.heap.size w' v (acX n b S C) ∧ Below W.heap.size W w') := fun W d q h => by
    refine (Encode_any (by have := acT_wt (n := n) (b := b) hS hC; omega) W h).mono ?_
    rintro e w' ⟨v, rfl, h2, h3⟩
    rw [encZ_ac, acT_err] at *
    exact ⟨v, rfl, h2, h3⟩
  generalize acX n b S C = X at *
  have AMH : Hid (∀ W, W.rangeAt w.heap.size 0 (acM n b (u8L S) (u8L C)) → Acb W w.heap.size n b S C) := fun W h => Acb.of hS h
  have HL : Hid (S.length = 32 ∧ C.length = 32) := ⟨hS, hC⟩
  generalize acM n b (u8L S) (u8L C) = M at *
  clear hS hC hn hb
  go_enter Try.func4, Try.ntmps4
  go_wp2_with fail
  refine wp_world (fun W => Below w.heap.size w W ∧ Acb W w.heap.size n b S C) ⟨(Below.refl _ _).alloc (Nat.le_refl _) _, AMH.out _ rangeBox⟩ ?_
  rintro W ⟨B, hU⟩
  have HH : Hid (Below w.heap.size w W ∧ Acb W w.heap.size n b S C) := ⟨B, hU⟩
  clear B hU AMH
  refine wp_region_held_drew (S := fun w' => Below W.heap.size W w') (by kernel_rfl) ((Below.refl _ _).drew) (fun hHeld => ?_)
  refine wpAnyH_takeD (i := 0) (oi := _) (v := .pointer (some ⟨w.heap.size, 0, none⟩)) 4 rfl (by kernel_rfl) (by kernel_rfl) (by kernel_rfl) (by kernel_rfl) (fun _ _ _ h => h) (Or.inl ⟨by kernel_rfl, ?_⟩) (by assumption) ?_
  · intro wq hSw
    have _ := hSw
    go_simp
  simp only [Act.put, List.setIfInBounds_toArray, List.set_cons_succ, List.set_cons_zero]
  refine wpAnyH_takeD (i := 1) (oi := _) (v := .int .u64 n) 5 rfl (by kernel_rfl) (by kernel_rfl) (by kernel_rfl) (by kernel_rfl) (fun _ _ _ h => h) (Or.inl ⟨by kernel_rfl, ?_⟩) (by assumption) ?_
  · intro wq hSw
    have gg := (HH.out.2.keep hSw).non
    go_simp
  simp only [Act.put, List.setIfInBounds_toArray, List.set_cons_succ, List.set_cons_zero]
  refine wpAnyH_takeD (i := 3) (oi := _) (v := .pointer (some ⟨w.heap.size, 1, none⟩)) 7 rfl (by kernel_rfl) (by kernel_rfl) (by kernel_rfl) (by kernel_rfl) (fun _ _ _ h => h) (Or.inl ⟨by kernel_rfl, ?_⟩) (by assumption) ?_
  · intro wq hSw
    have _ := hSw
    go_simp
  simp only [Act.put, List.setIfInBounds_toArray, List.set_cons_succ, List.set_cons_zero]
  refine wpAnyH_takeD (i := 4) (oi := _) (v := .agg #[.int .u64 (l0 b), .int .u64 (l1 b), .int .u64 (l2 b), .int .u64 (l3 b)]) 8 rfl (by kernel_rfl) (by kernel_rfl) (by kernel_rfl) (by kernel_rfl) (fun _ _ _ h => h) (Or.inl ⟨by kernel_rfl, ?_⟩) (by assumption) ?_
  · intro wq hSw
    have gg := (HH.out.2.keep hSw).num
    go_simp
  simp only [Act.put, List.setIfInBounds_toArray, List.set_cons_succ, List.set_cons_zero]
  refine wpAnyH_takeD (i := 6) (oi := _) (v := .pointer (some ⟨w.heap.size, 5, none⟩)) 10 rfl (by kernel_rfl) (by kernel_rfl) (by kernel_rfl) (by kernel_rfl) (fun _ _ _ h => h) (Or.inl ⟨by kernel_rfl, ?_⟩) (by assumption) ?_
  · intro wq hSw
    have _ := hSw
    go_simp
  simp only [Act.put, List.setIfInBounds_toArray, List.set_cons_succ, List.set_cons_zero]
  refine wpAnyH_takeD (i := 7) (oi := _) (v := .slice (some ⟨w.heap.size, 5, none⟩) 32 32) 11 rfl (by kernel_rfl) (by kernel_rfl) (by kernel_rfl) (by kernel_rfl) (fun _ _ _ h => h) (Or.inl ⟨by kernel_rfl, ?_⟩) (by assumption) ?_
  · intro wq hSw
    have _ := hSw
    go_simp
  simp only [Act.put, List.setIfInBounds_toArray, List.set_cons_succ, List.set_cons_zero]
  refine wpAnyH_takeD (i := 9) (oi := _) (v := .pointer (some ⟨w.heap.size, 37, none⟩)) 13 rfl (by kernel_rfl) (by kernel_rfl) (by kernel_rfl) (by kernel_rfl) (fun _ _ _ h => h) (Or.inl ⟨by kernel_rfl, ?_⟩) (by assumption) ?_
  · intro wq hSw
    have _ := hSw
    go_simp
  simp only [Act.put, List.setIfInBounds_toArray, List.set_cons_succ, List.set_cons_zero]
  refine wpAnyH_takeD (i := 10) (oi := _) (v := .slice (some ⟨w.heap.size, 37, none⟩) 32 32) 14 rfl (by kernel_rfl) (by kernel_rfl) (by kernel_rfl) (by kernel_rfl) (fun _ _ _ h => h) (Or.inl ⟨by kernel_rfl, ?_⟩) (by assumption) ?_
  · intro wq hSw
    have _ := hSw
    go_simp
  simp only [Act.put, List.setIfInBounds_toArray, List.set_cons_succ, List.set_cons_zero]
  clear hHeld
  refine wpAnyH_ready (rs := [2]) (by kernel_rfl) (by simp) ?_
  refine AllReadyH.cons rfl (fun K hK => ?_) AllReadyH.nil
  go_simp
  go_wp2_with (go_at_call 16; refine (C0.out _).mono ?_; rintro e y0 ⟨d0, q0, rfl, hO0, hb⟩)
  have B0 : Below W.heap.size W y0 := ((Below.refl _ _).drew).trans (hb.mono (Nat.le_refl _))
  refine hK.out _ _ B0 (fun hHeld => ?_)
  clear hK K hb C0
  clear hHeld
  refine wpAnyH_ready (rs := [5]) (by kernel_rfl) (by simp) ?_
  refine AllReadyH.cons rfl (fun K hK => ?_) AllReadyH.nil
  go_simp
  go_wp2_with (go_at_call 17; refine (C1.out _).mono ?_; rintro e y1 ⟨d1, q1, rfl, hO1, hb⟩)
  have B1 := B0.trans (hb.mono B0.size)
  replace hO0 := It.keep hb _ hO0
  refine hK.out _ _ B1 (fun hHeld => ?_)
  clear hK K hb C1 B0 y0
  clear hHeld
  refine wpAnyH_ready (rs := [8]) (by kernel_rfl) (by simp) ?_
  refine AllReadyH.cons rfl (fun K hK => ?_) AllReadyH.nil
  go_simp
  go_wp2_with (go_at_call 18; refine (C2.out _ _ _ _ HL.out.1 (HH.out.2.keep B1).sto).mono ?_; rintro e y2 ⟨d2, q2, rfl, hO2, hb⟩)
  have B2 := B1.trans (hb.mono B1.size)
  replace hO0 := It.keep hb _ hO0
  replace hO1 := It.keep hb _ hO1
  refine hK.out _ _ B2 (fun hHeld => ?_)
  clear hK K hb B1 y1
  clear hHeld
  refine wpAnyH_ready (rs := [11]) (by kernel_rfl) (by simp) ?_
  refine AllReadyH.cons rfl (fun K hK => ?_) AllReadyH.nil
  go_simp
  go_wp2_with (go_at_call 18; refine (C2.out _ _ _ _ HL.out.2 (HH.out.2.keep B2).cod).mono ?_; rintro e y3 ⟨d3, q3, rfl, hO3, hb⟩)
  have B3 := B2.trans (hb.mono B2.size)
  replace hO0 := It.keep hb _ hO0
  replace hO1 := It.keep hb _ hO1
  replace hO2 := It.keep hb _ hO2
  refine hK.out _ _ B3 (fun hHeld => ?_)
  clear hK K hb B2 y2 C2
  clear hHeld
  refine wpAnyH_ready (rs := [12]) (by kernel_rfl) (by simp) ?_
  refine AllReadyH.cons rfl (fun K hK => ?_) AllReadyH.nil
  go_simp
  go_wp2_with fail
  refine kworldS (fun U => Below W.heap.size W U ∧ Its U y3.heap.size 0 [.mk false (stripL (putL n)) [], .mk false (stripL (putL b)) [], .mk false S [], .mk false C []]) ⟨B3.alloc B3.size _, its4 hO0 hO1 hO2 hO3⟩ ?_
  rintro U ⟨BU, hI⟩
  refine hK.out _ _ BU (fun hHeld => ?_)
  clear hK K B3 hO0 hO1 hO2 hO3
  generalize y3.heap.size = bi at *
  clear y3
  clear hHeld
  refine wpAnyH_ready (rs := [13]) (by kernel_rfl) (by simp) ?_
  refine AllReadyH.cons rfl (fun K hK => ?_) AllReadyH.nil
  go_simp
  go_wp2_with (go_at_call 15; refine (C3.out _ _ hI).mono ?_; rintro e y4 ⟨d4, q4, rfl, hO4, hb⟩)
  have B4 := BU.trans (hb.mono BU.size)
  refine hK.out _ _ B4 (fun hHeld => ?_)
  clear hK K hb C3 BU U hI
  clear hHeld
  refine wpAnyH_ready (rs := [14]) (by kernel_rfl) (by simp) ?_
  refine AllReadyH.cons rfl (fun K hK => ?_) AllReadyH.nil
  go_simp
  go_wp2_with (go_at_call 14; refine (C4.out _ _ _ hO4).mono ?_; rintro e y5 ⟨v, rfl, hP, hb⟩)
  have B5 := B4.trans (hb.mono B4.size)
  have hP' := hP.base (B' := w.heap.size) (Nat.le_trans HH.out.1.size B4.size)
  refine hK.out _ _ B5 (fun hHeld => ?_)
  clear hK K hb C4 B4 y4 hO4 hP
  refine wpAnyH_takeD (i := 15) (oi := _) (v := v) 19 rfl (by kernel_rfl) (by kernel_rfl) (by kernel_rfl) (by kernel_rfl) (fun _ _ _ h => h) (Or.inl ⟨by kernel_rfl, ?_⟩) (by assumption) ?_
  · intro wq hSw
    have _ := hSw
    go_simp
  simp only [Act.put, List.setIfInBounds_toArray, List.set_cons_succ, List.set_cons_zero]
  refine wpAnyH_takeD (i := 16) (oi := _) (v := .int .i64 0) 20 rfl (by kernel_rfl) (by kernel_rfl) (by kernel_rfl) (by kernel_rfl) (fun _ _ _ h => h) (Or.inl ⟨by kernel_rfl, ?_⟩) (by assumption) ?_
  · intro wq hSw
    have _ := hSw
    go_simp
  simp only [Act.put, List.setIfInBounds_toArray, List.set_cons_succ, List.set_cons_zero]
  refine wpAnyH_takeD (i := 17) (oi := _) (v := v) 2 rfl (by kernel_rfl) (by kernel_rfl) (by kernel_rfl) (by kernel_rfl) (fun _ _ _ h => h) (Or.inl ⟨by kernel_rfl, ?_⟩) (by assumption) ?_
  · intro wq hSw
    have _ := hSw
    go_simp
  simp only [Act.put, List.setIfInBounds_toArray, List.set_cons_succ, List.set_cons_zero]
  refine wpAnyH_takeD (i := 18) (oi := _) (v := .int .i64 0) 3 rfl (by kernel_rfl) (by kernel_rfl) (by kernel_rfl) (by kernel_rfl) (fun _ _ _ h => h) (Or.inl ⟨by kernel_rfl, ?_⟩) (by assumption) ?_
  · intro wq hSw
    have _ := hSw
    go_simp
  simp only [Act.put, List.setIfInBounds_toArray, List.set_cons_succ, List.set_cons_zero]
  refine wpAnyH_done (by kernel_rfl) ?_ _
  have B := HH.out.1.trans (B5.mono HH.out.1.size)
  clear HH hHeld B5
  go_wp2
  simp [bodyPost, results, Try.results4, go_sem]
  exact ⟨hP', B⟩
end Go.Proofs.Ytaefmdofchjofaa

/- Layer 21: what both Parses share; hash of the document. -/
namespace Go.Proofs.Ytaefmdofchjofaa
open Go.RowKit Go.Sort
theorem there_keepS {W W' : World} {g k : Nat} (h : W.there g 0 k) (hlt : g < W.heap.size) (B : Below W.heap.size W W') : W'.there g 0 k := fun j hj => ⟨by rw [B.cell (p := ⟨g, 0 + j, none⟩) hlt]; exact (h j hj).1, by rw [B.frozen (p := ⟨g, 0 + j, none⟩) hlt]; exact (h j hj).2⟩
theorem bys_byts {X : List Int} (h : Bys X) : Byts X := fun i => by
  by_cases k : i < X.length
  · have e : X.getD i 0 = X[i] := by simp [List.getD, k]
    have := h X[i] (List.getElem_mem k)
    rw [e]; omega
  · have e : X.getD i 0 = 0 := by rw [List.getD, List.getElem?_eq_none (by omega)]; rfl
    rw [e]; omega
theorem encX_ge (X : List Int) : X.length ≤ (encX X).length := by
  unfold encX
  split
  · omega
  · simp
theorem odd_item21 {t : Tr} (h : oddT t = false) : t.X.length ≤ (encT t).length := by
  cases t with
  | mk l X ts =>
    rw [oddT] at h
    rw [encT]
    cases l with
    | true =>
      have : X.length = 0 := by
        simp [odd1] at h
        simp [h.1]
      show X.length ≤ _
      omega
    | false => exact encX_ge X
/-- Four items of a list that was decoded: their bytes, how long they are. -/
theorem four_items {A : List Int} {X : List Int} {t0 t1 t2 t3 : Tr} (hA : Byts A) (h : decP A = (0, .mk true X [t0, t1, t2, t3])) :
    (Byts t0.X ∧ Byts t1.X ∧ Byts t2.X ∧ Byts t3.X) ∧ t0.X.length < 16777216 ∧ t1.X.length < 16777216 ∧ t2.X.length < 16777216 ∧ t3.X.length < 16777216 := by
  obtain ⟨h1, h2, _, h4, _, h6⟩ := decP_inv hA h
  have hb : ∀ {t : Tr}, ByT t → Byts t.X := fun {t} h => by
    cases t with
    | mk l X ts => rw [ByT] at h; exact bys_byts h.1
  rw [ByT, ByS, ByS, ByS, ByS] at h4
  rw [oddT, oddS, oddS, oddS, oddS, oddS] at h2
  simp only [Bool.or_eq_false_iff] at h2
  obtain ⟨_, o0, o1, o2, o3, _⟩ := h2
  rw [encT, if_pos rfl, encS, encS, encS, encS, encS] at h1
  have hh : 1 ≤ (hdR 192 (encT t0 ++ (encT t1 ++ (encT t2 ++ (encT t3 ++ [])))).length).length := by
    unfold hdR
    split <;> simp
  have e := congrArg List.length h1
  simp only [List.length_append, List.length_nil] at e hh
  have k0 := odd_item21 o0
  have k1 := odd_item21 o1
  have k2 := odd_item21 o2
  have k3 := odd_item21 o3
  refine ⟨⟨hb h4.2.1, hb h4.2.2.1, hb h4.2.2.2.1, hb h4.2.2.2.2.1⟩, ?_, ?_, ?_, ?_⟩ <;> omega
theorem quad_of {ts : List Tr} (h : ts.length = 4) : ∃ t0 t1 t2 t3, ts = [t0, t1, t2, t3] := by
  match ts, h with
  | [t0, t1, t2, t3], _ => exact ⟨t0, t1, t2, t3, rfl⟩
theorem fix_L {t : Tr} (h : fiE t = 0) : fixL t.l t.X t.ts 32 = t.X := by
  unfold fixL
  unfold fiE at h
  rw [if_pos h]
theorem yields_built {a : Act} {op : Oper} {w : World} {x y z u : Operand} {n b : Int} {S C : List Value} (hS : S.length = 32) (hC : C.length = 32) (ho : op.op = .build 28 #[(0, x), (1, y), (2, z), (3, u)]) (hx : a.eval x = .int .u64 n) (hy : a.eval y = .agg #[.int .u64 (l0 b), .int .u64 (l1 b), .int .u64 (l2 b), .int .u64 (l3 b)]) (hz : a.eval z = .agg S.toArray) (hu : a.eval u = .agg C.toArray) :
    (execOp a.eval op).run Try.prog w = .ok (.value (.agg (acM n b S C).toArray)) w := by
  have e : ((#[(0, x), (1, y), (2, z), (3, u)] : Array (Nat × Operand)).map fun (i, x) => (i, a.eval x)).toList = [(0, .int .u64 n), (1, .agg #[.int .u64 (l0 b), .int .u64 (l1 b), .int .u64 (l2 b), .int .u64 (l3 b)]), (2, .agg S.toArray), (3, .agg C.toArray)] := by simp [hx, hy, hz, hu]
  have hr := run_build (P := Try.prog) w 28 ((#[(0, x), (1, y), (2, z), (3, u)] : Array (Nat × Operand)).map fun (i, x) => (i, a.eval x)) _ (by rw [e]; exact built_ac hS hC)
  unfold execOp
  simp only [ho, Sem.run_bind, hr, Result.andThen_ok]
  rfl
theorem Bz.rangeS {W : World} {g o : Nat} {X : List Int} (h : Bz W g o X) : W.rangeAt g o (u8L X) := fun j v hv => by
  rw [u8L, List.getElem?_map] at hv
  obtain ⟨x, hx, rfl⟩ := Option.map_eq_some_iff.1 hv
  have hj : j < X.length := (List.getElem?_eq_some_iff.1 hx).1
  rw [h j hj, List.getD, hx]; rfl
/-- What an item in memory hands to a getter. -/
theorem It.parts {W : World} {t : Tr} {d q : Value} (h : It W t d q) : ∃ a b o c a' n c', d = .slice a t.X.length c ∧ (a = none → c = 0) ∧ Az a b o t.X ∧ Bz W b o t.X ∧ q = .slice a' n c' ∧ n = t.ts.length := by
  cases t with
  | mk l X ts =>
    rw [It] at h
    obtain ⟨⟨a, b, o, c, h1, h2, h3, h4⟩, a', b', o', c', k1, _⟩ := h
    exact ⟨a, b, o, c, a', _, c', h1, h2.2, h3, h4, k1, rfl⟩
theorem rsmall_it {t : Tr} {d q : Value} (hX : Byts t.X) (W : World) (h : It W t d q) : Calls Try.prog 29 #[.agg #[.bool t.l, d, q]] W fun e w' => e = .returned (.tuple #[.int .u64 (l0 (nuV t 8)), .int .i64 (nuE t 8)]) ∧ Below W.heap.size W w' := by
  obtain ⟨a, b, o, c, a', n, c', rfl, k2, k3, k4, rfl, rfl⟩ := h.parts
  exact rGetSmall_any hX k3 W k4
theorem rnumber_it {t : Tr} {d q : Value} (hX : Byts t.X) (W : World) (h : It W t d q) : Calls Try.prog 30 #[.agg #[.bool t.l, d, q]] W fun e w' => e = .returned (.tuple #[.agg #[.int .u64 (l0 (nuV t 32)), .int .u64 (l1 (nuV t 32)), .int .u64 (l2 (nuV t 32)), .int .u64 (l3 (nuV t 32))], .int .i64 (nuE t 32)]) ∧ Below W.heap.size W w' := by
  obtain ⟨a, b, o, c, a', n, c', rfl, k2, k3, k4, rfl, rfl⟩ := h.parts
  exact rGetNumber_any hX k3 W k4
theorem rfixed_it {t : Tr} {d q : Value} (hl : t.X.length < 16777216) (W : World) (h : It W t d q) : Calls Try.prog 48 #[.agg #[.bool t.l, d, q], .int .i64 32] W fun e w' => ∃ v, e = .returned (.tuple #[v, .int .i64 (fiE t)]) ∧ OwnB W.heap.size w' v (fixL t.l t.X t.ts 32) ∧ Below W.heap.size W w' := by
  obtain ⟨a, b, o, c, a', n, c', rfl, k2, k3, k4, rfl, rfl⟩ := h.parts
  exact rGetFixed_any 32 hl k3 k2 W k4
theorem psmall_it {t : Tr} {d q : Value} (hX : Byts t.X) (W : World) (h : It W t d q) : Calls Try.prog 25 #[.agg #[.bool t.l, d, q]] W fun e w' => e = .returned (.tuple #[.int .u64 (l0 (nuV t 8)), .int .i64 (nuE t 8)]) ∧ Below W.heap.size W w' := by
  obtain ⟨a, b, o, c, a', n, c', rfl, k2, k3, k4, rfl, rfl⟩ := h.parts
  exact getSmall_anyS hX k3 W k4
theorem pnumber_it {t : Tr} {d q : Value} (hX : Byts t.X) (W : World) (h : It W t d q) : Calls Try.prog 26 #[.agg #[.bool t.l, d, q]] W fun e w' => e = .returned (.tuple #[.agg #[.int .u64 (l0 (nuV t 32)), .int .u64 (l1 (nuV t 32)), .int .u64 (l2 (nuV t 32)), .int .u64 (l3 (nuV t 32))], .int .i64 (nuE t 32)]) ∧ Below W.heap.size W w' := by
  obtain ⟨a, b, o, c, a', n, c', rfl, k2, k3, k4, rfl, rfl⟩ := h.parts
  exact getNumber_anyS hX k3 W k4
theorem pfixed_it {t : Tr} {d q : Value} (hl : t.X.length < 16777216) (W : World) (h : It W t d q) : Calls Try.prog 27 #[.agg #[.bool t.l, d, q], .int .i64 32] W fun e w' => ∃ v, e = .returned (.tuple #[v, .int .i64 (fiE t)]) ∧ OwnB W.heap.size w' v (fixL t.l t.X t.ts 32) ∧ Below W.heap.size W w' := by
  obtain ⟨a, b, o, c, a', n, c', rfl, k2, k3, k4, rfl, rfl⟩ := h.parts
  exact getFixed_any 32 hl k3 W k4
/-- What hash answers. -/
def haM (t : Tr) : List Value := if fiE t = 0 then u8L t.X else z32
theorem z32_len : z32.length = 32 := by simp [z32]
theorem z32_map : (List.replicate 32 (0 : Int)).map (Value.int .u8) = z32 := by simp [z32]
set_option maxRecDepth 100000 in
set_option maxHeartbeats 8000000 in
theorem rhash_it {t : Tr} {d q : Value} (hl : t.X.length < 16777216) (w : World) (hI : It w t d q) :
    Calls Try.prog 31 #[.agg #[.bool t.l, d, q]] w fun e w' => e = .returned (.tuple #[.agg (haM t).toArray, .bool (decide (fiE t = 0))]) ∧ Below w.heap.size w w' := by
  have C : Hid (∀ W, Below w.heap.size w W → Calls Try.prog 48 #[.agg #[.bool t.l, d, q], .int .i64 32] W fun e w' => ∃ v, e = .returned (.tuple #[v, .int .i64 (fiE t)]) ∧ OwnB W.heap.size w' v (fixL t.l t.X t.ts 32) ∧ Below W.heap.size W w') := fun W B => rfixed_it hl W (It.keep B t hI)
  have zh := z32_zero
  have ZL := z32_len
  have ZO : z32.toArray.all (·.oneCell') = true := all_oneCell_toArray z32_one
  have zm := z32_map
  obtain ⟨da, dn, dc, qa, qn, qc, rfl, rfl⟩ := hI.slices
  clear hI
  by_cases hE : fiE t = 0
  · have hX := fi_len hE
    rw [fix_L hE] at C
    have eM : haM t = u8L t.X := by unfold haM; rw [if_pos hE]
    rw [eM, hE]
    rw [hE] at C
    clear eM hE hl
    generalize t.X = X at *
    generalize t.l = l at *
    have HX : Hid (X.length = 32) := hX
    clear hX
    generalize z32 = Z at *
    go_enter Try.func31, Try.ntmps31
    go_wp2_with fail
    refine calls_world (fun W => Below w.heap.size w W ∧ Bts W (w.heap.size + 1) (List.replicate 32 0)) ⟨by repeat (first | with_reducible exact Below.refl _ _ | with_reducible refine Below.alloc ?_ (by first | omega | (simp; done) | (simp; omega)) _), by rw [← zm]; exact Bts.new (List.replicate 32 0) _ (by simp)⟩ ?_
    rintro W ⟨B, hR⟩
    with_reducible refine (C.out W B).mono ?_
    rintro e w1 ⟨v, rfl, hO, hb⟩
    replace B := B.trans (hb.mono B.size)
    replace hR := hR.keep (by simp) hb
    clear hb C
    obtain ⟨g, cap, rfl, hWg, hg⟩ := World.ownsRow.form hO (by have := HX.out; omega)
    have hV : Bz w1 g 0 X := by
      obtain ⟨a', g', c', e4, _, h6, h7, _⟩ := hO.lies
      obtain ⟨e5, _, _⟩ := Value.slice.inj e4
      have := h6.cons (by have := HX.out; omega)
      rw [this] at e5
      have e6 : g = g' := congrArg Addr.block (Option.some.inj e5)
      rw [e6]; exact h7
    rw [HX.out]
    go_wp2_with fail
    refine wp_world (fun V => Below w.heap.size w V ∧ Bts V (w.heap.size + 1) (List.replicate 32 0) ∧ Bz V g 0 X ∧ Bts V w1.heap.size (List.replicate 32 0) ∧ w.heap.size + 1 < w1.heap.size ∧ g < w1.heap.size) ⟨B.alloc B.size _, hR.alloc (by simp) _, hV.keep ((Below.refl _ _).alloc (Nat.le_refl _) _), by rw [← zm]; exact Bts.new (List.replicate 32 0) _ rfl, hR.1.lt (by simp), hg⟩ ?_
    clear B hR hV hO hg
    rintro V ⟨B, hR, hV, hB, lt1, lt2⟩
    have c3 : w1.heap.size ≠ w.heap.size + 1 := by omega
    have c4 : w1.heap.size ≠ g := by omega
    have o1 : w.heap.size ≤ w.heap.size + 1 := by omega
    have o2 : w.heap.size ≤ w1.heap.size := by omega
    generalize w1.heap.size = bb at *
    generalize w.heap.size + 1 = br at *
    clear hWg w1 W lt1 lt2
    go_loopg [7] 32 (fun k iv wr => ∃ (i : Nat) (L : List Int), k = 32 - i ∧ i ≤ 32 ∧ iv = .int .i64 i ∧ L.length = 32 ∧ (∀ t, t < i → L.getD t 0 = X.getD t 0) ∧ Below w.heap.size w wr ∧ Bz wr g 0 X ∧ Bts wr br (List.replicate 32 0) ∧ Bts wr bb L)
    case atStart => exact ⟨0, _, rfl, by decide, rfl, by simp, fun t h1 => by omega, B, hV, hR, hB⟩
    case round =>
      clear B hV hR hB
      obtain ⟨i, L, hk, hi, rfl, hL, ev, B, hV, hR, hB⟩ := hrel
      have EV : Hid (∀ t, t < i → L.getD t 0 = X.getD t 0) := ev
      have HK : Hid (gk = 32 - i) := hk
      clear ev hk
      by_cases h8 : i = 32
      · subst h8
        have EL : Hid (L = X) := extB (by rw [hL, HX.out]) fun t ht => EV.out t (by omega)
        have rb := hB.1.range
        have sz : ((L.map (Value.int .u8)).toArray).size = 32 := by simp [hL]
        have tr := hR.there (k := ((L.map (Value.int .u8)).toArray).size) (by rw [sz]; rfl)
        have oc := one_cells L
        clear EV hV
        generalize hM : L.map (Value.int .u8) = M at *
        have HM : Hid (M.length = 32) := by rw [← hM, List.length_map]; exact hL
        go_wp2_with (first | refine wpList_load_mid rfl 26 _ rfl bb 0 rfl M _ rb Try.underlying26 rfl (by rw [HM.out]; kernel_rfl) ?_ | refine wpList_store_mid rfl 26 _ _ rfl br 0 _ rfl rfl tr (by rw [sz]; kernel_rfl) oc ?_)
        have ld := run_loadVar_mid (P := Try.prog) (wr.setCells br 0 M) br 0 26 M _ (World.rangeAt_setCells_same _ _ _ _ (by simpa using tr)) Try.underlying26 rfl (by rw [HM.out]; kernel_rfl)
        refine bodyPost_ret (v := .tuple #[.agg M.toArray, .bool true]) ?_ rfl ⟨by rw [← hM, EL.out]; rfl, below_setCells o1 M 0 wr B⟩
        simp [results, Try.results31, asAddr, ld]
      · have hi' : (i : Int) < 32 := by omega
        have gx := hV i (by have := HX.out; omega)
        rw [Nat.zero_add] at gx
        have gb := hB.1 i (by omega)
        have fb := hB.2 i (by omega)
        generalize hx : X.getD i 0 = x at *
        go_wp2
        go_roundg (32 - (i + 1))
        case measure => have := HK.out; omega
        case rel =>
          refine ⟨i + 1, L.set i x, rfl, by omega, by go_num, by rw [List.length_set]; exact hL, fun t h1 => ?_, B.setCell o2 _, fun j hj => by rw [World.cell?_setCell_far _ _ _ _ c4]; exact hV j hj, hR.other c3 _, hB.set i (by omega) _⟩
          by_cases e : t = i
          · subst e; rw [setB_eq (by omega), hx]
          · rw [setB_ne e]; exact EV.out t (by omega)
  · have eM : haM t = z32 := by unfold haM; rw [if_neg hE]
    have hE' : (fiE t == 0) = false := by simpa using hE
    rw [eM, decide_eq_false hE]
    clear eM hl
    generalize fixL t.l t.X t.ts 32 = X at *
    generalize t.l = l at *
    generalize fiE t = E at *
    have TR := fun (o : Obj) => there_new (W := w.alloc o) (cs := z32.toArray) (t := 26) rfl (n := z32.toArray.size) rfl
    have RB := fun (W : World) => rangeBox (W := W) (M := z32) (t := 26)
    have iz : (Try.prog.info? 26).map (·.size) = some z32.length := by rw [ZL]; exact ha_size
    have iz2 : (Try.prog.info? 26).map (·.size) = some z32.toArray.size := by rw [List.size_toArray, ZL]; exact ha_size
    generalize z32 = Z at *
    go_enter Try.func31, Try.ntmps31
    go_wp2_with fail
    refine calls_world (fun W => Below w.heap.size w W ∧ W.there (w.heap.size + 1) 0 Z.toArray.size ∧ w.heap.size + 1 < W.heap.size) ⟨by repeat (first | with_reducible exact Below.refl _ _ | with_reducible refine Below.alloc ?_ (by first | omega | (simp; done) | (simp; omega)) _), by have h := TR (.cells #[.bool l, .slice da dn dc, .slice qa qn qc] 48); simpa using h, by simp⟩ ?_
    rintro W ⟨B, hR, ltR⟩
    with_reducible refine (C.out W B).mono ?_
    rintro e w1 ⟨v, rfl, hO, hb⟩
    replace B := B.trans (hb.mono B.size)
    replace hR := there_keepS hR ltR hb
    have ltR' : w.heap.size + 1 < w1.heap.size := Nat.lt_of_lt_of_le ltR hb.size
    clear hb C hO ltR TR
    have tr := there_keepS hR ltR' ((Below.refl _ _).alloc (Nat.le_refl _) (.cells Z.toArray 26))
    have rb := RB w1
    have o1 : w.heap.size ≤ w.heap.size + 1 := by omega
    have B2 := B.alloc B.size (.cells Z.toArray 26)
    generalize w.heap.size + 1 = br at *
    clear hR ltR' RB
    go_wp2_with (first | refine wpList_load_mid rfl 26 _ rfl w1.heap.size 0 rfl Z _ rb Try.underlying26 rfl iz ?_ | (refine wpList_store_mid rfl 26 _ _ rfl br 0 Z.toArray rfl rfl tr iz2 ZO ?_; (refine wpList_worldA (fun W' => Below w.heap.size w W' ∧ W'.rangeAt br 0 Z) (laid_in B2 o1 (by simpa using tr)) ?_); rintro W' ⟨B', hD⟩))
    have ld := run_loadVar_mid (P := Try.prog) W' br 0 26 Z _ hD Try.underlying26 rfl iz
    refine bodyPost_ret (v := .tuple #[.agg Z.toArray, .bool false]) ?_ rfl ⟨rfl, B'⟩
    simp [results, Try.results31, asAddr, ld]
end Go.Proofs.Ytaefmdofchjofaa
