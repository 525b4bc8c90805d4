import Derived.Test.YtkbmonlbgnnjlaaDoorAxB
import Derived.Test.YtkbmonlbgnnjlaaDoorQBar
import Derived.Test.YtkbmonlbgnnjlaaDoorAdLast
import Derived.Test.YtkbmonlbgnnjlaaDoorRxK
/- Layer 14: AuthDigest of the document. -/
namespace Go.Proofs.YtkbmonlbgnnjlaaDoor
open Go.RowKit Go.Sort
set_option maxRecDepth 100000 in
set_option maxHeartbeats 4000000 in
theorem rtextOf_any {X : List Int} {a : Option Addr} {g p c n : Nat} (hn : n = X.length) (hl : X.length < 16777216) (ha : Az a g p X) (hnc : a = none → c = 0) (w : World) (hz : Bz w g p X) :
    Calls Tryd.prog 13 #[.slice a n c] w fun e w' => ∃ d q, e = .returned (.agg #[.bool false, d, q]) ∧ Ot w' (.mk false X []) (fun k => w.heap.size ≤ k) d q ∧ Below w.heap.size w w' := by
  have HQ : Hid (n = X.length ∧ X.length < 16777216 ∧ Az a g p X ∧ (a = none → c = 0) ∧ ∀ o, Bz (w.alloc o) g p X) := ⟨hn, hl, ha, hnc, fun o => hz.keep ((Below.refl _ _).alloc (Nat.le_refl _) _)⟩
  clear hn hl ha hnc hz
  go_enter Tryd.func13, Tryd.ntmps13
  go_wp2_with ((at_builtin; refine wpList_append_rd rfl _ _ rfl rfl rfl HQ.out.1 (own_nil0 (w.heap.size + 1) _) HQ.out.2.2.1 HQ.out.2.2.2.1 (HQ.out.2.2.2.2 _) (by have := HQ.out.2.1; simp; omega) (by simp) ?_); (intro v3 w3 o3 g3); (have hw : Below (w.heap.size + 1) (w.alloc (.cells #[.bool false, .slice none 0 0, .slice none 0 0] 39)) w3 := (Below.refl _ _).grown g3 (by simp) (fun k hk => by cases hk)); (obtain ⟨⟨r0, r1, r2⟩, f0, f1, f2⟩ : Rb3 w3 (w.heap.size) := Rb3.keep (W := w.alloc (.cells #[.bool false, .slice none 0 0, .slice none 0 0] 39)) ⟨⟨by simp [go_sem], by simp [go_sem], by simp [go_sem]⟩, by simp [go_sem], by simp [go_sem], by simp [go_sem]⟩ (by rw [World.size_alloc]; exact hw)); (have B1 : Below w.heap.size w w3 := ((Below.refl w.heap.size w).alloc (Nat.le_refl _) _).trans (hw.mono (by simp))); (rw [List.nil_append] at o3); (obtain ⟨av, gv1, cv, rfl, _⟩ := o3.lies))
  simp [bodyPost, results, Tryd.results13, go_sem, r0, r1, r2]
  exact ⟨_, _, ⟨rfl, rfl⟩, Ot.base (B := w.heap.size + 1) (Ot.stored (ot_text o3) (by omega) _ _ _) (by omega), below_three B1 (by omega) _ _ _⟩
theorem Ot.keepX {W W' : World} {t : Tr} {S : Nat → Prop} {d q : Value} (h : Ot W t S d q) (B : Below W.heap.size W W') : Ot W' t S d q := Ot.conv _ (fun k hk hs => ⟨hs, B.block k hk⟩) h
theorem heap_setX {W : World} {b i k : Nat} {v : Value} (h : k ≠ b) : (W.setCell ⟨b, i, none⟩ v).heap[k]? = W.heap[k]? := Below.heap_setCell W ⟨b, i, none⟩ v k h
theorem It.oneX {W : World} {t : Tr} {d q : Value} (h : It W t d q) : d.oneCell' = true ∧ q.oneCell' = true := by
  obtain ⟨a, b, o, c, a', b', o', c', h1, _, _, _, h2, _⟩ := h.open
  subst h1
  subst h2
  exact ⟨rfl, rfl⟩
theorem cell_farX {w : World} {b i b' i' : Nat} {u v : Value} (h : w.cell? ⟨b, i, none⟩ = some v) (ne : b' ≠ b) : (w.setCell ⟨b', i', none⟩ u).cell? ⟨b, i, none⟩ = some v := by
  rw [World.cell?_setCell_far _ _ _ _ ne]; exact h
theorem Bts.farX {W : World} {b b' i : Nat} {l : List Int} {u : Value} (h : Bts W b l) (ne : b' ≠ b) : Bts (W.setCell ⟨b', i, none⟩ u) b l := ⟨fun j hj => cell_farX (h.1 j hj) ne, fun j hj => by rw [World.frozen?_setCell]; exact h.2 j hj⟩
theorem Ot.farX {W : World} {t : Tr} {d q : Value} {rb B i : Nat} {u : Value} (hO : Ot W t (fun k => B ≤ k) d q) (hrb : rb < B) : Ot (W.setCell ⟨rb, i, none⟩ u) t (fun k => B ≤ k) d q := Ot.conv _ (fun k _ hk => ⟨hk, heap_setX (by omega)⟩) hO
theorem its3c {W : World} {g : Nat} {t0 t1 t2 : Tr} {d0 q0 d1 q1 d2 q2 : Value} (r : ∀ j v, [.bool t0.l, d0, q0, .bool t1.l, d1, q1, .bool t2.l, d2, q2][j]? = some v → W.cell? ⟨g, j, none⟩ = some v) (h0 : It W t0 d0 q0) (h1 : It W t1 d1 q1) (h2 : It W t2 d2 q2) : Its W g 0 [t0, t1, t2] := by
  rw [Its, Its, Its, Its]
  refine ⟨⟨d0, q0, fun j v hv => ?_, h0⟩, ⟨d1, q1, fun j v hv => ?_, h1⟩, ⟨d2, q2, fun j v hv => ?_, h2⟩, trivial⟩
  · match j, hv with
    | 0, hv => exact r 0 v hv
    | 1, hv => exact r 1 v hv
    | 2, hv => exact r 2 v hv
    | j + 3, hv => simp at hv
  · match j, hv with
    | 0, hv => exact r 3 v hv
    | 1, hv => exact r 4 v hv
    | 2, hv => exact r 5 v hv
    | j + 3, hv => simp at hv
  · match j, hv with
    | 0, hv => exact r 6 v hv
    | 1, hv => exact r 7 v hv
    | 2, hv => exact r 8 v hv
    | j + 3, hv => simp at hv
theorem Bz.range {W : World} {b o : Nat} {A : List Int} (h : Bz W b o A) : W.rangeAt b o (A.map (Value.int .u8)) := fun j v hv => by
  rw [List.getElem?_map] at hv
  obtain ⟨x, hx, rfl⟩ := Option.map_eq_some_iff.1 hv
  have hj : j < A.length := (List.getElem?_eq_some_iff.1 hx).1
  rw [h j hj]
  simp [List.getD, hx]
/-- append(nil, three items...), in a region that is drawn. -/
theorem wp_append_three {w : World} {o : Oper} {a : Act} {K : Act → World → Prop} {Q : Exit → Act → World → Prop} (s x : Operand) (ho : o.op = .call { callee := .builtin .append, args := #[s, x], argTypes := #[37, 37] })
    (hs : a.eval s = .slice none 0 0) (g c : Nat) (u : List Value) (hx : a.eval x = .slice (some ⟨g, 0, none⟩) 3 c) (hu : u.length = 9) (hnews : ∀ j v, u[j]? = some v → w.cell? ⟨g, j, none⟩ = some v) (h1 : ∀ v ∈ u, v.oneCell' = true)
    (h : ∀ g' c' w', 3 ≤ c' → w.heap.size ≤ g' → (∀ j v, u[j]? = some v → w'.cell? ⟨g', j, none⟩ = some v) → Below w.heap.size w w' → K (a.put o.dst (.slice (some ⟨g', 0, none⟩) 3 c')) w') : o.wp Tryd.prog a w K Q := by
  obtain ⟨i, hi, hi2⟩ := Option.map_eq_some_iff.1 info_it
  simp only [Prod.mk.injEq] at hi2
  obtain ⟨v', w', hr, h2, h3, h4, h5⟩ := run_append_own_at (P := Tryd.prog) w w.heap.size 37 o.type 39 i _ 3 56 Tryd.underlying37 hi hi2.1 hi2.2.1 hi2.2.2 rfl (by omega) (.slice none 0 0) 0 [] (World.ownsRow_nil _ _ _ _) ⟨g, 0, none⟩ 3 c u (by rw [hu]) (fun j v hv => by
    rw [Addr.add_lit]
    simpa using hnews j v hv) h1 (by unfold maxLen; omega) (by omega) (Nat.le_refl _)
  unfold Oper.wp execOp
  simp only [ho, resolve, invoke, builtin, Sem.run_bind, Sem.run_pure, Result.andThen_ok, List.map_toArray, List.map_cons, List.map_nil, hs, hx, hr]
  rw [List.nil_append, Nat.zero_add] at h2
  have BW : Below w.heap.size w w' := (Below.refl _ _).grown h3 (Nat.le_refl _) (fun k hk => by cases hk)
  have hc := h2
  obtain ⟨_, ⟨_, e⟩ | ⟨g', cap, cur, rfl, hg, _, hle, _, _, _⟩⟩ := h2
  · cases e
  refine h g' cap w' hle hg (fun j v hv => ?_) BW
  have hj : j < u.length := (List.getElem?_eq_some_iff.1 hv).1
  rw [World.ownsRow.cellAt hc j (by omega)]
  exact hv
theorem raut_ff {w W : World} {br bi b : Nat} {c n : Int} {A : List Int} {A8 : List Value} (hA : A.length = 20) (EA : A8 = A.map (Value.int .u8)) (B : Below w.heap.size w W) (hT : RtC W) (hR : Bts W br (List.replicate 32 0)) (hX : Bx W bi true (.slice none 0 0) (.slice none 0 0)) (hF : Fr3 W bi) (hU : Au W b c A n) (t : TypeId) :
    Hid (Below w.heap.size w ((W.alloc (.cells ((List.replicate 20 (0 : Int)).map (Value.int .u8)).toArray t)).setCells W.heap.size 0 A8) ∧ RtC ((W.alloc (.cells ((List.replicate 20 (0 : Int)).map (Value.int .u8)).toArray t)).setCells W.heap.size 0 A8) ∧ Bts ((W.alloc (.cells ((List.replicate 20 (0 : Int)).map (Value.int .u8)).toArray t)).setCells W.heap.size 0 A8) br (List.replicate 32 0) ∧ (Bx ((W.alloc (.cells ((List.replicate 20 (0 : Int)).map (Value.int .u8)).toArray t)).setCells W.heap.size 0 A8) bi true (.slice none 0 0) (.slice none 0 0) ∧ Fr3 ((W.alloc (.cells ((List.replicate 20 (0 : Int)).map (Value.int .u8)).toArray t)).setCells W.heap.size 0 A8) bi) ∧ Au ((W.alloc (.cells ((List.replicate 20 (0 : Int)).map (Value.int .u8)).toArray t)).setCells W.heap.size 0 A8) b c A n ∧ Bts ((W.alloc (.cells ((List.replicate 20 (0 : Int)).map (Value.int .u8)).toArray t)).setCells W.heap.size 0 A8) W.heap.size A) := by
  have B0 : Below W.heap.size W ((W.alloc (.cells ((List.replicate 20 (0 : Int)).map (Value.int .u8)).toArray t)).setCells W.heap.size 0 A8) := below_setCells (Nat.le_refl _) A8 0 _ ((Below.refl _ _).alloc (Nat.le_refl _) _)
  exact ⟨B.trans (B0.mono B.size), hT.keep B0, hR.keep (by simp) B0, ⟨hX.keep B0, hF.keep hX.lt B0⟩, hU.keep B0, by rw [EA]; exact (Bts.new (List.replicate 20 0) t rfl).storedA (by simp [hA])⟩
set_option maxRecDepth 100000 in
set_option maxHeartbeats 8000000 in
theorem raut_any {c : Int} {A : List Int} {n p r s : Int} {D : List Value} (hA : A.length = 20) (hB : Bys A) (hn : Word n) (eD : Hid (D = (kecC (5 :: autX c A n)).map (Value.int .u8))) (w : World) (hk : RtC w) :
    Calls Tryd.prog 5 #[.agg (auM c A n p r s).toArray] w fun e w' => e = .returned (.agg D.toArray) ∧ Below w.heap.size w w' := by
  have AL : Hid (A.length = 20 ∧ Bys A) := ⟨hA, hB⟩
  have C0 : Hid (∀ W, Calls Tryd.prog 12 #[.agg #[.int .u64 (l0 c), .int .u64 (l1 c), .int .u64 (l2 c), .int .u64 (l3 c)]] W fun e w' => ∃ d q, e = .returned (.agg #[.bool false, d, q]) ∧ Ot w' (.mk false (stripL (putL c)) []) (fun k => W.heap.size ≤ k) d q ∧ Below W.heap.size W w') := fun W => rNumber_any W
  have C1 : Hid (∀ W g, Bts W g A → Calls Tryd.prog 13 #[.slice (some ⟨g, 0, none⟩) 20 20] W fun e w' => ∃ d q, e = .returned (.agg #[.bool false, d, q]) ∧ Ot w' (.mk false A []) (fun k => W.heap.size ≤ k) d q ∧ Below W.heap.size W w') := fun W g h => rtextOf_any hA.symm (by omega) (.inr rfl) (fun e => by cases e) W (fun i hi => by rw [Nat.zero_add]; exact h.1 i hi)
  have C2 : Hid (∀ W, Calls Tryd.prog 14 #[.int .u64 n] W fun e w' => ∃ d q, e = .returned (.agg #[.bool false, d, q]) ∧ Ot w' (.mk false (stripL (putL n)) []) (fun k => W.heap.size ≤ k) d q ∧ Below W.heap.size W w') := fun W => rSmall_any hn W
  have C4 : Hid (∀ W d q, It W (autT (stripL (putL c)) A (stripL (putL n))) d q → Calls Tryd.prog 15 #[.agg #[.bool true, d, q]] W fun e w' => ∃ a g k, e = .returned (.tuple #[.slice a (autX c A n).length k, .int .i64 0]) ∧ (PtC.ok w' ⟨a, g, 0, k, autX c A n⟩ ∧ (a = none → k = 0)) ∧ Below W.heap.size W w') := fun W d q h => by
    refine (rEncode_any (by have := autX_len (c := c) (n := n) hA; omega) W h).mono ?_
    rintro e w' ⟨v, rfl, h2, h3⟩
    rw [encZ_aut, autT_err] at *
    obtain ⟨a, g, k, rfl, h5, h6, h7, _, _, h8⟩ := h2.lies
    exact ⟨a, g, k, rfl, ⟨⟨h6, h5, autX_by hA hB, h7⟩, h8⟩, h3⟩
  have XL : Hid ((autX c A n).length ≤ 1000) := autX_wt hA
  generalize autX c A n = X at *
  have AMH : Hid (∀ W, W.rangeAt w.heap.size 0 (auM c A n p r s) → Au W w.heap.size c A n) := fun W h => Au.of hA h
  generalize auM c A n p r s = M at *
  obtain ⟨A8, eA⟩ : ∃ A8, A8 = A.map (Value.int .u8) := ⟨_, rfl⟩
  have sA : A8.toArray.size = 20 := by rw [eA]; simp [hA]
  have oA : A8.toArray.all (·.oneCell') = true := by rw [eA]; exact one_cells A
  have RG : ∀ (t : TypeId) (U : World), Below (w.heap.size + 1) (w.alloc (.cells M.toArray t)) U → Au U w.heap.size c A n := fun t U h => (AMH.out _ rangeBox).keep (by rw [World.size_alloc]; exact h)
  have RGH : Hid (∀ (t : TypeId) (U : World), Below (w.heap.size + 1) (w.alloc (.cells M.toArray t)) U → Au U w.heap.size c A n) := RG
  clear RG
  have EA : Hid (A8 = A.map (Value.int .u8)) := eA
  clear eA AMH
  go_enter Tryd.func5, Tryd.ntmps5
  go_wp2_with (first | ((refine wpList_store_mid rfl 26 _ _ rfl W.heap.size 0 A8.toArray rfl rfl (there_new rfl (by rw [sA]; rfl)) (by rw [sA]; kernel_rfl) oA ?_); (refine wpList_worldA (fun V => Below w.heap.size w V ∧ RtC V ∧ Bts V (w.heap.size + 1) (List.replicate 32 0) ∧ (Bx V (w.heap.size + 1 + 1) true (.slice none 0 0) (.slice none 0 0) ∧ Fr3 V (w.heap.size + 1 + 1)) ∧ Au V w.heap.size c A n ∧ Bts V W.heap.size A) (FF _).out ?_); (rintro V ⟨B, hT, hR, ⟨hX, hF⟩, hU, hV⟩); (clear FF)) | ((refine wpList_load_mid rfl 26 _ rfl w.heap.size 4 rfl A8 _ (by rw [EA.out]; exact (RGH.out _ _ (by repeat (first | with_reducible exact Below.refl _ _ | with_reducible refine Below.alloc ?_ (by first | omega | (simp; done) | (simp; omega)) _))).adr.range) Tryd.underlying26 rfl (by rw [show A8.length = 20 by simpa using sA]; kernel_rfl) ?_); (refine wpList_worldA (fun W => Below w.heap.size w W ∧ RtC W ∧ Bts W (w.heap.size + 1) (List.replicate 32 0) ∧ (Bx W (w.heap.size + 1 + 1) true (.slice none 0 0) (.slice none 0 0) ∧ Fr3 W (w.heap.size + 1 + 1)) ∧ Au W w.heap.size c A n) ⟨by repeat (first | with_reducible exact Below.refl _ _ | with_reducible refine Below.alloc ?_ (by first | omega | (simp; done) | (simp; omega)) _), ((hk.alloc _).alloc _).alloc _, (Bts.new (List.replicate 32 0) _ (by simp)).alloc (by simp) _, ⟨⟨by simp [go_sem], by simp [go_sem], by simp [go_sem]⟩, by simp [go_sem], by simp [go_sem], by simp [go_sem]⟩, RGH.out _ _ (by repeat (first | with_reducible exact Below.refl _ _ | with_reducible refine Below.alloc ?_ (by first | omega | (simp; done) | (simp; omega)) _))⟩ ?_); (rintro W ⟨B, hT, hR, ⟨hX, hF⟩, hU⟩); (have FF := fun t => raut_ff AL.out.1 EA.out B hT hR hX hF hU t); (clear B hT hR hX hF hU)))
  have HH : Hid (Below w.heap.size w V ∧ RtC V ∧ Bts V (w.heap.size + 1) (List.replicate 32 0) ∧ (Bx V (w.heap.size + 1 + 1) true (.slice none 0 0) (.slice none 0 0) ∧ Fr3 V (w.heap.size + 1 + 1)) ∧ Au V w.heap.size c A n ∧ Bts V W.heap.size A) := ⟨B, hT, hR, ⟨hX, hF⟩, hU, hV⟩
  have HKK : Hid (RtC w) := hk
  clear B hT hR hX hF hU hV hk RGH sA oA EA
  have o1 : w.heap.size ≤ w.heap.size + 1 := by omega
  have o2 : w.heap.size ≤ w.heap.size + 1 + 1 := by omega
  have o3 : w.heap.size + 1 + 1 ≠ w.heap.size + 1 := by omega
  generalize w.heap.size + 1 + 1 = bi at *
  generalize w.heap.size + 1 = br at *
  generalize W.heap.size = bt at *
  clear W
  have lbi : bi < V.heap.size := HH.out.2.2.2.1.1.lt
  refine wp_region_bar 13 (S := fun w' => Below V.heap.size V w') (by kernel_rfl) ((Below.refl _ _).drew) (fun hHeld => ?_)
  refine wpAnyB_takeD (i := 0) (oi := _) (v := .pointer (some ⟨bi, 2, none⟩)) 10 rfl rfl (by kernel_rfl) (by kernel_rfl) (by kernel_rfl) (by kernel_rfl) (fun _ _ _ h => h) (Or.inl ⟨by kernel_rfl, ?_⟩) (by assumption) ?_
  · intro wq hSw
    have _ := hSw
    go_simp
  simp only [Act.put, List.setIfInBounds_toArray, List.set_cons_succ, List.set_cons_zero]
  refine wpAnyB_takeD (i := 1) (oi := _) (v := .slice none 0 0) 11 rfl rfl (by kernel_rfl) (by kernel_rfl) (by kernel_rfl) (by kernel_rfl) (fun _ _ _ h => h) (Or.inl ⟨by kernel_rfl, ?_⟩) (by assumption) ?_
  · intro wq hSw
    have gg := (HH.out.2.2.2.1.1.keep hSw).2.2
    go_simp
  simp only [Act.put, List.setIfInBounds_toArray, List.set_cons_succ, List.set_cons_zero]
  refine wpAnyB_takeD (i := 2) (oi := _) (v := .pointer (some ⟨w.heap.size, 0, none⟩)) 12 rfl rfl (by kernel_rfl) (by kernel_rfl) (by kernel_rfl) (by kernel_rfl) (fun _ _ _ h => h) (Or.inl ⟨by kernel_rfl, ?_⟩) (by assumption) ?_
  · intro wq hSw
    have _ := hSw
    go_simp
  simp only [Act.put, List.setIfInBounds_toArray, List.set_cons_succ, List.set_cons_zero]
  refine wpAnyB_takeD (i := 3) (oi := _) (v := .agg #[.int .u64 (l0 c), .int .u64 (l1 c), .int .u64 (l2 c), .int .u64 (l3 c)]) 13 rfl rfl (by kernel_rfl) (by kernel_rfl) (by kernel_rfl) (by kernel_rfl) (fun _ _ _ h => h) (Or.inl ⟨by kernel_rfl, ?_⟩) (by assumption) ?_
  · intro wq hSw
    have gg := (HH.out.2.2.2.2.1.keep hSw).num
    go_simp
  simp only [Act.put, List.setIfInBounds_toArray, List.set_cons_succ, List.set_cons_zero]
  refine wpAnyB_takeD (i := 5) (oi := _) (v := .slice (some ⟨bt, 0, none⟩) 20 20) 15 rfl rfl (by kernel_rfl) (by kernel_rfl) (by kernel_rfl) (by kernel_rfl) (fun _ _ _ h => h) (Or.inl ⟨by kernel_rfl, ?_⟩) (by assumption) ?_
  · intro wq hSw
    have _ := hSw
    go_simp
  simp only [Act.put, List.setIfInBounds_toArray, List.set_cons_succ, List.set_cons_zero]
  refine wpAnyB_takeD (i := 7) (oi := _) (v := .pointer (some ⟨w.heap.size, 24, none⟩)) 17 rfl rfl (by kernel_rfl) (by kernel_rfl) (by kernel_rfl) (by kernel_rfl) (fun _ _ _ h => h) (Or.inl ⟨by kernel_rfl, ?_⟩) (by assumption) ?_
  · intro wq hSw
    have _ := hSw
    go_simp
  simp only [Act.put, List.setIfInBounds_toArray, List.set_cons_succ, List.set_cons_zero]
  refine wpAnyB_takeD (i := 8) (oi := _) (v := .int .u64 n) 18 rfl rfl (by kernel_rfl) (by kernel_rfl) (by kernel_rfl) (by kernel_rfl) (fun _ _ _ h => h) (Or.inl ⟨by kernel_rfl, ?_⟩) (by assumption) ?_
  · intro wq hSw
    have gg := (HH.out.2.2.2.2.1.keep hSw).non
    go_simp
  simp only [Act.put, List.setIfInBounds_toArray, List.set_cons_succ, List.set_cons_zero]
  clear hHeld
  refine wpAnyB_one (i := 4) (by kernel_rfl) (by kernel_rfl) rfl (fun K hK => ?_)
  go_simp
  go_wp2_with (go_at_call 12; refine (C0.out _).mono ?_; rintro e y0 ⟨d0, q0, rfl, hO0, hb⟩)
  have B0 : Below V.heap.size V y0 := ((Below.refl _ _).drew).trans (hb.mono (Nat.le_refl _))
  refine hK.out _ _ B0 (fun hHeld => ?_)
  clear hK K hb C0
  have hO0' : Ot y0 (.mk false (stripL (putL c)) []) (fun k => V.heap.size ≤ k) d0 q0 := hO0
  clear hO0
  clear hHeld
  refine wpAnyB_one (i := 6) (by kernel_rfl) (by kernel_rfl) rfl (fun K hK => ?_)
  go_simp
  go_wp2_with (go_at_call 13; refine (C1.out _ _ (HH.out.2.2.2.2.2.keep (by simp [AL.out.1]) B0)).mono ?_; rintro e y1 ⟨d1, q1, rfl, hO1, hb⟩)
  have B1 := B0.trans (hb.mono B0.size)
  replace hO0' := hO0'.keepX hb
  have hO1' := Ot.base hO1 B0.size
  refine hK.out _ _ B1 (fun hHeld => ?_)
  clear hK K hb C1 B0 y0 hO1
  clear hHeld
  refine wpAnyB_one (i := 9) (by kernel_rfl) (by kernel_rfl) rfl (fun K hK => ?_)
  go_simp
  go_wp2_with (go_at_call 14; refine (C2.out _).mono ?_; rintro e y2 ⟨d2, q2, rfl, hO2, hb⟩)
  have B2 := B1.trans (hb.mono B1.size)
  replace hO0' := hO0'.keepX hb
  replace hO1' := hO1'.keepX hb
  have hO2' := Ot.base hO2 B1.size
  refine hK.out _ _ B2 (fun hHeld => ?_)
  clear hK K hb C2 B1 y1 hO2
  clear hHeld
  refine wpAnyB_one (i := 10) (by kernel_rfl) (by kernel_rfl) rfl (fun K hK => ?_)
  go_simp
  go_wp2_with fail
  refine kworldX (fun U => Below V.heap.size V U ∧ (∀ j v, [.bool false, d0, q0, .bool false, d1, q1, .bool false, d2, q2][j]? = some v → U.cell? ⟨y2.heap.size, j, none⟩ = some v) ∧ Ot U (.mk false (stripL (putL c)) []) (fun k => V.heap.size ≤ k) d0 q0 ∧ Ot U (.mk false A []) (fun k => V.heap.size ≤ k) d1 q1 ∧ Ot U (.mk false (stripL (putL n)) []) (fun k => V.heap.size ≤ k) d2 q2) ⟨B2.alloc B2.size _, fun j v hv => by simp; exact hv, hO0'.keepX ((Below.refl _ _).alloc (Nat.le_refl _) _), hO1'.keepX ((Below.refl _ _).alloc (Nat.le_refl _) _), hO2'.keepX ((Below.refl _ _).alloc (Nat.le_refl _) _)⟩ ?_
  rintro U ⟨BU, hI, hO0, hO1, hO2⟩
  refine hK.out _ _ BU (fun hHeld => ?_)
  clear hK K B2 hO0' hO1' hO2'
  generalize y2.heap.size = bl at *
  clear y2 hHeld
  have h1 : ∀ v ∈ [.bool false, d0, q0, .bool false, d1, q1, .bool false, d2, q2], v.oneCell' = true := by
    have a0 := (Ot.it _ hO0).oneX
    have a1 := (Ot.it _ hO1).oneX
    have a2 := (Ot.it _ hO2).oneX
    intro v hv
    simp only [List.mem_cons, List.not_mem_nil, or_false] at hv
    rcases hv with rfl | rfl | rfl | rfl | rfl | rfl | rfl | rfl | rfl
    · rfl
    · exact a0.1
    · exact a0.2
    · rfl
    · exact a1.1
    · exact a1.2
    · rfl
    · exact a2.1
    · exact a2.2
  refine wpAnyB_one (i := 11) (by kernel_rfl) (by kernel_rfl) rfl (fun K hK => ?_)
  refine (if_pos (by kernel_rfl)).mpr ?_
  refine wp_append_three (.tmp 11) (.tmp 20) rfl rfl bl 3 _ rfl rfl hI h1 (fun g' c' y3 hc hg hr hb => ?_)
  have B3 := BU.trans (hb.mono BU.size)
  replace hO0 := hO0.keepX hb
  replace hO1 := hO1.keepX hb
  replace hO2 := hO2.keepX hb
  have gb : bi < g' := by have := BU.size; omega
  refine hK.out _ _ B3 (fun hHeld => ?_)
  clear hK K hb BU hI h1 hg U
  simp only [Act.put, List.setIfInBounds_toArray]
  refine wpAnyB_takeD (i := 12) (oi := _) (v := .pointer (some ⟨bi, 2, none⟩)) 22 rfl rfl (by kernel_rfl) (by kernel_rfl) (by kernel_rfl) (by kernel_rfl) (fun _ _ _ h => h) (Or.inl ⟨by kernel_rfl, ?_⟩) (by assumption) ?_
  · intro wq hSw
    have _ := hSw
    go_simp
  simp only [Act.put]
  clear hHeld
  have xB := HH.out.2.2.2.1.1.keep B3
  have xF := HH.out.2.2.2.1.2.keep lbi B3
  obtain ⟨x0, x1, x2⟩ := xB
  obtain ⟨f0, f1, f2⟩ := xF
  refine wpAnyB_bar (o := { dst := none, op := .store 37 (.tmp 22) (.tmp 21), type := _, pos := _, after := _, guard := none }) (by kernel_rfl) rfl (fun K hK => ?_)
  go_simp
  refine kworldX (fun Z => Below w.heap.size w Z ∧ Bts Z br (List.replicate 32 0) ∧ Bx Z bi true (.slice none 0 0) (.slice (some ⟨g', 0, none⟩) 3 c') ∧ It Z (autT (stripL (putL c)) A (stripL (putL n))) (.slice none 0 0) (.slice (some ⟨g', 0, none⟩) 3 c')) ⟨(HH.out.1.trans (B3.mono HH.out.1.size)).setCell o2 _, (HH.out.2.2.1.keep (by simp) B3).farX o3, ⟨?_, ?_, ?_⟩, ?_⟩ ?_
  · simp [go_sem, x0]
  · simp [go_sem, x1]
  · simp [go_sem, x2]
  · rw [autT, It]
    refine ⟨⟨none, 0, 0, 0, rfl, ⟨Nat.le_refl _, fun _ => rfl⟩, .inl rfl, fun i hi => by cases hi⟩, some ⟨g', 0, none⟩, g', 0, c', rfl, ⟨hc, fun e => by cases e⟩, .inr rfl, ?_⟩
    exact its3c (fun j v hv => cell_farX (hr j v hv) (by omega)) (Ot.it _ (hO0.farX lbi)) (Ot.it _ (hO1.farX lbi)) (Ot.it _ (hO2.farX lbi))
  rintro Z ⟨B, hR, hX, hI⟩
  refine hK.out _ _ ?_
  refine wpAny_done (by kernel_rfl) ?_ _
  clear hK K hO0 hO1 hO2 hr x0 x1 x2 f0 f1 f2 B3 y3 HH lbi gb
  obtain ⟨x0, x1, x2⟩ := hX
  go_wp2_with fail
  with_reducible refine (C4.out _ _ _ hI).mono ?_
  rintro e y4 ⟨a, g, k, rfl, hP, hb⟩
  replace B := B.trans (hb.mono B.size)
  replace hR := hR.keep (by simp) hb
  clear hb hI Z C4 x0 x1 x2
  have hT := HKK.out.keep B
  go_wp2_with fail
  refine calls_world (fun U => Below w.heap.size w U ∧ RtC U ∧ Bts U br (List.replicate 32 0) ∧ PtsC U (y4.heap.size + 1) 0 [⟨some ⟨y4.heap.size, 0, none⟩, y4.heap.size, 0, 1, [5]⟩, ⟨a, g, 0, k, X⟩]) ⟨(B.alloc B.size _).alloc (by have := B.size; simp; omega) _, (hT.alloc _).alloc _, (hR.alloc (by simp) _).alloc (by simp) _, ptsC_two (by simp) rfl rfl ((Bts.new (W := y4) [5] _ rfl).ptX bys5) (hP.1.keep ((Below.refl _ _).alloc (Nat.le_refl _) _))⟩ ?_
  have NC : Hid (a = none → k = 0) := hP.2
  clear B hT hR hP
  rintro U ⟨B, hT, hR, hP⟩
  generalize y4.heap.size + 1 = bs at *
  refine (rsumC (ps := [⟨some ⟨y4.heap.size, 0, none⟩, y4.heap.size, 0, 1, [5]⟩, ⟨a, g, 0, k, X⟩]) (n := 2) (c := 2) rfl (by rw [allC_two]; simp only [List.length_append, List.length_cons, List.length_nil]; have := XL.out; omega) (by show 2 ≤ 1000; decide) (fun p hp => by
    simp only [List.mem_cons, List.not_mem_nil, or_false] at hp
    rcases hp with rfl | rfl
    · intro e; cases e
    · exact NC.out) U hP hT).mono ?_
  rw [allC_two]
  simp only [List.cons_append, List.nil_append]
  rw [← eD.out]
  rintro e y5 ⟨rfl, hb⟩
  replace B := B.trans (hb.mono B.size)
  replace hR := hR.keep (by simp) hb
  clear hb U hT hP XL
  have kD : D.length = 32 := by rw [eD.out, List.length_map, kecC_len]
  have oc : D.toArray.all (·.oneCell') = true := by rw [eD.out]; exact one_cells _
  have KD : Hid (D.length = 32) := kD
  have sz : D.toArray.size = 32 := by simp [kD]
  have tr := hR.there (k := D.toArray.size) (by rw [sz]; rfl)
  clear kD eD
  go_wp2_with ((refine wpList_store_mid rfl 30 _ _ rfl br 0 D.toArray rfl rfl tr (by rw [sz]; kernel_rfl) oc ?_); (refine wpList_worldA (fun W => Below w.heap.size w W ∧ W.rangeAt br 0 D) (laid_in B o1 (by simpa using tr)) ?_); (rintro W ⟨B', hD⟩))
  have ld := run_loadVar_mid (P := Tryd.prog) W br 0 30 D _ hD Tryd.underlying30 rfl (by rw [KD.out]; kernel_rfl)
  refine bodyPost_ret (v := .agg D.toArray) ?_ rfl ⟨rfl, B'⟩
  simp [results, Tryd.results5, Act.put, asAddr, ld]
end Go.Proofs.YtkbmonlbgnnjlaaDoor

/- Layer 14: the law AccessDigests. -/
namespace Go.Proofs.YtkbmonlbgnnjlaaDoor
open Go.RowKit Go.Sort
theorem eq_haJ {X Y : List Int} (hx : X.length = 32) (hy : Y.length = 32) (w : World) : (Op.equalIn 10000 30 (.agg (X.map (Value.int .u8)).toArray) (.agg (Y.map (Value.int .u8)).toArray)).run Tryd.prog w = .ok (decide (X = Y)) w := by
  rw [show (10000 : Nat) = 9999 + 1 from rfl, Op.equalIn]
  have tz : (sizeOf 5).run Tryd.prog w = .ok 1 w := by have := Tryd.sizeOf5; simp [go_sem, this]
  simp only [Sem.run_bind, run_underlying Tryd.underlying30, Result.andThen_ok, tz]
  simp only [Std.Legacy.Range.forIn_eq_forIn_range', Std.Legacy.Range.size, Nat.sub_zero, Nat.add_sub_cancel, Nat.div_one]
  have h := eq_loopJ (X := X) (Y := Y) w 32 0 (by omega) (by omega)
  rw [h, sameJ_eq hx hy]
  by_cases e : X = Y <;> simp [e]
set_option maxRecDepth 100000 in
set_option maxHeartbeats 4000000 in
theorem digests_any {c : Int} {A : List Int} {n p r s : Int} (hc : Num c) (hA : A.length = 20) (hB : Bys A) (hn : Word n) (w : World) (hk : KtC w) (hr : RtC w) :
    Calls Tryd.prog 3 #[.agg (auM c A n p r s).toArray] w fun e w' => e = .returned (.bool true) ∧ Below w.heap.size w w' := by
  obtain ⟨E, eE⟩ : ∃ E, E = kecC (5 :: autX c A n) := ⟨_, rfl⟩
  have lE : E.length = 32 := by rw [eE, kecC_len]
  have ey : ∀ w, (Op.equalIn 10000 30 (.agg (E.map (Value.int .u8)).toArray) (.agg (E.map (Value.int .u8)).toArray)).run Tryd.prog w = .ok true w := fun w => by rw [eq_haJ lE lE, decide_eq_true rfl]
  have D1 : Hid (∀ W, KtC W → Calls Tryd.prog 4 #[.agg (auM c A n p r s).toArray] W fun e w' => e = .returned (.agg (E.map (Value.int .u8)).toArray) ∧ Below W.heap.size W w') := fun W h => aut_any hc hA hB hn (by rw [eE]; rfl) W h
  have D2 : Hid (∀ W, RtC W → Calls Tryd.prog 5 #[.agg (auM c A n p r s).toArray] W fun e w' => e = .returned (.agg (E.map (Value.int .u8)).toArray) ∧ Below W.heap.size W w') := fun W h => raut_any hA hB hn (by rw [eE]; rfl) W h
  have im : (Tryd.prog.info? 28).map (·.size) = some (auM c A n p r s).length := by rw [auM_len hA]; kernel_rfl
  generalize (E.map (Value.int .u8)).toArray = H at *
  generalize auM c A n p r s = M at *
  clear eE lE
  go_enter Tryd.func3, Tryd.ntmps3
  go_wp2_with fail
  refine wp_world (fun W => Below w.heap.size w W ∧ KtC W ∧ RtC W ∧ W.rangeAt w.heap.size 0 M) ⟨by repeat (first | with_reducible exact Below.refl _ _ | with_reducible refine Below.alloc ?_ (by first | omega | (simp; done) | (simp; omega)) _), hk.alloc _, hr.alloc _, rangeBox⟩ ?_
  rintro W ⟨B, hT, hR, hM⟩
  have G : ∀ d os, Below W.heap.size W (grow (redrawn W d) os) := fun d os => below_regrown W d os
  have ldM : ∀ w', (∃ p : Regrown, w' = grow (redrawn W p.d) p.os) → w'.rangeAt w.heap.size 0 M := by
    rintro _ ⟨p, rfl⟩ j v hv
    exact cell_keep (G p.d p.os) (hM j v hv)
  refine wp_region_quiet_below (by kernel_rfl) (by kernel_rfl) ?_
  repeat
    first
      | go_big_quiet_skip
      | (go_big_quiet_want; refine quiet_load_midT 28 _ rfl w.heap.size 0 rfl M _ ldM Tryd.underlying28 rfl im ?_; simp only [Act.put, List.setIfInBounds_toArray, List.set_cons_succ, List.set_cons_zero]; go_big_quiet_on)
      | (go_big_quiet_want; go_big_quiet_op; go_big_quiet_on)
      | (go_big_quiet_want
         go_big_quiet_op
         apply Exists.intro
         refine ⟨fun p => ?_, ?_⟩
         · (first | (go_at_call 4; with_reducible exact Calls.regrown_of (D1.out (grow (redrawn W p.d) p.os) (hT.keep (G p.d p.os)))) | (go_at_call 5; with_reducible exact Calls.regrown_of (D2.out (grow (redrawn W p.d) p.os) (hR.keep (G p.d p.os)))))
         go_big_quiet_on)
  refine wpQuiet_nil ?_
  rintro w3 ⟨p, rfl⟩
  have B3 : Hid (Below w.heap.size w (grow (redrawn W p.d) p.os)) := B.trans ((G p.d p.os).mono B.size)
  clear G ldM
  generalize grow (redrawn W p.d) p.os = w3 at *
  clear B hT hR hM
  go_wp2
  simp [bodyPost, results, Tryd.results3, go_sem]
  exact B3.out
end Go.Proofs.YtkbmonlbgnnjlaaDoor
