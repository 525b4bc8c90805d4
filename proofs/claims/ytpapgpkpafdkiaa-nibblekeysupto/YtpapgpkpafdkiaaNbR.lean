import Derived.Test.YtpapgpkpafdkiaaNbH
/- Layer 11: the document's Of, row, Key. -/
namespace Go.Proofs.Ytpapgpkpafdkiaa
open Go.RowKit Go.Sort

theorem cells_twoN (w : World) (x y : Value) (t : TypeId) : ∀ j u, [x, y][j]? = some u → (w.alloc (.cells #[x, y] t)).drew.cell? ((⟨w.heap.size, 0, none⟩ : Addr).add j) = some u := cells_two w x y t

set_option maxRecDepth 100000 in
set_option maxHeartbeats 8000000 in
theorem rof_any {b o c : Nat} {a : Option Addr} {X : List Int} (hX : Bys X) (hl : X.length < 536870912) (ha : Az a b o X) (w : World) (hz : Bz w b o X) :
    Calls Try.prog 25 #[.slice a X.length c] w fun e w' => ∃ v, e = .returned v ∧ OwnB w.heap.size w' v (ofL X) ∧ Below w.heap.size w w' := by
  obtain ⟨i0, hi, hz0, hz1, hz2⟩ := info_parts info_byte
  have HA : Hid (Bys X ∧ X.length < 536870912 ∧ Az a b o X ∧ Bz w b o X) := ⟨hX, hl, ha, hz⟩
  have l1 : (X.length : Int) < 536870912 := by omega
  clear hX hl ha hz
  go_enter Try.func25, Try.ntmps25
  go_wp2_with fail
  go_loopg [3, 4] X.length (fun k tv iv wr => ∃ i : Nat, k = X.length - i ∧ i ≤ X.length ∧ iv = .int .i64 (i : Int) ∧ OwnB w.heap.size wr tv (ofL (X.take i)) ∧ Below w.heap.size w wr)
  case atStart => exact ⟨0, rfl, Nat.zero_le _, rfl, OwnB.nil _ _, Below.refl _ _⟩
  case round =>
    obtain ⟨i, hk, hi9, rfl, hown, hG⟩ := hrel
    have HK : Hid (gk = X.length - i) := hk
    have HF : Hid (OwnB w.heap.size wr u3 (ofL (X.take i)) ∧ Below w.heap.size w wr) := ⟨hown, hG⟩
    clear hk hown hG
    by_cases h8 : i = X.length
    · subst h8
      have HT : Hid (X.take X.length = X) := List.take_length
      rw [HT.out] at HF
      go_wp2
      simp [bodyPost, results, Try.results25, go_sem]
      exact HF.out
    · have hlt : i < X.length := by omega
      have hlt' : (i : Int) < (X.length : Int) := by omega
      obtain rfl := HA.out.2.2.1.cons (by omega)
      have ec : ∀ (W : World), Below w.heap.size w W → W.cell? ⟨b, o + i, none⟩ = some (.int .u8 (X.getD i 0)) := fun W hW => HA.out.2.2.2.keep hW i hlt
      obtain ⟨x0, x1⟩ := HA.out.1.at i
      have NX : Hid (ofL (X.take (i + 1)) = ofL (X.take i) ++ [X.getD i 0 / 16, X.getD i 0 % 16]) := by rw [take_snocI hlt, ofL_snoc]; exact rfl
      have LR : Hid ((ofL (X.take i)).length < 1073741824) := by
        show _ < _
        rw [ofL_len, List.length_take]; have := HA.out.2.1; omega
      generalize X.getD i 0 = x at *
      have wu1 : IntKind.u8.wrap (x / 16) = x / 16 := by rw [IntKind.wrap_u8']; omega
      have wi2 : Int.tdiv x 16 = x / 16 := by rw [Int.tdiv_eq_ediv_of_nonneg x0]
      have wu3 : Int.tmod x 16 = x % 16 := by rw [Int.tmod_eq_emod_of_nonneg x0]
      have ld1 := ec wr HF.out.2
      have EC : Hid _ := ec
      clear ec
      go_wp2_with fail
      refine wp_region_held_drew (S := fun w' => w'.cell? ⟨b, o + i, none⟩ = some (.int .u8 x)) (by kernel_rfl) ld1 (fun hHeld => ?_)
      refine wpAnyH_take (i := 0) (oi := _) (v := u3) rfl (by kernel_rfl) (by kernel_rfl) (by kernel_rfl) (fun _ _ _ h => h) (Or.inl ⟨by rfl, ?_⟩) (by assumption) ?_
      · intro wq hSw
        first | (go_simp; done) | (go_simp; rfl) | (go_simp; exact wu1) | (go_simp; exact wi2) | (go_simp; exact wu3) | (simp [go_sem, *]; done)
      (try simp only [Act.put, List.setIfInBounds_toArray])
      refine wpAnyH_take (i := 1) (oi := _) (v := .slice (some ⟨b, o, none⟩) X.length c) rfl (by kernel_rfl) (by kernel_rfl) (by kernel_rfl) (fun _ _ _ h => h) (Or.inl ⟨by rfl, ?_⟩) (by assumption) ?_
      · intro wq hSw
        first | (go_simp; done) | (go_simp; rfl) | (go_simp; exact wu1) | (go_simp; exact wi2) | (go_simp; exact wu3) | (simp [go_sem, *]; done)
      (try simp only [Act.put])
      refine wpAnyH_take (i := 2) (oi := _) (v := .int .i64 (i : Int)) rfl (by kernel_rfl) (by kernel_rfl) (by kernel_rfl) (fun _ _ _ h => h) (Or.inl ⟨by rfl, ?_⟩) (by assumption) ?_
      · intro wq hSw
        first | (go_simp; done) | (go_simp; rfl) | (go_simp; exact wu1) | (go_simp; exact wi2) | (go_simp; exact wu3) | (simp [go_sem, *]; done)
      (try simp only [Act.put])
      refine wpAnyH_take (i := 3) (oi := _) (v := .pointer (some ⟨b, o + i, none⟩)) rfl (by kernel_rfl) (by kernel_rfl) (by kernel_rfl) (fun _ _ _ h => h) (Or.inl ⟨by rfl, ?_⟩) (by assumption) ?_
      · intro wq hSw
        first | (go_simp; done) | (go_simp; rfl) | (go_simp; exact wu1) | (go_simp; exact wi2) | (go_simp; exact wu3) | (simp [go_sem, *]; done)
      (try simp only [Act.put])
      refine wpAnyH_take (i := 4) (oi := _) (v := .int .u8 x) rfl (by kernel_rfl) (by kernel_rfl) (by kernel_rfl) (fun _ _ _ h => h) (Or.inl ⟨by rfl, ?_⟩) (by assumption) ?_
      · intro wq hSw
        first | (go_simp; done) | (go_simp; rfl) | (go_simp; exact wu1) | (go_simp; exact wi2) | (go_simp; exact wu3) | (simp [go_sem, *]; done)
      (try simp only [Act.put])
      refine wpAnyH_take (i := 5) (oi := _) (v := .int .u8 (x / 16)) rfl (by kernel_rfl) (by kernel_rfl) (by kernel_rfl) (fun _ _ _ h => h) (Or.inl ⟨by rfl, ?_⟩) (by assumption) ?_
      · intro wq hSw
        first | (go_simp; done) | (go_simp; rfl) | (go_simp; exact wu1) | (go_simp; exact wi2) | (go_simp; exact wu3) | (simp [go_sem, *]; done)
      (try simp only [Act.put])
      refine wpAnyH_take (i := 6) (oi := _) (v := .slice (some ⟨b, o, none⟩) X.length c) rfl (by kernel_rfl) (by kernel_rfl) (by kernel_rfl) (fun _ _ _ h => h) (Or.inl ⟨by rfl, ?_⟩) (by assumption) ?_
      · intro wq hSw
        first | (go_simp; done) | (go_simp; rfl) | (go_simp; exact wu1) | (go_simp; exact wi2) | (go_simp; exact wu3) | (simp [go_sem, *]; done)
      (try simp only [Act.put])
      refine wpAnyH_take (i := 7) (oi := _) (v := .int .i64 (i : Int)) rfl (by kernel_rfl) (by kernel_rfl) (by kernel_rfl) (fun _ _ _ h => h) (Or.inl ⟨by rfl, ?_⟩) (by assumption) ?_
      · intro wq hSw
        first | (go_simp; done) | (go_simp; rfl) | (go_simp; exact wu1) | (go_simp; exact wi2) | (go_simp; exact wu3) | (simp [go_sem, *]; done)
      (try simp only [Act.put])
      refine wpAnyH_take (i := 8) (oi := _) (v := .pointer (some ⟨b, o + i, none⟩)) rfl (by kernel_rfl) (by kernel_rfl) (by kernel_rfl) (fun _ _ _ h => h) (Or.inl ⟨by rfl, ?_⟩) (by assumption) ?_
      · intro wq hSw
        first | (go_simp; done) | (go_simp; rfl) | (go_simp; exact wu1) | (go_simp; exact wi2) | (go_simp; exact wu3) | (simp [go_sem, *]; done)
      (try simp only [Act.put])
      refine wpAnyH_take (i := 9) (oi := _) (v := .int .u8 x) rfl (by kernel_rfl) (by kernel_rfl) (by kernel_rfl) (fun _ _ _ h => h) (Or.inl ⟨by rfl, ?_⟩) (by assumption) ?_
      · intro wq hSw
        first | (go_simp; done) | (go_simp; rfl) | (go_simp; exact wu1) | (go_simp; exact wi2) | (go_simp; exact wu3) | (simp [go_sem, *]; done)
      (try simp only [Act.put])
      refine wpAnyH_take (i := 10) (oi := _) (v := .int .u8 (x % 16)) rfl (by kernel_rfl) (by kernel_rfl) (by kernel_rfl) (fun _ _ _ h => h) (Or.inl ⟨by rfl, ?_⟩) (by assumption) ?_
      · intro wq hSw
        first | (go_simp; done) | (go_simp; rfl) | (go_simp; exact wu1) | (go_simp; exact wi2) | (go_simp; exact wu3) | (simp [go_sem, *]; done)
      (try simp only [Act.put])
      refine wpAnyH_ready (rs := [11]) (by kernel_rfl) (by simp) ?_
      refine AllReadyH.cons rfl (fun K hK => ?_) AllReadyH.nil
      go_simp
      have HB : Hid (Below wr.heap.size wr (wr.alloc (.cells #[.int .u8 (x / 16), .int .u8 (x % 16)] 5)).drew) := ((Below.refl _ _).alloc (Nat.le_refl _) _).drew
      refine hK.out _ _ (cell_keep HB.out ld1) (fun hHeld => ?_)
      clear hK K
      refine wpAnyH_ready (rs := [12]) (by kernel_rfl) (by simp) ?_
      refine AllReadyH.cons rfl (fun K hK => ?_) AllReadyH.nil
      refine step_append_lies _ rfl _ _ 22 rfl w.heap.size 5 i0 (.int .u8 0) 1 1 Try.underlying22 hi hz0 hz1 hz2 rfl (by decide) u3 _ _ rfl (HF.out.1.keep HB.out).row ⟨wr.heap.size, 0, none⟩ 2 2 [.int .u8 (x / 16), .int .u8 (x % 16)] rfl rfl (cells_twoN _ _ _ _) (fun u hu => by simp at hu; rcases hu with rfl | rfl <;> rfl) (by decide) (by unfold maxLen; have := LR.out; omega) (by have := LR.out; omega) (by have := HF.out.2.size; simp; omega) _ rfl ?_
      intro g3 cap3 w3 hown' hgrow3 hblk hlt3
      have HO : Hid (OwnB w.heap.size w3 (.slice (some ⟨g3, 0, none⟩) ((ofL (X.take i)).length + 2) cap3) (ofL (X.take (i + 1))) ∧ Below w.heap.size w w3) := by
        refine ⟨?_, ?_⟩
        · rw [NX.out, OwnB, List.length_append (bs := [_, _]), List.map_append]
          exact hown'
        · exact (HF.out.2.trans (HB.out.mono HF.out.2.size)).grown hgrow3 (by have := HF.out.2.size; simp; omega) (fun k hk => (HF.out.1.lt k hk).1)
      refine hK.out _ _ (EC.out w3 HO.out.2) (fun hHeld => ?_)
      clear hK K hown' hgrow3 hblk hlt3
      generalize Value.slice (some ⟨g3, 0, none⟩) ((ofL (X.take i)).length + 2) cap3 = v' at *
      refine wpAnyH_take (i := 13) (oi := _) (v := v') rfl (by kernel_rfl) (by kernel_rfl) (by kernel_rfl) (fun _ _ _ h => h) (Or.inl ⟨by rfl, ?_⟩) (by assumption) ?_
      · intro wq hSw
        first | (go_simp; done) | (go_simp; rfl) | (go_simp; exact wu1) | (go_simp; exact wi2) | (go_simp; exact wu3) | (simp [go_sem, *]; done)
      (try simp only [Act.put])
      refine wpAnyH_done (by kernel_rfl) ?_ _
      go_wp2
      go_roundg (X.length - (i + 1))
      case measure => have := HK.out; omega
      case rel => exact ⟨i + 1, rfl, by omega, by go_num, HO.out.1, HO.out.2⟩

set_option maxRecDepth 100000 in
theorem rrow_any {b o c : Nat} {a : Option Addr} {X : List Int} (hl : X.length < 1073741824) (ha : Az a b o X) (w : World) (hz : Bz w b o X) :
    Calls Try.prog 32 #[.slice a X.length c] w fun e w' => e = .returned (.bool (rowB X)) ∧ w' = w := by
  have HA : Hid (X.length < 1073741824 ∧ Az a b o X ∧ Bz w b o X) := ⟨hl, ha, hz⟩
  have l1 : (X.length : Int) < 1073741824 := by omega
  clear hl ha hz
  go_enter Try.func32, Try.ntmps32
  go_wp2_with fail
  go_loopg [3] X.length (fun k iv wr => ∃ i : Nat, k = X.length - i ∧ i ≤ X.length ∧ iv = .int .i64 (i : Int) ∧ rowB (X.take i) = true ∧ wr = w)
  case atStart => exact ⟨0, rfl, Nat.zero_le _, rfl, rfl, rfl⟩
  case round =>
    obtain ⟨i, hk, hi9, rfl, hr, rfl⟩ := hrel
    have HK : Hid (gk = X.length - i ∧ rowB (X.take i) = true) := ⟨hk, hr⟩
    clear hk hr
    by_cases h8 : i = X.length
    · subst h8
      have HT : Hid (rowB X = true) := by have := HK.out.2; rw [List.take_length] at this; exact this
      go_wp2
      simp [bodyPost, results, Try.results32, go_sem]
      exact HT.out
    · have hlt : i < X.length := by omega
      have hlt' : (i : Int) < (X.length : Int) := by omega
      obtain rfl := HA.out.2.1.cons (by omega)
      have gx := HA.out.2.2 i hlt
      by_cases h9 : X.getD i 0 ≤ 15
      · have HR : Hid (rowB (X.take (i + 1)) = true) := rowB_take hlt HK.out.2 h9
        generalize X.getD i 0 = x at *
        have h10 : ¬ (15 < x) := by omega
        clear h9
        go_wp2
        go_roundg (X.length - (i + 1))
        case measure => have := HK.out; omega
        case rel => exact ⟨i + 1, rfl, by omega, by go_num, HR.out, rfl⟩
      · have HR : Hid (rowB X = false) := rowB_not hlt h9
        generalize X.getD i 0 = x at *
        have h10 : 15 < x := by omega
        go_wp2
        simp [bodyPost, results, Try.results32, go_sem]
        exact HR.out
/-- append(v, x...): both lists of one's own. -/
theorem run_append_all {B B' : Nat} {w : World} {v x : Value} {P Q : List Int} {ty : TypeId} (h : OwnB B w v P) (k : OwnB B' w x Q) (hl : P.length + Q.length < 2147483648) (hB : B ≤ w.heap.size) :
    ∃ v' w', (Builtin.append_ #[22, 22] ty #[v, x]).run Try.prog w = .ok v' w' ∧ OwnB B w' v' (P ++ Q) ∧ w.grownBy w' v.ownBlock := by
  obtain ⟨i0, hi, hz0, hz1, hz2⟩ := info_parts info_byte
  have eo : ∀ {w' : World} {v' : Value}, w'.ownsRow B 5 1 v' (P.length + Q.length) (P.map (Value.int .u8) ++ Q.map (Value.int .u8)) → OwnB B w' v' (P ++ Q) := fun {w'} {v'} h => by
    rw [OwnB, List.length_append, List.map_append]; exact h
  rcases k.2 with ⟨rfl, h0⟩ | ⟨g, cap, cur, rfl, hb, hg, hle, _⟩
  · have e : Q = [] := List.length_eq_zero_iff.1 h0
    subst e
    exact ⟨v, w, run_append_owned_none (P := Try.prog) w B 22 ty 5 i0 1 Try.underlying22 hi v P.length _ h, by rw [List.append_nil]; exact h, World.grownBy.refl _ _⟩
  · obtain ⟨v', w', hr, h2, h3, _, _⟩ := run_append_own_at (P := Try.prog) w B 22 ty 5 i0 (.int .u8 0) 1 1 Try.underlying22 hi hz0 hz1 hz2 rfl (by decide) v P.length _ h ⟨g, 0, none⟩ Q.length cap (Q.map (Value.int .u8)) (by simp) (World.ownsRow.cells k (g := g) rfl) (fun u hu => by obtain ⟨y, _, rfl⟩ := List.mem_map.1 hu; rfl) (by unfold maxLen; omega) (by omega) hB
    exact ⟨v', w', hr, eo h2, h3⟩
theorem wpList_append_all {ops : Array Oper} {rest : List Oper} {o : Oper} {a : Act} {Q : Exit → Act → World → Prop} {w : World} {B B' : Nat} {v x : Value} {P1 Q1 : List Int} (hgd : o.guard = none) (s t : Operand)
    (ho : o.op = .call { callee := .builtin .append, args := #[s, t], argTypes := #[22, 22] }) (hs : a.eval s = v) (hx : a.eval t = x)
    (h : OwnB B w v P1) (k : OwnB B' w x Q1) (hl : P1.length + Q1.length < 2147483648) (hB : B ≤ w.heap.size)
    (hK : ∀ v' w', OwnB B w' v' (P1 ++ Q1) → w.grownBy w' v.ownBlock → wpList Try.prog ops Q rest (a.put o.dst v') w') :
    wpList Try.prog ops Q (o :: rest) a w := by
  refine wpList_plain hgd fun K hK2 => ?_
  obtain ⟨v', w', hr, h2, h3⟩ := run_append_all (ty := o.type) h k hl hB
  unfold Oper.wp execOp
  simp only [ho, resolve, invoke, builtin, Sem.run_bind, Sem.run_pure, Result.andThen_ok, List.map_toArray, List.map_cons, List.map_nil, hs, hx, hr]
  exact hK2 _ _ (hK v' w' h2 h3)
end Go.Proofs.Ytpapgpkpafdkiaa
