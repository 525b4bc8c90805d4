import Derived.Test.YtidchaaahgnabaaDoorHxRd
import Derived.Test.YtidchaaahgnabaaDoorHxH
/- Layer 8: the document's Small. -/
namespace Go.Proofs.YtidchaaahgnabaaDoor
open Go.RowKit Go.Sort
def hexI (X : List Int) : List Int := (hexB X).map fun u => (u.toNat : Int)
theorem hexI_len (X : List Int) : (hexI X).length = 2 * X.length := by rw [hexI, List.length_map, hexB_len]
theorem hexI_snoc (X : List Int) (x : Int) : hexI (X ++ [x]) = hexI X ++ [((hd (x / 16).toNat).toNat : Int), ((hd (x % 16).toNat).toNat : Int)] := by
  rw [hexI, hexB_snoc, List.map_append, List.map_append, List.append_assoc]; rfl
theorem two_new (W : World) (v v2 : Value) (t : TypeId) : ∀ j u, [v, v2][j]? = some u → (W.alloc (.cells #[v, v2] t)).cell? ((⟨W.heap.size, 0, none⟩ : Addr).add j) = some u := fun j u hu => by
  have hn : (W.alloc (.cells #[v, v2] t)).heap[W.heap.size]? = some (.cells #[v, v2] t) := by
    show (W.heap.push _)[W.heap.size]? = _
    simp
  rw [Addr.add_mid, Nat.zero_add, cell_of_row _ _ j _ _ _ hn]
  simpa using hu
theorem OwnB.text {B : Nat} {W : World} {v : Value} {T : List UInt8} (h : OwnB B W v (T.map fun u => (u.toNat : Int))) (h0 : 0 < T.length) : (convert 30 9 v).run Tryd.prog W = .ok (.string ⟨T.toArray⟩) W := by
  have hl : (T.map fun u => (u.toNat : Int)).length = T.length := List.length_map _
  rcases h.2 with ⟨rfl, h1⟩ | ⟨g, cap, cur, rfl, _⟩
  · omega
  · have r := run_convert_bytes_back (P := Tryd.prog) W 30 9 5 ⟨g, 0, none⟩ cap T Tryd.underlying30 Tryd.underlying5 Tryd.underlying9 (fun j hj => by
      rw [Addr.add_mid, Nat.zero_add, OwnB.cell h rfl (by rw [hl]; exact hj)]
      simp [List.getD, hj])
    rw [hl]
    exact r
set_option maxRecDepth 100000 in
set_option maxHeartbeats 8000000 in
theorem rsmall_any {g o n c : Nat} {X : List Int} (hX : X.length = n) (h0 : 0 < n) (hn : n < 268435456) (hb : ∀ i, 0 ≤ X.getD i 0 ∧ X.getD i 0 < 256) (w : World) (hc : ∀ i, i < n → w.cell? ⟨g, o + i, none⟩ = some (.int .u8 (X.getD i 0))) :
    Calls Tryd.prog 38 #[.slice (some ⟨g, o, none⟩) n c] w fun e w' => e = .returned (.string ⟨(hexB X).toArray⟩) ∧ Below w.heap.size w w' := by
  obtain ⟨i0, hi, hz0, hz1, hz2⟩ := info_partsH info_byteH
  have HA : Hid (X.length = n ∧ 0 < n ∧ n < 268435456 ∧ (∀ i, 0 ≤ X.getD i 0 ∧ X.getD i 0 < 256) ∧ ∀ i, i < n → w.cell? ⟨g, o + i, none⟩ = some (.int .u8 (X.getD i 0))) := ⟨hX, h0, hn, hb, hc⟩
  clear hX h0 hn hb hc
  go_enter Tryd.func38, Tryd.ntmps38
  go_wp2_with fail
  go_loopg [3, 4] n (fun k lv iv wr => ∃ i : Nat, k = n - i ∧ i ≤ n ∧ iv = .int .i64 (i : Int) ∧ OwnB w.heap.size wr lv (hexI (X.take i)) ∧ Below w.heap.size w wr)
  case atStart => exact ⟨0, rfl, Nat.zero_le _, rfl, OwnB.nil _ _, Below.refl _ _⟩
  case round =>
    obtain ⟨i, hk, hi9, rfl, hown, B⟩ := hrel
    have HK : Hid (gk = n - i) := hk
    have HF : Hid (OwnB w.heap.size wr u3 (hexI (X.take i)) ∧ Below w.heap.size w wr) := ⟨hown, B⟩
    clear hk hown B
    by_cases h8 : i = n
    · subst h8
      have e : X.take i = X := List.take_of_length_le (by have := HA.out.1; omega)
      have ct := OwnB.text (T := hexB X) (by have := HF.out.1; rw [e] at this; exact this) (by rw [hexB_len]; have := HA.out; omega)
      clear e
      go_wp2
      simp [bodyPost, results, Tryd.results38, go_sem]
      exact HF.out.2
    · have hlt' : i < n := by omega
      have hlt : (i : Int) < (n : Int) := by omega
      have ib : (i : Int) ≤ 268435456 := by have := HA.out.2.2.1; omega
      have ld1 : wr.cell? ⟨g, o + i, none⟩ = some (.int .u8 (X.getD i 0)) := by
        have q := HA.out.2.2.2.2 i hlt'
        rw [HF.out.2.cell (p := ⟨g, o + i, none⟩) (World.block_lt_of_cell? _ _ q)]; exact q
      obtain ⟨x0, x1⟩ := HA.out.2.2.2.1 i
      have HN : Hid (hexI (X.take (i + 1)) = hexI (X.take i) ++ [((hd (X.getD i 0 / 16).toNat).toNat : Int), ((hd (X.getD i 0 % 16).toNat).toNat : Int)]) := by
        rw [take_one (by rw [HA.out.1]; exact hlt')]; exact hexI_snoc _ _
      have LR : Hid ((hexI (X.take i)).length ≤ 2 * n ∧ n < 268435456) := ⟨by rw [hexI_len, List.length_take]; omega, HA.out.2.2.1⟩
      obtain ⟨x, HX1⟩ : ∃ x, Hid (x = X.getD i 0) := ⟨_, rfl⟩
      rw [← HX1.out] at ld1 x0 x1 HN
      obtain ⟨k1, ek1⟩ : ∃ k : Nat, k = (x / 16).toNat := ⟨_, rfl⟩
      obtain ⟨k2, ek2⟩ : ∃ k : Nat, k = (x % 16).toNat := ⟨_, rfl⟩
      rw [← ek1, ← ek2] at HN
      have d1 := dig_at (k := k1) (by omega)
      have d2 := dig_at (k := k2) (by omega)
      have f1 : x.tdiv 16 = (k1 : Int) := by rw [Int.tdiv_eq_ediv_of_nonneg x0]; omega
      have f2 : x.tmod 16 = (k2 : Int) := by rw [Int.tmod_eq_emod_of_nonneg x0]; omega
      have f3 : x / 16 = (k1 : Int) := by omega
      have f4 : x % 16 = (k2 : Int) := by omega
      have w1 : IntKind.u8.wrap (k1 : Int) = (k1 : Int) := by rw [IntKind.wrap_u8']; exact Int.emod_eq_of_lt (by omega) (by omega)
      have w2 : IntKind.u8.wrap (k2 : Int) = (k2 : Int) := by rw [IntKind.wrap_u8']; exact Int.emod_eq_of_lt (by omega) (by omega)
      obtain ⟨c1, HC1⟩ : ∃ c1 : Int, Hid (c1 = ((hd k1).toNat : Int)) := ⟨_, rfl⟩
      obtain ⟨c2, HC2⟩ : ∃ c2 : Int, Hid (c2 = ((hd k2).toNat : Int)) := ⟨_, rfl⟩
      rw [← HC1.out] at d1 HN
      rw [← HC2.out] at d2 HN
      clear ek1 ek2
      go_wp2_with fail
      refine wp_region_held_drew (S := fun w' => w'.cell? ⟨g, o + i, none⟩ = some (.int .u8 x)) (by kernel_rfl) ld1 (fun hHeld => ?_)
      refine wpAnyH_take (i := 0) (oi := _) (v := u3) rfl (by kernel_rfl) (by kernel_rfl) (by kernel_rfl) (fun _ _ _ h => h) (Or.inl ⟨by rfl, ?_⟩) (by assumption) ?_
      · intro wq hSw
        first | (go_simp; done) | (go_simp; rfl) | (simp [go_sem, *]; done)
      (try simp only [Act.put, List.setIfInBounds_toArray])
      refine wpAnyH_take (i := 1) (oi := _) (v := .slice (some ⟨g, o, none⟩) n c) rfl (by kernel_rfl) (by kernel_rfl) (by kernel_rfl) (fun _ _ _ h => h) (Or.inl ⟨by rfl, ?_⟩) (by assumption) ?_
      · intro wq hSw
        first | (go_simp; done) | (go_simp; rfl) | (simp [go_sem, *]; done)
      (try simp only [Act.put])
      refine wpAnyH_take (i := 2) (oi := _) (v := .int .i64 (i : Int)) rfl (by kernel_rfl) (by kernel_rfl) (by kernel_rfl) (fun _ _ _ h => h) (Or.inl ⟨by rfl, ?_⟩) (by assumption) ?_
      · intro wq hSw
        first | (go_simp; done) | (go_simp; rfl) | (simp [go_sem, *]; done)
      (try simp only [Act.put])
      refine wpAnyH_take (i := 3) (oi := _) (v := .pointer (some ⟨g, o + i, none⟩)) rfl (by kernel_rfl) (by kernel_rfl) (by kernel_rfl) (fun _ _ _ h => h) (Or.inl ⟨by rfl, ?_⟩) (by assumption) ?_
      · intro wq hSw
        first | (go_simp; done) | (go_simp; rfl) | (simp [go_sem, *]; done)
      (try simp only [Act.put])
      refine wpAnyH_take (i := 4) (oi := _) (v := .int .u8 x) rfl (by kernel_rfl) (by kernel_rfl) (by kernel_rfl) (fun _ _ _ h => h) (Or.inl ⟨by rfl, ?_⟩) (by assumption) ?_
      · intro wq hSw
        first | (go_simp; done) | (go_simp; rfl) | (simp [go_sem, *]; done)
      (try simp only [Act.put])
      refine wpAnyH_take (i := 5) (oi := _) (v := .int .u8 (k1 : Int)) rfl (by kernel_rfl) (by kernel_rfl) (by kernel_rfl) (fun _ _ _ h => h) (Or.inl ⟨by rfl, ?_⟩) (by assumption) ?_
      · intro wq hSw
        first | (go_simp; done) | (go_simp; rfl) | (simp [go_sem, *]; done)
      (try simp only [Act.put])
      refine wpAnyH_take (i := 6) (oi := _) (v := .int .u8 c1) rfl (by kernel_rfl) (by kernel_rfl) (by kernel_rfl) (fun _ _ _ h => h) (Or.inl ⟨by rfl, ?_⟩) (by assumption) ?_
      · intro wq hSw
        first | (go_simp; done) | (go_simp; rfl) | (simp [go_sem, *]; done)
      (try simp only [Act.put])
      refine wpAnyH_take (i := 7) (oi := _) (v := .slice (some ⟨g, o, none⟩) n c) rfl (by kernel_rfl) (by kernel_rfl) (by kernel_rfl) (fun _ _ _ h => h) (Or.inl ⟨by rfl, ?_⟩) (by assumption) ?_
      · intro wq hSw
        first | (go_simp; done) | (go_simp; rfl) | (simp [go_sem, *]; done)
      (try simp only [Act.put])
      refine wpAnyH_take (i := 8) (oi := _) (v := .int .i64 (i : Int)) rfl (by kernel_rfl) (by kernel_rfl) (by kernel_rfl) (fun _ _ _ h => h) (Or.inl ⟨by rfl, ?_⟩) (by assumption) ?_
      · intro wq hSw
        first | (go_simp; done) | (go_simp; rfl) | (simp [go_sem, *]; done)
      (try simp only [Act.put])
      refine wpAnyH_take (i := 9) (oi := _) (v := .pointer (some ⟨g, o + i, none⟩)) rfl (by kernel_rfl) (by kernel_rfl) (by kernel_rfl) (fun _ _ _ h => h) (Or.inl ⟨by rfl, ?_⟩) (by assumption) ?_
      · intro wq hSw
        first | (go_simp; done) | (go_simp; rfl) | (simp [go_sem, *]; done)
      (try simp only [Act.put])
      refine wpAnyH_take (i := 10) (oi := _) (v := .int .u8 x) rfl (by kernel_rfl) (by kernel_rfl) (by kernel_rfl) (fun _ _ _ h => h) (Or.inl ⟨by rfl, ?_⟩) (by assumption) ?_
      · intro wq hSw
        first | (go_simp; done) | (go_simp; rfl) | (simp [go_sem, *]; done)
      (try simp only [Act.put])
      refine wpAnyH_take (i := 11) (oi := _) (v := .int .u8 (k2 : Int)) rfl (by kernel_rfl) (by kernel_rfl) (by kernel_rfl) (fun _ _ _ h => h) (Or.inl ⟨by rfl, ?_⟩) (by assumption) ?_
      · intro wq hSw
        first | (go_simp; done) | (go_simp; rfl) | (simp [go_sem, *]; done)
      (try simp only [Act.put])
      refine wpAnyH_take (i := 12) (oi := _) (v := .int .u8 c2) rfl (by kernel_rfl) (by kernel_rfl) (by kernel_rfl) (fun _ _ _ h => h) (Or.inl ⟨by rfl, ?_⟩) (by assumption) ?_
      · intro wq hSw
        first | (go_simp; done) | (go_simp; rfl) | (simp [go_sem, *]; done)
      (try simp only [Act.put])
      refine wpAnyH_ready (rs := [13]) (by kernel_rfl) (by simp) ?_
      refine AllReadyH.cons rfl (fun K hK => ?_) AllReadyH.nil
      go_simp
      have HB : Hid (Below wr.heap.size wr (wr.alloc (.cells #[.int .u8 c1, .int .u8 c2] 5)).drew) := ((Below.refl _ _).alloc (Nat.le_refl _) _).drew
      refine hK.out _ _ (cellK HB.out ld1) (fun hHeld => ?_)
      clear hK K
      refine wpAnyH_ready (rs := [14]) (by kernel_rfl) (by simp) ?_
      refine AllReadyH.cons rfl (fun K hK => ?_) AllReadyH.nil
      refine step_append_lies _ rfl _ _ 30 rfl w.heap.size 5 i0 (.int .u8 0) 1 1 Tryd.underlying30 hi hz0 hz1 hz2 rfl (by decide) u3 _ _ rfl (HF.out.1.keep HB.out).row ⟨wr.heap.size, 0, none⟩ 2 2 [.int .u8 c1, .int .u8 c2] rfl rfl (two_new _ _ _ _) (fun u hu => by simp at hu; rcases hu with rfl | rfl <;> rfl) (by decide) (by unfold maxLen; have := LR.out; omega) (by have := LR.out; omega) (by have := HF.out.2.size; simp; omega) _ rfl ?_
      intro g3 cap3 w3 hown' hgrow3 hblk hlt3
      have HO : Hid (OwnB w.heap.size w3 (.slice (some ⟨g3, 0, none⟩) ((hexI (X.take i)).length + 2) cap3) (hexI (X.take (i + 1))) ∧ Below w.heap.size w w3) := by
        refine ⟨?_, ?_⟩
        · rw [HN.out, OwnB, List.length_append, List.map_append]
          exact hown'
        · exact (HF.out.2.trans (HB.out.mono HF.out.2.size)).grown hgrow3 (by have := HF.out.2.size; simp; omega) (fun k hk => (HF.out.1.row.lt k hk).1)
      have ec : w3.cell? ⟨g, o + i, none⟩ = some (.int .u8 x) := by
        have q := HA.out.2.2.2.2 i hlt'
        rw [HX1.out, HO.out.2.cell (p := ⟨g, o + i, none⟩) (World.block_lt_of_cell? _ _ q)]; exact q
      refine hK.out _ _ ec (fun hHeld => ?_)
      clear hK K ec hown' hgrow3 hblk hlt3
      generalize Value.slice (some ⟨g3, 0, none⟩) ((hexI (X.take i)).length + 2) cap3 = v' at *
      refine wpAnyH_take (i := 15) (oi := _) (v := v') rfl (by kernel_rfl) (by kernel_rfl) (by kernel_rfl) (fun _ _ _ h => h) (Or.inl ⟨by rfl, ?_⟩) (by assumption) ?_
      · intro wq hSw
        first | (go_simp; done) | (go_simp; rfl) | (simp [go_sem, *]; done)
      (try simp only [Act.put])
      refine wpAnyH_done (by kernel_rfl) ?_ _
      go_wp2
      go_roundg (n - (i + 1))
      case measure => have := HK.out; omega
      case rel => exact ⟨i + 1, rfl, hlt', by go_num, HO.out.1, HO.out.2⟩
end Go.Proofs.YtidchaaahgnabaaDoor
