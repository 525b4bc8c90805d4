import Derived.Test.YtncpjgpioajbeaaGreatDoorSRWord
import Derived.Deep.AppendLies
/- The document's words of a block. -/
namespace Go.Proofs.YtncpjgpioajbeaaGreatDoor.S
open Go.RowKit Go.Sort

/-- One word more: where the list comes to lie, and that its old place stays where it moves. -/
theorem append_word {B : Nat} {w : World} {v : Value} {X : List (BitVec 32)} {u : BitVec 32} {ty : TypeId} {ad : Addr} {c : Nat} (h : OwW B w v X) (hl : X.length < 1073741824) (hB : B ≤ w.heap.size) (hu : ∀ j x, [Value.int .u32 (U u)][j]? = some x → w.cell? (ad.add j) = some x) :
    ∃ g cap w', (Builtin.append_ #[158, 158] ty #[v, .slice (some ad) 1 c]).run Tryz.prog w = .ok (.slice (some ⟨g, 0, none⟩) (X.length + 1) cap) w' ∧
      OwW B w' (.slice (some ⟨g, 0, none⟩) (X.length + 1) cap) (X ++ [u]) ∧ w.grownBy w' v.ownBlock ∧ (v.ownBlock = some g ∨ (g = w.heap.size ∧ w.grownBy w' Option.none)) := by
  obtain ⟨i0, hi, hz0, hz1, hz2⟩ := info_partsW info_word
  have h1 : ∀ x ∈ [Value.int .u32 (U u)], x.oneCell' = true := fun x hx => by simp at hx; subst hx; rfl
  have eo : ∀ {w' : World} {v' : Value}, w'.ownsRow B 101 1 v' (X.length + 1) (wrds X ++ [.int .u32 (U u)]) → OwW B w' v' (X ++ [u]) := fun {w'} {v'} h => by
    rw [OwW, List.length_append, ← wrds_snoc]; exact h
  obtain ⟨v', w', hr, h2, h3, _, h5⟩ := run_append_own_at (P := Tryz.prog) w B 158 ty 101 i0 (.int .u32 0) 1 4 Tryz.underlying158 hi hz0 hz1 hz2 rfl (by decide) v X.length _ h ad 1 c [.int .u32 (U u)] rfl hu h1 (by unfold maxLen; omega) (by omega) hB
  obtain ⟨g, cap, rfl, _, hlt⟩ := h2.form (by omega)
  refine ⟨g, cap, w', hr, eo h2, h3, ?_⟩
  rcases h.2 with ⟨rfl, h0⟩ | ⟨g0, cap0, cur, rfl, hb, hc, hle, h63, hs, ht⟩
  · right
    refine ⟨?_, h3⟩
    rcases h5 with h5 | h5
    · cases h5
    · exact Option.some.inj h5
  · by_cases hroom : X.length + 1 ≤ cap0
    · left
      obtain ⟨w2, hr2, _, _⟩ := run_append_fits (P := Tryz.prog) w B 158 ty 101 i0 1 Tryz.underlying158 hi hz1 g0 X.length cap0 _ h ad 1 c [.int .u32 (U u)] rfl hu h1 hroom
      replace hr2 := hr.symm.trans hr2
      have e1 := (Result.ok.inj hr2).1
      have e5 : g = g0 := congrArg Addr.block (Option.some.inj (Value.slice.inj e1).1)
      rw [e5]
      rfl
    · right
      have hr2 := run_append_grow (P := Tryz.prog) w 158 ty 101 i0 (.int .u32 0) Tryz.underlying158 hi hz0 ⟨g0, 0, none⟩ X.length cap0 (wrds X) (by rw [hz1, wrds_len]; simp) (World.ownsRow.cells h (g := g0) rfl) ad 1 c [.int .u32 (U u)] (by rw [hz1]; rfl) hu (by omega) (by omega) (by rw [hz2]; exact growslice_fits (by omega) (by omega))
      replace hr2 := hr.symm.trans hr2
      have e1 := (Result.ok.inj hr2).1
      have e5 := congrArg Addr.block (Option.some.inj (Value.slice.inj e1).1)
      refine ⟨e5, ?_⟩
      rw [(Result.ok.inj hr2).2]
      exact ⟨rfl, rfl, rfl, by simp, fun k hk _ => heap_alloc_old w.drew _ hk⟩
/-- The old list's words, and the new one's. -/
theorem OwW.cell {B : Nat} {W : World} {g c : Nat} {L : List (BitVec 32)} (h : OwW B W (.slice (some ⟨g, 0, none⟩) L.length c) L) {j : Nat} (hj : j < L.length) : W.cell? ⟨g, j, none⟩ = some (.int .u32 (U (L.getD j 0))) := by
  rw [World.ownsRow.cellAt h j (by omega), wrds, List.getElem?_map, List.getElem?_eq_getElem hj, List.getD, List.getElem?_eq_getElem hj]; rfl
theorem step_append_word {ops : Array Oper} {o : Oper} {a : Act} {K : Act → World → Prop} {Q : Exit → Act → World → Prop} {E : Prop} {w : World} (hgd : o.guard = Option.none) (s x : Operand)
    (ho : o.op = .call { callee := .builtin .append, args := #[s, x], argTypes := #[158, 158] }) (B : Nat) (v : Value) (X : List (BitVec 32)) (u : BitVec 32) (ad : Addr) (c : Nat) (hs : a.eval s = v) (hx : a.eval x = .slice (some ad) 1 c)
    (h : OwW B w v X) (hl : X.length < 1073741824) (hB : B ≤ w.heap.size) (hu : ∀ j y, [Value.int .u32 (U u)][j]? = some y → w.cell? (ad.add j) = some y)
    (hK0 : ∀ g cap w', OwW B w' (.slice (some ⟨g, 0, none⟩) (X.length + 1) cap) (X ++ [u]) → w.grownBy w' v.ownBlock → (v.ownBlock = some g ∨ (g = w.heap.size ∧ w.grownBy w' Option.none)) → K (a.put o.dst (.slice (some ⟨g, 0, none⟩) (X.length + 1) cap)) w') :
    if Region.wanted o (yielded ops a.tmps) = true then Oper.wp Tryz.prog o a w K Q else E := by
  have hw : Region.wanted o (yielded ops a.tmps) = true := by simp [Region.wanted, hgd]
  rw [if_pos hw]
  obtain ⟨g, cap, w', hr, h2, h3, h4⟩ := append_word (ty := o.type) (c := c) h hl hB hu
  unfold Oper.wp execOp
  simp only [ho, resolve, invoke, builtin, Sem.run_bind, Sem.run_pure, Result.andThen_ok, List.map_toArray, List.map_cons, List.map_nil, hs, hx, hr]
  exact hK0 g cap w' h2 h3 h4
theorem cell_oneW {W : World} {t : TypeId} {v : Value} : ∀ j u, [v][j]? = some u → (W.alloc (.cells #[v] t)).drew.cell? ((⟨W.heap.size, 0, none⟩ : Addr).add j) = some u := fun j u hu => by
  rw [Addr.add_mid, Nat.zero_add]
  show (W.alloc _).cell? _ = _
  rw [World.cell?_alloc_mark]
  simpa using hu

set_option maxRecDepth 100000 in
set_option maxHeartbeats 8000000 in
theorem words_walk {bd od cd : Nat} {B : List (BitVec 8)} {S : List (BitVec 32)} (hl : B.length = 64) (hS : S.length = 64) (h1 : ∀ t, t < 16 → S.getD t 0 = wordAt B t) (h2 : ∀ t, 16 ≤ t → t < 64 → S.getD t 0 = nextW S t) (w : World) (hB : Byo w bd od B) :
    Calls Tryz.prog 166 #[.slice (some ⟨bd, od, none⟩) 64 cd] w fun e w' => (∃ v, e = .returned v ∧ OwW w.heap.size w' v S) ∧ Below w.heap.size w w' := by
  obtain ⟨i0, hi, hz0, hz1, hz2⟩ := info_partsW info_word
  have HA : Hid (B.length = 64 ∧ S.length = 64 ∧ (∀ t, t < 16 → S.getD t 0 = wordAt B t) ∧ (∀ t, 16 ≤ t → t < 64 → S.getD t 0 = nextW S t) ∧ Byo w bd od B) := ⟨hl, hS, h1, h2, hB⟩
  clear hl hS h1 h2 hB
  go_enter Tryz.func166, Tryz.ntmps166
  go_wp2_with fail
  go_loopg [3, 4] 16 (fun k lv iv wr => ∃ (t : Nat), k = 16 - t ∧ t ≤ 16 ∧ iv = .int .i64 (t : Int) ∧ OwW w.heap.size wr lv (S.take t) ∧ Below w.heap.size w wr)
  case atStart => exact ⟨0, rfl, by decide, rfl, OwW.nil, Below.refl _ _⟩
  case round =>
    obtain ⟨t, hk, ht, rfl, hown, Bw⟩ := hrel
    have HK : Hid (gk = 16 - t) := hk
    have HF : Hid (OwW w.heap.size wr u3 (S.take t) ∧ Below w.heap.size w wr) := ⟨hown, Bw⟩
    clear hk hown Bw
    by_cases h8 : t = 16
    · subst h8
      have HF2 : Hid (OwW w.heap.size wr u3 (S.take 16) ∧ Below w.heap.size w wr) := HF
      clear HF
      go_wp2_with fail
      go_loopg [3, 5] 48 (fun k lv iv wr => ∃ (t : Nat), k = 64 - t ∧ 16 ≤ t ∧ t ≤ 64 ∧ iv = .int .i64 (t : Int) ∧ OwW w.heap.size wr lv (S.take t) ∧ Below w.heap.size w wr)
      case atStart => exact ⟨16, rfl, by decide, by decide, rfl, HF2.out.1, HF2.out.2⟩
      case round =>
        clear HF2 HK
        obtain ⟨t, hk, t16, ht, rfl, hown, Bw⟩ := hrel
        have HK : Hid (gk = 64 - t) := hk
        clear hk
        by_cases h8 : t = 64
        · subst h8
          have HF : Hid (OwW w.heap.size wr u3 (S.take 64) ∧ Below w.heap.size w wr) := ⟨hown, Bw⟩
          have HR : Hid (S.take 64 = S) := by rw [← HA.out.2.1]; exact List.take_length
          clear hown Bw t16 ht
          go_wp2
          go_ret
          exact ⟨⟨_, rfl, by have h := HF.out.1; rw [HR.out] at h; exact h⟩, HF.out.2⟩
        · have tl : (S.take t).length = t := by rw [List.length_take, HA.out.2.1]; omega
          obtain ⟨g, c, rfl⟩ : ∃ g c, u3 = .slice (some ⟨g, 0, none⟩) t c := by
            rcases hown.2 with ⟨e, hx⟩ | ⟨g, cap, cur, e, _⟩
            · exfalso; rw [tl] at hx; omega
            · exact ⟨g, cap, by rw [tl] at e; exact e⟩
          have HF : Hid (OwW w.heap.size wr (.slice (some ⟨g, 0, none⟩) t c) (S.take t) ∧ Below w.heap.size w wr) := ⟨hown, Bw⟩
          have cl : ∀ j, j < t → wr.cell? ⟨g, j, none⟩ = some (.int .u32 (U (S.getD j 0))) := fun j hj => by
            have ho := hown
            rw [← tl] at ho
            have h := OwW.cell (L := S.take t) (by rw [tl] at ho ⊢; exact ho) (j := j) (by omega)
            rw [h, List.getD, List.getElem?_take_of_lt hj, ← List.getD]
          have ga := cl (t - 15) (by omega)
          have gb := cl (t - 2) (by omega)
          have gc := cl (t - 7) (by omega)
          have gd := cl (t - 16) (by omega)
          have NX : Hid (S.take (t + 1) = S.take t ++ [nextW S t]) := (by rw [take_snocW (by rw [HA.out.2.1]; omega), HA.out.2.2.2.1 t t16 (by omega)] : S.take (t + 1) = S.take t ++ [nextW S t])
          have LR : Hid ((S.take t).length = t ∧ t < 64 ∧ 16 ≤ t) := ⟨tl, by omega, t16⟩
          have ea : ((t : Int) - 15).toNat = t - 15 := by omega
          have eb : ((t : Int) - 2).toNat = t - 2 := by omega
          have ec : ((t : Int) - 7).toNat = t - 7 := by omega
          have ed : ((t : Int) - 16).toNat = t - 16 := by omega
          have i1 : (t : Int) < 64 := by omega
          have i2 : (16 : Int) ≤ (t : Int) := by omega
          unfold nextW at NX
          generalize S.getD (t - 15) 0 = a at *
          generalize S.getD (t - 2) 0 = b at *
          generalize S.getD (t - 7) 0 = cc at *
          generalize S.getD (t - 16) 0 = dd at *
          clear cl tl hown Bw ht t16 h8
          go_wp2_with fail
          refine (turned_any a (n := 7) rfl (by decide) (by decide) _).mono ?_
          rintro e wa ⟨rfl, hb⟩
          replace HF : Hid (OwW w.heap.size wa (.slice (some ⟨g, 0, none⟩) t c) (S.take t) ∧ Below w.heap.size w wa) := ⟨HF.out.1.keep hb, HF.out.2.trans (hb.mono HF.out.2.size)⟩
          replace ga := cell_keep hb ga; replace gb := cell_keep hb gb; replace gc := cell_keep hb gc; replace gd := cell_keep hb gd
          clear hb
          go_wp2_with fail
          refine (turned_any a (n := 18) rfl (by decide) (by decide) _).mono ?_
          rintro e wb ⟨rfl, hb⟩
          replace HF : Hid (OwW w.heap.size wb (.slice (some ⟨g, 0, none⟩) t c) (S.take t) ∧ Below w.heap.size w wb) := ⟨HF.out.1.keep hb, HF.out.2.trans (hb.mono HF.out.2.size)⟩
          replace ga := cell_keep hb ga; replace gb := cell_keep hb gb; replace gc := cell_keep hb gc; replace gd := cell_keep hb gd
          clear hb
          have x1 := U_xor (rotr a 7) (rotr a 18)
          have x2 : bits .xor .u32 (U (rotr a 7 ^^^ rotr a 18)) (U a / 8) = U (sml a 7 18 3) := by
            have h := U_shr a 3
            rw [show (2 : Int) ^ 3 = 8 by decide] at h
            rw [h, U_xor, sml]
          go_wp2_with fail
          refine (turned_any b (n := 17) rfl (by decide) (by decide) _).mono ?_
          rintro e wc ⟨rfl, hb⟩
          replace HF : Hid (OwW w.heap.size wc (.slice (some ⟨g, 0, none⟩) t c) (S.take t) ∧ Below w.heap.size w wc) := ⟨HF.out.1.keep hb, HF.out.2.trans (hb.mono HF.out.2.size)⟩
          replace ga := cell_keep hb ga; replace gb := cell_keep hb gb; replace gc := cell_keep hb gc; replace gd := cell_keep hb gd
          clear hb
          go_wp2_with fail
          refine (turned_any b (n := 19) rfl (by decide) (by decide) _).mono ?_
          rintro e we ⟨rfl, hb⟩
          replace HF : Hid (OwW w.heap.size we (.slice (some ⟨g, 0, none⟩) t c) (S.take t) ∧ Below w.heap.size w we) := ⟨HF.out.1.keep hb, HF.out.2.trans (hb.mono HF.out.2.size)⟩
          replace gc := cell_keep hb gc; replace gd := cell_keep hb gd
          clear hb ga gb
          have x3 := U_xor (rotr b 17) (rotr b 19)
          have x4 : bits .xor .u32 (U (rotr b 17 ^^^ rotr b 19)) (U b / 1024) = U (sml b 17 19 10) := by
            have h := U_shr b 10
            rw [show (2 : Int) ^ 10 = 1024 by decide] at h
            rw [h, U_xor, sml]
          clear wa wb wc wr
          go_wp2_with fail
          generalize sml a 7 18 3 = s0 at *
          generalize sml b 17 19 10 = s1 at *
          have p1 := U_add s1 cc
          have p2 := U_add (s1 + cc) s0
          have p3 := U_add (s1 + cc + s0) dd
          have w1 : IntKind.i64.wrap ((t : Int) - 7) = (t : Int) - 7 := by rw [IntKind.wrap_i64]; omega
          have w2 : IntKind.i64.wrap ((t : Int) - 16) = (t : Int) - 16 := by rw [IntKind.wrap_i64]; omega
          have k1 : 0 ≤ (t : Int) - 7 := by omega
          have k5 : ¬ ((t : Int) < 7) := by omega
          have k6 : ¬ ((t : Int) < 16) := by omega
          have k2 : (t : Int) - 7 < (t : Int) := by omega
          have k3 : 0 ≤ (t : Int) - 16 := by omega
          have k4 : (t : Int) - 16 < (t : Int) := by omega
          refine wp_region_held_drew (S := fun w' => w'.cell? ⟨g, t - 7, none⟩ = some (.int .u32 (U cc)) ∧ w'.cell? ⟨g, t - 16, none⟩ = some (.int .u32 (U dd))) (by kernel_rfl) ⟨gc, gd⟩ (fun hHeld => ?_)
          refine wpAnyH_take (i := 0) (oi := _) (v := .slice (some ⟨g, 0, none⟩) t c) rfl (by kernel_rfl) (by kernel_rfl) (by kernel_rfl) (fun _ _ _ h => h) (Or.inl ⟨by rfl, ?_⟩) (by assumption) ?_
          · intro wq hSw; obtain ⟨hq1, hq2⟩ := hSw
            first | (go_simp; done) | (go_simp; rfl) | (simp [go_sem, *]; done)
          (try simp only [Act.put, List.setIfInBounds_toArray])
          refine wpAnyH_take (i := 1) (oi := _) (v := .int .u32 (U s1)) rfl (by kernel_rfl) (by kernel_rfl) (by kernel_rfl) (fun _ _ _ h => h) (Or.inl ⟨by rfl, ?_⟩) (by assumption) ?_
          · intro wq hSw; obtain ⟨hq1, hq2⟩ := hSw
            first | (go_simp; done) | (go_simp; rfl) | (simp [go_sem, *]; done)
          (try simp only [Act.put])
          refine wpAnyH_take (i := 2) (oi := _) (v := .slice (some ⟨g, 0, none⟩) t c) rfl (by kernel_rfl) (by kernel_rfl) (by kernel_rfl) (fun _ _ _ h => h) (Or.inl ⟨by rfl, ?_⟩) (by assumption) ?_
          · intro wq hSw; obtain ⟨hq1, hq2⟩ := hSw
            first | (go_simp; done) | (go_simp; rfl) | (simp [go_sem, *]; done)
          (try simp only [Act.put])
          refine wpAnyH_take (i := 3) (oi := _) (v := .int .i64 (t : Int)) rfl (by kernel_rfl) (by kernel_rfl) (by kernel_rfl) (fun _ _ _ h => h) (Or.inl ⟨by rfl, ?_⟩) (by assumption) ?_
          · intro wq hSw; obtain ⟨hq1, hq2⟩ := hSw
            first | (go_simp; done) | (go_simp; rfl) | (simp [go_sem, *]; done)
          (try simp only [Act.put])
          refine wpAnyH_take (i := 4) (oi := _) (v := .int .i64 ((t : Int) - 7)) rfl (by kernel_rfl) (by kernel_rfl) (by kernel_rfl) (fun _ _ _ h => h) (Or.inl ⟨by rfl, ?_⟩) (by assumption) ?_
          · intro wq hSw; obtain ⟨hq1, hq2⟩ := hSw
            first | (go_simp; done) | (go_simp; rfl) | (simp [go_sem, *]; done)
          (try simp only [Act.put])
          refine wpAnyH_take (i := 5) (oi := _) (v := .pointer (some ⟨g, t - 7, none⟩)) rfl (by kernel_rfl) (by kernel_rfl) (by kernel_rfl) (fun _ _ _ h => h) (Or.inl ⟨by rfl, ?_⟩) (by assumption) ?_
          · intro wq hSw; obtain ⟨hq1, hq2⟩ := hSw
            first | (go_simp; done) | (go_simp; rfl) | (simp [go_sem, *]; done)
          (try simp only [Act.put])
          refine wpAnyH_take (i := 6) (oi := _) (v := .int .u32 (U cc)) rfl (by kernel_rfl) (by kernel_rfl) (by kernel_rfl) (fun _ _ _ h => h) (Or.inl ⟨by rfl, ?_⟩) (by assumption) ?_
          · intro wq hSw; obtain ⟨hq1, hq2⟩ := hSw
            first | (go_simp; done) | (go_simp; rfl) | (simp [go_sem, *]; done)
          (try simp only [Act.put])
          refine wpAnyH_take (i := 7) (oi := _) (v := .int .u32 (U (s1 + cc))) rfl (by kernel_rfl) (by kernel_rfl) (by kernel_rfl) (fun _ _ _ h => h) (Or.inl ⟨by rfl, ?_⟩) (by assumption) ?_
          · intro wq hSw; obtain ⟨hq1, hq2⟩ := hSw
            first | (go_simp; done) | (go_simp; rfl) | (simp [go_sem, *]; done)
          (try simp only [Act.put])
          refine wpAnyH_take (i := 8) (oi := _) (v := .int .u32 (U s0)) rfl (by kernel_rfl) (by kernel_rfl) (by kernel_rfl) (fun _ _ _ h => h) (Or.inl ⟨by rfl, ?_⟩) (by assumption) ?_
          · intro wq hSw; obtain ⟨hq1, hq2⟩ := hSw
            first | (go_simp; done) | (go_simp; rfl) | (simp [go_sem, *]; done)
          (try simp only [Act.put])
          refine wpAnyH_take (i := 9) (oi := _) (v := .int .u32 (U (s1 + cc + s0))) rfl (by kernel_rfl) (by kernel_rfl) (by kernel_rfl) (fun _ _ _ h => h) (Or.inl ⟨by rfl, ?_⟩) (by assumption) ?_
          · intro wq hSw; obtain ⟨hq1, hq2⟩ := hSw
            first | (go_simp; done) | (go_simp; rfl) | (simp [go_sem, *]; done)
          (try simp only [Act.put])
          refine wpAnyH_take (i := 10) (oi := _) (v := .slice (some ⟨g, 0, none⟩) t c) rfl (by kernel_rfl) (by kernel_rfl) (by kernel_rfl) (fun _ _ _ h => h) (Or.inl ⟨by rfl, ?_⟩) (by assumption) ?_
          · intro wq hSw; obtain ⟨hq1, hq2⟩ := hSw
            first | (go_simp; done) | (go_simp; rfl) | (simp [go_sem, *]; done)
          (try simp only [Act.put])
          refine wpAnyH_take (i := 11) (oi := _) (v := .int .i64 (t : Int)) rfl (by kernel_rfl) (by kernel_rfl) (by kernel_rfl) (fun _ _ _ h => h) (Or.inl ⟨by rfl, ?_⟩) (by assumption) ?_
          · intro wq hSw; obtain ⟨hq1, hq2⟩ := hSw
            first | (go_simp; done) | (go_simp; rfl) | (simp [go_sem, *]; done)
          (try simp only [Act.put])
          refine wpAnyH_take (i := 12) (oi := _) (v := .int .i64 ((t : Int) - 16)) rfl (by kernel_rfl) (by kernel_rfl) (by kernel_rfl) (fun _ _ _ h => h) (Or.inl ⟨by rfl, ?_⟩) (by assumption) ?_
          · intro wq hSw; obtain ⟨hq1, hq2⟩ := hSw
            first | (go_simp; done) | (go_simp; rfl) | (simp [go_sem, *]; done)
          (try simp only [Act.put])
          refine wpAnyH_take (i := 13) (oi := _) (v := .pointer (some ⟨g, t - 16, none⟩)) rfl (by kernel_rfl) (by kernel_rfl) (by kernel_rfl) (fun _ _ _ h => h) (Or.inl ⟨by rfl, ?_⟩) (by assumption) ?_
          · intro wq hSw; obtain ⟨hq1, hq2⟩ := hSw
            first | (go_simp; done) | (go_simp; rfl) | (simp [go_sem, *]; done)
          (try simp only [Act.put])
          refine wpAnyH_take (i := 14) (oi := _) (v := .int .u32 (U dd)) rfl (by kernel_rfl) (by kernel_rfl) (by kernel_rfl) (fun _ _ _ h => h) (Or.inl ⟨by rfl, ?_⟩) (by assumption) ?_
          · intro wq hSw; obtain ⟨hq1, hq2⟩ := hSw
            first | (go_simp; done) | (go_simp; rfl) | (simp [go_sem, *]; done)
          (try simp only [Act.put])
          refine wpAnyH_take (i := 15) (oi := _) (v := .int .u32 (U (s1 + cc + s0 + dd))) rfl (by kernel_rfl) (by kernel_rfl) (by kernel_rfl) (fun _ _ _ h => h) (Or.inl ⟨by rfl, ?_⟩) (by assumption) ?_
          · intro wq hSw; obtain ⟨hq1, hq2⟩ := hSw
            first | (go_simp; done) | (go_simp; rfl) | (simp [go_sem, *]; done)
          (try simp only [Act.put])
          refine wpAnyH_ready (rs := [16]) (by kernel_rfl) (by simp) ?_
          refine AllReadyH.cons rfl (fun K hK => ?_) AllReadyH.nil
          go_simp
          have HB : Hid (Below we.heap.size we (we.alloc (.cells #[.int .u32 (U (s1 + cc + s0 + dd))] 101)).drew) := ((Below.refl _ _).alloc (Nat.le_refl _) _).drew
          refine hK.out _ _ ⟨cell_keep HB.out gc, cell_keep HB.out gd⟩ (fun hHeld => ?_)
          clear hK K
          refine wpAnyH_ready (rs := [17]) (by kernel_rfl) (by simp) ?_
          refine AllReadyH.cons rfl (fun K hK => ?_) AllReadyH.nil
          refine step_append_word rfl _ _ rfl w.heap.size (.slice (some ⟨g, 0, none⟩) t c) (S.take t) (s1 + cc + s0 + dd) ⟨we.heap.size, 0, none⟩ 1 rfl rfl (HF.out.1.keep HB.out) (by have := LR.out; omega) (by have := HF.out.2.size; simp; omega) cell_oneW ?_
          intro g3 cap3 w3 hown' hgrow3 hblk
          have HO : Hid (OwW w.heap.size w3 (.slice (some ⟨g3, 0, none⟩) ((S.take t).length + 1) cap3) (S.take (t + 1)) ∧ Below w.heap.size w w3) := by
            refine ⟨by rw [NX.out]; exact hown', ?_⟩
            exact (HF.out.2.trans (HB.out.mono HF.out.2.size)).grown hgrow3 (by have := HF.out.2.size; simp; omega) (fun k hk => (World.ownsRow.lt HF.out.1 k hk).1)
          have ec : ∀ j, j < t → ∀ z, we.cell? ⟨g, j, none⟩ = some z → w3.cell? ⟨g, j, none⟩ = some z := fun j hj z hz => by
            rcases hblk with e | ⟨_, hg⟩
            · have eg : g = g3 := Option.some.inj e
              subst eg
              have lq : (S.take (t + 1)).length = (S.take t).length + 1 := by rw [NX.out]; simp
              have ho1 := HO.out.1
              have ho2 := HF.out.1
              rw [OwW, lq] at ho1
              rw [OwW, LR.out.1] at ho2
              have h1 := World.ownsRow.cellAt ho1 j (by rw [LR.out.1]; omega)
              have h2 := World.ownsRow.cellAt ho2 j (by omega)
              rw [h1, NX.out, ← wrds_snoc, List.getElem?_append_left (by rw [wrds_len, LR.out.1]; exact hj), ← h2]
              exact hz
            · have h := cell_keep HB.out hz
              rw [World.grownBy.cell_far hg ⟨g, j, none⟩ (World.block_lt_of_cell? _ _ h) (by simp)]
              exact h
          refine hK.out _ _ ⟨ec (t - 7) (by have := LR.out; omega) _ gc, ec (t - 16) (by have := LR.out; omega) _ gd⟩ (fun hHeld => ?_)
          clear hK K ec hown' hgrow3 hblk
          generalize Value.slice (some ⟨g3, 0, none⟩) ((S.take t).length + 1) cap3 = v' at *
          refine wpAnyH_take (i := 18) (oi := _) (v := v') rfl (by kernel_rfl) (by kernel_rfl) (by kernel_rfl) (fun _ _ _ h => h) (Or.inl ⟨by rfl, ?_⟩) (by assumption) ?_
          · intro wq hSw
            first | (go_simp; done) | (go_simp; rfl) | (simp [go_sem, *]; done)
          (try simp only [Act.put])
          refine wpAnyH_done (by kernel_rfl) ?_ _
          go_wp2
          go_roundg (64 - (t + 1))
          case measure => have := HK.out; have := LR.out; omega
          case rel => exact ⟨t + 1, rfl, by have := LR.out; omega, by have := LR.out; omega, by go_num, HO.out.1, HO.out.2⟩
    · have hlt : t < 16 := by omega
      have hlt' : (t : Int) < 16 := by omega
      have bb : Byo wr bd od B := fun j hj => by
        have h := HA.out.2.2.2.2 j hj
        rw [HF.out.2.cell (p := ⟨bd, od + j, none⟩) (World.block_lt_of_cell? w _ h)]; exact h
      go_wp2_with fail
      refine (word_any HA.out.1 hlt _ bb).mono ?_
      rw [← HA.out.2.2.1 t hlt]
      rintro e w2 ⟨rfl, hb⟩
      have HJ : Hid (OwW w.heap.size w2 u3 (S.take t) ∧ Below w.heap.size w w2) := ⟨HF.out.1.keep hb, HF.out.2.trans (hb.mono HF.out.2.size)⟩
      have NX : Hid (S.take (t + 1) = S.take t ++ [S.getD t 0]) := take_snocW (by rw [HA.out.2.1]; omega)
      have LR : Hid ((S.take t).length = t ∧ t < 16) := ⟨by rw [List.length_take, HA.out.2.1]; omega, hlt⟩
      generalize S.getD t 0 = x at *
      clear hb HF bb wr
      go_wp2_with ((at_builtin; go_loud (refine wpList_append_own_at _ rfl _ _ 158 rfl w.heap.size 101 i0 (.int .u32 0) 1 4 Tryz.underlying158 hi hz0 hz1 hz2 rfl (by decide) u3 _ _ rfl (World.ownsRow.alloc HJ.out.1 _) ⟨w2.heap.size, 0, none⟩ 1 1 [.int .u32 (U x)] rfl rfl (cell_one_new _ _ _) (fun u hu => by simp at hu; subst hu; rfl) (by unfold maxLen; have := LR.out; omega) (by have := LR.out; omega) (by have := HJ.out.2.size; simp; omega) ?_); intro v' w3 hown' hgrow3 hnil3 hblk))
      have HO : Hid (OwW w.heap.size w3 v' (S.take (t + 1)) ∧ Below w.heap.size w w3) := by
        refine ⟨?_, ?_⟩
        · rw [NX.out, OwW, List.length_append, ← wrds_snoc]
          exact hown'
        · exact (HJ.out.2.alloc HJ.out.2.size _).grown hgrow3 (by have := HJ.out.2.size; simp; omega) (fun k hk => (World.ownsRow.lt HJ.out.1 k hk).1)
      clear hown' hgrow3 hnil3 hblk
      go_roundg (16 - (t + 1))
      case measure => have := HK.out; omega
      case rel => exact ⟨t + 1, rfl, by omega, by go_num, HO.out.1, HO.out.2⟩
end Go.Proofs.YtncpjgpioajbeaaGreatDoor.S
