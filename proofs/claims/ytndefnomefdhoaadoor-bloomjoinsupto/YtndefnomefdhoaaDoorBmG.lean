import Derived.Test.YtndefnomefdhoaaDoorBmT
/- BloomJoins: the law. -/
namespace Go.Proofs.YtndefnomefdhoaaDoor
open Go.RowKit Go.Sort

set_option maxRecDepth 100000 in
set_option maxHeartbeats 32000000 in
theorem joins_any {a a' : Option Addr} {bp op cp bq oq cq : Nat} {PA PB : List Part} (hsA : ∀ p ∈ PA, p.X.length < 140737488355328) (hsB : ∀ p ∈ PB, p.X.length < 140737488355328) (hnA : PA.length < 1073741824) (hnB : PB.length < 1073741824) (haA : PA = [] ∨ a = some ⟨bp, op, none⟩) (haB : PB = [] ∨ a' = some ⟨bq, oq, none⟩) (w : World) (hPA : Prts w bp op PA) (hPB : Prts w bq oq PB) (hk : KtB w) :
    Calls Tryd.prog 4 #[.slice a PA.length cp, .slice a' PB.length cq] w fun e w' => e = .returned (.bool true) ∧ Below w.heap.size w w' := by
  have HH : Hid ((∀ p ∈ PA, p.X.length < 140737488355328) ∧ (∀ p ∈ PB, p.X.length < 140737488355328) ∧ PA.length < 1073741824 ∧ PB.length < 1073741824 ∧ (PA = [] ∨ a = some ⟨bp, op, none⟩) ∧ (PB = [] ∨ a' = some ⟨bq, oq, none⟩) ∧ KtB w) := ⟨hsA, hsB, hnA, hnB, haA, haB, hk⟩
  have KA : Hid (∀ W, Below w.heap.size w W → Prts W bp op PA) := fun W B i hi => by
    obtain ⟨h1, h2, h3, h4⟩ := hPA i hi
    exact ⟨cell_keep B h1, h2, h3, h4.keep B⟩
  have KB : Hid (∀ W, Below w.heap.size w W → Prts W bq oq PB) := fun W B i hi => by
    obtain ⟨h1, h2, h3, h4⟩ := hPB i hi
    exact ⟨cell_keep B h1, h2, h3, h4.keep B⟩
  have na : (PA.length : Int) < 1073741824 := by omega
  have nb : (PB.length : Int) < 1073741824 := by omega
  obtain ⟨i1, hi, hz0, hz1, hz2⟩ := info_parts info_bytesT
  have HZ : Hid (Tryd.prog.info? 28 = some i1 ∧ i1.zero = some (.slice none 0 0) ∧ i1.size = 1 ∧ i1.bytes = 24) := ⟨hi, hz0, hz1, hz2⟩
  clear hsA hsB hnA hnB haA haB hPA hPB hk hi hz0 hz1 hz2
  go_enter Tryd.func4, Tryd.ntmps4
  go_wp2_with fail
  refine (of_any HH.out.1 (by have := HH.out.2.2.1; omega) HH.out.2.2.2.2.1 w (KA.out w (Below.refl _ _)) HH.out.2.2.2.2.2.2).mono ?_
  rintro e w1 ⟨rfl, hb⟩
  have S1 : Hid (Below w.heap.size w w1) := hb
  obtain ⟨X, hX⟩ : ∃ X, X = ofF (PA.map (·.X)) := ⟨_, rfl⟩
  have LX : Hid (X = ofF (PA.map (·.X)) ∧ X.length = 256) := ⟨hX, by rw [hX]; exact ofF_len _⟩
  rw [← hX]
  clear hX hb
  have icX := size_bloom LX.out.2
  have iaX := size_bloomA LX.out.2
  have ocX := one_byts X
  have szX : (byts X).toArray.size = 256 := by rw [List.size_toArray, byts_len, LX.out.2]
  have THX : ∀ t, (w1.alloc (.cells (byts zF).toArray t)).there w1.heap.size 0 (byts X).toArray.size := fun t => by rw [szX]; exact (Blm.new zF_len t rfl).there
  have W2' : ∀ t, Hid (Below w.heap.size w ((w1.alloc (.cells (byts zF).toArray t)).setCells w1.heap.size 0 (byts X)) ∧ Blm ((w1.alloc (.cells (byts zF).toArray t)).setCells w1.heap.size 0 (byts X)) w1.heap.size X) := fun t => ⟨below_setCells S1.out.size _ 0 _ (S1.out.alloc S1.out.size _), (Blm.new zF_len t rfl).stored LX.out.2⟩
  go_wp2_with (first | refine wpList_alloc_zero rfl 24 rfl _ zero_bloom ?_ | (refine wpList_store_mid rfl 24 _ _ rfl w1.heap.size 0 _ rfl rfl (THX _) iaX ocX ?_; refine wpList_world (fun W => Below w.heap.size w W ∧ Blm W w1.heap.size X) (W2' _).out ?_; clear W2' THX; rintro W2 h2; have S2 : Hid (Below w.heap.size w W2 ∧ Blm W2 w1.heap.size X) := h2; clear h2))
  have O5 : Hid (w.heap.size ≤ w1.heap.size) := S1.out.size
  clear S1
  generalize w1.heap.size = b5 at *
  refine (of_any HH.out.2.1 (by have := HH.out.2.2.2.1; omega) HH.out.2.2.2.2.2.1 W2 (KB.out W2 S2.out.1) (HH.out.2.2.2.2.2.2.keep S2.out.1)).mono ?_
  rintro e w3 ⟨rfl, hb⟩
  have S3 : Hid (Below w.heap.size w w3 ∧ Blm w3 b5 X) := ⟨S2.out.1.trans (hb.mono S2.out.1.size), S2.out.2.keep hb⟩
  obtain ⟨Z, hZ'⟩ : ∃ Z, Z = ofF (PB.map (·.X)) := ⟨_, rfl⟩
  have LZ : Hid (Z = ofF (PB.map (·.X)) ∧ Z.length = 256) := ⟨hZ', by rw [hZ']; exact ofF_len _⟩
  rw [← hZ']
  clear hZ' hb S2
  have icZ := size_bloom LZ.out.2
  have iaZ := size_bloomA LZ.out.2
  have ocZ := one_byts Z
  have szZ : (byts Z).toArray.size = 256 := by rw [List.size_toArray, byts_len, LZ.out.2]
  have THZ : ∀ t, (w3.alloc (.cells (byts zF).toArray t)).there w3.heap.size 0 (byts Z).toArray.size := fun t => by rw [szZ]; exact (Blm.new zF_len t rfl).there
  have W4' : ∀ t, Hid (Below w.heap.size w ((w3.alloc (.cells (byts zF).toArray t)).setCells w3.heap.size 0 (byts Z)) ∧ Blm ((w3.alloc (.cells (byts zF).toArray t)).setCells w3.heap.size 0 (byts Z)) b5 X ∧ Blm ((w3.alloc (.cells (byts zF).toArray t)).setCells w3.heap.size 0 (byts Z)) w3.heap.size Z) := fun t => ⟨below_setCells S3.out.1.size _ 0 _ (S3.out.1.alloc S3.out.1.size _), (S3.out.2.alloc _).otherCells (Nat.ne_of_gt S3.out.2.lt) _, (Blm.new zF_len t rfl).stored LZ.out.2⟩
  go_wp2_with (first | refine wpList_alloc_zero rfl 24 rfl _ zero_bloom ?_ | (refine wpList_store_mid rfl 24 _ _ rfl w3.heap.size 0 _ rfl rfl (THZ _) iaZ ocZ ?_; refine wpList_world (fun W => Below w.heap.size w W ∧ Blm W b5 X ∧ Blm W w3.heap.size Z) (W4' _).out ?_; clear W4' THZ; rintro W4 h4; have S4 : Hid (Below w.heap.size w W4 ∧ Blm W4 b5 X ∧ Blm W4 w3.heap.size Z) := h4; clear h4))
  have O6 : Hid (b5 < w3.heap.size ∧ w.heap.size ≤ w3.heap.size) := ⟨S3.out.2.lt, S3.out.1.size⟩
  clear S3
  generalize w3.heap.size = b6 at *
  obtain ⟨base, hbase⟩ : ∃ base, base = W4.heap.size := ⟨_, rfl⟩
  have HB : Hid (base = W4.heap.size ∧ b6 < base) := ⟨hbase, by rw [hbase]; exact S4.out.2.2.lt⟩
  clear hbase
  go_loopg [7, 8] PB.length (fun kk lv iv wr => ∃ (j : Nat) (TS : List Part), kk = PB.length - j ∧ j ≤ PB.length ∧ iv = .int .i64 ((PB.length : Int) - 1 - j) ∧ TS.length = 2 * j ∧ (∀ p ∈ TS, p ∈ PB) ∧ (∀ k, PB.length - j ≤ k → k < PB.length → PB.getD k .none ∈ TS) ∧ Below w.heap.size w wr ∧ Blm wr b5 X ∧ Blm wr b6 Z ∧ OwV base wr lv TS ∧ base ≤ wr.heap.size)
  case atStart => exact ⟨0, [], rfl, Nat.zero_le _, by simp, rfl, (fun p hp => nomatch hp), (fun k h1 h2 => absurd h1 (by omega)), S4.out.1, S4.out.2.1, S4.out.2.2, ⟨rfl, .inl ⟨rfl, rfl⟩⟩, by rw [HB.out.1]; exact Nat.le_refl _⟩
  case round =>
    clear S4
    obtain ⟨j, TS, hkk, hj, rfl, hT, hin, hall, hR⟩ := hrel
    have HK : Hid (gk = PB.length - j) := hkk
    have HT : Hid (TS.length = 2 * j ∧ (∀ p ∈ TS, p ∈ PB) ∧ (∀ k, PB.length - j ≤ k → k < PB.length → PB.getD k .none ∈ TS)) := ⟨hT, hin, hall⟩
    have SR : Hid (Below w.heap.size w wr ∧ Blm wr b5 X ∧ Blm wr b6 Z ∧ OwV base wr u7 TS ∧ base ≤ wr.heap.size) := hR
    clear hkk hT hin hall hR
    by_cases h8 : j < PB.length
    · have hj0 : (0 : Int) ≤ (PB.length : Int) - 1 - j := by omega
      obtain ⟨k, hkd⟩ : ∃ k, k = PB.length - 1 - j := ⟨_, rfl⟩
      have KD : Hid (k = PB.length - 1 - j ∧ k < PB.length ∧ j < PB.length) := ⟨hkd, by omega, h8⟩
      have ek : (PB.length : Int) - 1 - j = (k : Int) := by omega
      rw [ek]
      have klt : (k : Int) < (PB.length : Int) := by omega
      have BD : Hid (TS.length < 2147483648) := show TS.length < 2147483648 by have := HT.out.1; have := HH.out.2.2.2.1; omega
      obtain rfl : a' = some ⟨bq, oq, none⟩ := by
        rcases HH.out.2.2.2.2.2.1 with e | e
        · rw [e] at h8; simp at h8
        · exact e
      obtain ⟨p, hp⟩ : ∃ p, p = PB.getD k .none := ⟨_, rfl⟩
      have HP : Hid (p = PB.getD k .none ∧ p ∈ PB) := ⟨hp, by rw [hp, List.getD, List.getElem?_eq_getElem KD.out.2.1]; exact List.getElem_mem KD.out.2.1⟩
      have CK : Hid (∀ W, Below w.heap.size w W → W.cell? ⟨bq, oq + k, none⟩ = some (.slice p.a p.X.length p.c)) := fun W B => by rw [hp]; exact (KB.out W B k KD.out.2.1).1
      have NX : Hid (∀ v' w8, w8.ownsRow base 28 1 v' (TS.length + 2) (TS.map Part.val ++ [.slice p.a p.X.length p.c, .slice p.a p.X.length p.c]) → World.grownBy (wr.drew.alloc (.cells #[.slice p.a p.X.length p.c, .slice p.a p.X.length p.c] 28)) w8 u7.ownBlock → Below w.heap.size w w8 ∧ Blm w8 b5 X ∧ Blm w8 b6 Z ∧ OwV base w8 v' (TS ++ [p, p]) ∧ base ≤ w8.heap.size) := fun v' w8 hown hg => by
        have own0 : ∀ q, u7.ownBlock = some q → base ≤ q := fun q hq => (World.ownsRow.lt SR.out.2.2.2.1 q hq).1
        have h6 := HB.out.2
        have h5 := O6.out
        refine ⟨((SR.out.1.drew).alloc SR.out.1.size _).grown hg (by have := SR.out.1.size; simp; omega) (fun q hq => by have := own0 q hq; omega), ?_, ?_, ?_, Nat.le_trans SR.out.2.2.2.2 (Nat.le_trans (by simp) hg.size)⟩
        · exact (SR.out.2.1.drew.alloc _).grownBy hg (fun e => by have := own0 _ e.symm; omega)
        · exact (SR.out.2.2.1.drew.alloc _).grownBy hg (fun e => by have := own0 _ e.symm; omega)
        · rw [OwV, List.length_append, List.map_append]; exact hown
      clear hp hkd h8 hj0
      go_wp2_with fail
      refine wp_region_held_drew (S := fun w' => w'.cell? ⟨bq, oq + k, none⟩ = some (.slice p.a p.X.length p.c)) (by kernel_rfl) (CK.out _ SR.out.1.drew) (fun hHeld => ?_)
      refine wpAnyH_takeD (i := 0) (oi := _) (v := u7) 24 rfl (by kernel_rfl) (by kernel_rfl) (by kernel_rfl) (by kernel_rfl) (fun _ _ _ h => h) (Or.inl ⟨by kernel_rfl, ?_⟩) (by assumption) ?_
      · intro wq hSw
        first | (go_simp; done) | (go_simp; rfl)
      simp only [Act.put, List.setIfInBounds_toArray, List.set_cons_succ, List.set_cons_zero]
      refine wpAnyH_takeD (i := 1) (oi := _) (v := .slice (some ⟨bq, oq, none⟩) PB.length cq) 25 rfl (by kernel_rfl) (by kernel_rfl) (by kernel_rfl) (by kernel_rfl) (fun _ _ _ h => h) (Or.inl ⟨by kernel_rfl, ?_⟩) (by assumption) ?_
      · intro wq hSw
        first | (go_simp; done) | (go_simp; rfl)
      simp only [Act.put, List.setIfInBounds_toArray, List.set_cons_succ, List.set_cons_zero]
      refine wpAnyH_takeD (i := 2) (oi := _) (v := .int .i64 (k : Int)) 26 rfl (by kernel_rfl) (by kernel_rfl) (by kernel_rfl) (by kernel_rfl) (fun _ _ _ h => h) (Or.inl ⟨by kernel_rfl, ?_⟩) (by assumption) ?_
      · intro wq hSw
        first | (go_simp; done) | (go_simp; rfl)
      simp only [Act.put, List.setIfInBounds_toArray, List.set_cons_succ, List.set_cons_zero]
      refine wpAnyH_takeD (i := 3) (oi := _) (v := .pointer (some ⟨bq, oq + k, none⟩)) 27 rfl (by kernel_rfl) (by kernel_rfl) (by kernel_rfl) (by kernel_rfl) (fun _ _ _ h => h) (Or.inl ⟨by kernel_rfl, ?_⟩) (by assumption) ?_
      · intro wq hSw
        first | (go_simp; done) | (go_simp; rfl)
      simp only [Act.put, List.setIfInBounds_toArray, List.set_cons_succ, List.set_cons_zero]
      refine wpAnyH_takeD (i := 4) (oi := _) (v := .slice p.a p.X.length p.c) 28 rfl (by kernel_rfl) (by kernel_rfl) (by kernel_rfl) (by kernel_rfl) (fun _ _ _ h => h) (Or.inl ⟨by kernel_rfl, ?_⟩) (by assumption) ?_
      · intro wq hSw
        have g := hSw
        first | (go_simp; done) | (go_simp; rfl)
      simp only [Act.put, List.setIfInBounds_toArray, List.set_cons_succ, List.set_cons_zero]
      refine wpAnyH_takeD (i := 5) (oi := _) (v := .slice (some ⟨bq, oq, none⟩) PB.length cq) 29 rfl (by kernel_rfl) (by kernel_rfl) (by kernel_rfl) (by kernel_rfl) (fun _ _ _ h => h) (Or.inl ⟨by kernel_rfl, ?_⟩) (by assumption) ?_
      · intro wq hSw
        first | (go_simp; done) | (go_simp; rfl)
      simp only [Act.put, List.setIfInBounds_toArray, List.set_cons_succ, List.set_cons_zero]
      refine wpAnyH_takeD (i := 6) (oi := _) (v := .int .i64 (k : Int)) 30 rfl (by kernel_rfl) (by kernel_rfl) (by kernel_rfl) (by kernel_rfl) (fun _ _ _ h => h) (Or.inl ⟨by kernel_rfl, ?_⟩) (by assumption) ?_
      · intro wq hSw
        first | (go_simp; done) | (go_simp; rfl)
      simp only [Act.put, List.setIfInBounds_toArray, List.set_cons_succ, List.set_cons_zero]
      refine wpAnyH_takeD (i := 7) (oi := _) (v := .pointer (some ⟨bq, oq + k, none⟩)) 31 rfl (by kernel_rfl) (by kernel_rfl) (by kernel_rfl) (by kernel_rfl) (fun _ _ _ h => h) (Or.inl ⟨by kernel_rfl, ?_⟩) (by assumption) ?_
      · intro wq hSw
        first | (go_simp; done) | (go_simp; rfl)
      simp only [Act.put, List.setIfInBounds_toArray, List.set_cons_succ, List.set_cons_zero]
      refine wpAnyH_takeD (i := 8) (oi := _) (v := .slice p.a p.X.length p.c) 32 rfl (by kernel_rfl) (by kernel_rfl) (by kernel_rfl) (by kernel_rfl) (fun _ _ _ h => h) (Or.inl ⟨by kernel_rfl, ?_⟩) (by assumption) ?_
      · intro wq hSw
        have g := hSw
        first | (go_simp; done) | (go_simp; rfl)
      simp only [Act.put, List.setIfInBounds_toArray, List.set_cons_succ, List.set_cons_zero]
      refine wpAnyH_ready (rs := [9]) (by kernel_rfl) (by simp) ?_
      refine AllReadyH.cons rfl (fun K hK => ?_) AllReadyH.nil
      go_simp
      refine hK.out _ _ (cell_keep ((Below.refl _ _).alloc (Nat.le_refl _) _) hHeld) (fun hHeld => ?_)
      clear hK K
      refine wpAnyH_ready (rs := [10]) (by kernel_rfl) (by simp) ?_
      refine AllReadyH.cons rfl (fun K hK => ?_) AllReadyH.nil
      rw [if_pos (by kernel_rfl)]
      refine wp_append_own _ _ 22 rfl base 28 i1 (.slice none 0 0) 1 24 Tryd.underlying22 HZ.out.1 HZ.out.2.1 HZ.out.2.2.1 HZ.out.2.2.2 rfl (by decide) u7 _ _ rfl (World.ownsRow.alloc (w := wr.drew) SR.out.2.2.2.1 _) ⟨wr.heap.size, 0, none⟩ 2 2 [.slice p.a p.X.length p.c, .slice p.a p.X.length p.c] rfl rfl (cells_new wr.drew [.slice p.a p.X.length p.c, .slice p.a p.X.length p.c] 28 _ rfl) (fun u hu => by simp at hu; subst hu; rfl) (by unfold maxLen; have := BD.out; omega) (by have := BD.out; omega) (by have := SR.out.2.2.2.2; simp; omega) ?_
      intro v' w8 hown hgrow hblk
      have N8 := NX.out v' w8 hown hgrow
      refine hK.out _ _ (CK.out _ N8.1) (fun hHeld => ?_)
      clear hown hgrow hblk
      clear hK K
      refine wpAnyH_takeD (i := 11) (oi := _) (v := v') 7 rfl (by kernel_rfl) (by kernel_rfl) (by kernel_rfl) (by kernel_rfl) (fun _ _ _ h => h) (Or.inl ⟨by kernel_rfl, ?_⟩) (by assumption) ?_
      · intro wq hSw
        first | (go_simp; done) | (go_simp; rfl)
      simp only [Act.put, List.setIfInBounds_toArray]
      refine wpAnyH_done (by kernel_rfl) ?_ _
      have N9 : Hid (Below w.heap.size w w8 ∧ Blm w8 b5 X ∧ Blm w8 b6 Z ∧ OwV base w8 v' (TS ++ [p, p]) ∧ base ≤ w8.heap.size) := N8
      clear hHeld N8 NX CK SR
      go_wp2
      go_roundg (PB.length - (j + 1))
      case measure => have := HK.out; have := KD.out; omega
      case rel =>
        refine ⟨j + 1, TS ++ [p, p], rfl, by have := KD.out; omega, by have := KD.out; congr 1; omega, by rw [List.length_append, HT.out.1]; simp; omega, fun q hq => ?_, fun m h1 h2 => ?_, N9.out⟩
        · rcases List.mem_append.1 hq with h | h
          · exact HT.out.2.1 q h
          · have : q = p := by simpa using h
            rw [this]; exact HP.out.2
        · by_cases e : m = k
          · rw [e, ← HP.out.1]; simp
          · exact List.mem_append_left _ (HT.out.2.2 m (by have := KD.out; omega) h2)
    · obtain rfl : j = PB.length := by omega
      have e1 : (PB.length : Int) - 1 - (PB.length : Int) = -1 := by omega
      rw [e1]
      clear e1 h8 hj
      have rZ := SR.out.2.2.1.range
      have THs : ∀ t, (wr.alloc (.cells (byts zF).toArray t)).there wr.heap.size 0 (byts Z).toArray.size := fun t => by rw [szZ]; exact (Blm.new zF_len t rfl).there
      have W6' : ∀ t, Hid (Below w.heap.size w ((wr.alloc (.cells (byts zF).toArray t)).setCells wr.heap.size 0 (byts Z)) ∧ Blm ((wr.alloc (.cells (byts zF).toArray t)).setCells wr.heap.size 0 (byts Z)) b5 X ∧ Blm ((wr.alloc (.cells (byts zF).toArray t)).setCells wr.heap.size 0 (byts Z)) b6 Z ∧ Blm ((wr.alloc (.cells (byts zF).toArray t)).setCells wr.heap.size 0 (byts Z)) wr.heap.size Z ∧ OwV base ((wr.alloc (.cells (byts zF).toArray t)).setCells wr.heap.size 0 (byts Z)) u7 TS ∧ base ≤ ((wr.alloc (.cells (byts zF).toArray t)).setCells wr.heap.size 0 (byts Z)).heap.size) := fun t => by
        have bl : Below wr.heap.size wr ((wr.alloc (.cells (byts zF).toArray t)).setCells wr.heap.size 0 (byts Z)) := below_setCells (Nat.le_refl _) _ 0 _ ((Below.refl _ _).alloc (Nat.le_refl _) _)
        exact ⟨SR.out.1.trans (bl.mono SR.out.1.size), SR.out.2.1.keep bl, SR.out.2.2.1.keep bl, (Blm.new zF_len t rfl).stored LZ.out.2, SR.out.2.2.2.1.keep bl, Nat.le_trans SR.out.2.2.2.2 bl.size⟩
      go_wp2_with (first | refine wpList_load_mid rfl 24 _ rfl b6 0 rfl (byts Z) _ rZ Tryd.underlying24 rfl icZ ?_ | refine wpList_alloc_zero rfl 24 rfl _ zero_bloom ?_ | (refine wpList_store_mid rfl 24 _ _ rfl wr.heap.size 0 _ rfl rfl (THs _) iaZ ocZ ?_; refine wpList_world (fun W => Below w.heap.size w W ∧ Blm W b5 X ∧ Blm W b6 Z ∧ Blm W wr.heap.size Z ∧ OwV base W u7 TS ∧ base ≤ W.heap.size) (W6' _).out ?_; clear W6' THs; rintro W6 h6; have S6 : Hid (Below w.heap.size w W6 ∧ Blm W6 b5 X ∧ Blm W6 b6 Z ∧ Blm W6 wr.heap.size Z ∧ OwV base W6 u7 TS ∧ base ≤ W6.heap.size) := h6; clear h6))
      have O9 : Hid (w.heap.size ≤ wr.heap.size ∧ b5 ≠ wr.heap.size ∧ b6 ≠ wr.heap.size ∧ u7.ownBlock ≠ some wr.heap.size ∧ base ≤ wr.heap.size) := ⟨SR.out.1.size, Nat.ne_of_lt SR.out.2.1.lt, Nat.ne_of_lt SR.out.2.2.1.lt, fun e => absurd (World.ownsRow.lt SR.out.2.2.2.1 _ e).2 (Nat.lt_irrefl _), SR.out.2.2.2.2⟩
      clear SR rZ
      generalize wr.heap.size = b9 at *
      have NS : Hid (∀ (SX : List (List (BitVec 8))) (Y : List (BitVec 8)), setsF (setsF Z (SX.flatMap plL)) (plL Y) = setsF Z ((SX ++ [Y]).flatMap plL)) := fun SX Y => by
        rw [setsF, setsF, setsF, List.flatMap_append, List.foldl_append]; simp
      have LS : Hid (∀ SX : List (List (BitVec 8)), (setsF Z (SX.flatMap plL)).length = 256) := fun SX => setsF_len _ LZ.out.2
      go_wp2_with fail
      go_loopg [7, 10] PA.length (fun kk lv iv wr => ∃ (j : Nat) (TA : List Part) (SX : List (List (BitVec 8))), kk = PA.length - j ∧ j ≤ PA.length ∧ iv = .int .i64 ((PA.length : Int) - 1 - j) ∧ (TA.length = TS.length + j ∧ (∀ p ∈ TA, p ∈ PA ∨ p ∈ PB) ∧ (∀ p ∈ TS, p ∈ TA) ∧ (∀ k, PA.length - j ≤ k → k < PA.length → PA.getD k .none ∈ TA ∧ (PA.getD k .none).X ∈ SX) ∧ (∀ Y ∈ SX, Y ∈ PA.map (·.X))) ∧ Below w.heap.size w wr ∧ Blm wr b5 X ∧ Blm wr b6 Z ∧ Blm wr b9 (setsF Z (SX.flatMap plL)) ∧ OwV base wr lv TA ∧ base ≤ wr.heap.size ∧ lv.ownBlock ≠ some b9)
      case atStart => exact ⟨0, TS, [], rfl, Nat.zero_le _, by simp, ⟨rfl, fun p hp => .inr (HT.out.2.1 p hp), fun p hp => hp, fun k h1 h2 => absurd h1 (by omega), fun Y hY => nomatch hY⟩, S6.out.1, S6.out.2.1, S6.out.2.2.1, S6.out.2.2.2.1, S6.out.2.2.2.2.1, S6.out.2.2.2.2.2, O9.out.2.2.2.1⟩
      case round =>
        clear S6
        obtain ⟨j, TA, SX, hkk, hj, rfl, hT2, hR⟩ := hrel
        have HK2 : Hid (gk = PA.length - j) := hkk
        have H2 : Hid (TA.length = TS.length + j ∧ (∀ p ∈ TA, p ∈ PA ∨ p ∈ PB) ∧ (∀ p ∈ TS, p ∈ TA) ∧ (∀ k, PA.length - j ≤ k → k < PA.length → PA.getD k .none ∈ TA ∧ (PA.getD k .none).X ∈ SX) ∧ (∀ Y ∈ SX, Y ∈ PA.map (·.X))) := hT2
        have SQ : Hid (Below w.heap.size w wr ∧ Blm wr b5 X ∧ Blm wr b6 Z ∧ Blm wr b9 (setsF Z (SX.flatMap plL)) ∧ OwV base wr u7 TA ∧ base ≤ wr.heap.size ∧ u7.ownBlock ≠ some b9) := hR
        clear hkk hT2 hR
        by_cases h8 : j < PA.length
        · obtain ⟨k, hkd⟩ : ∃ k, k = PA.length - 1 - j := ⟨_, rfl⟩
          have KD : Hid (k = PA.length - 1 - j ∧ k < PA.length ∧ j < PA.length) := ⟨hkd, by omega, h8⟩
          have ek : (PA.length : Int) - 1 - j = (k : Int) := by omega
          rw [ek]
          have klt : (k : Int) < (PA.length : Int) := by omega
          have BD : Hid (TA.length < 4294967296) := show TA.length < 4294967296 by have := H2.out.1; have := HT.out.1; have := HH.out.2.2.1; have := HH.out.2.2.2.1; omega
          obtain rfl : a = some ⟨bp, op, none⟩ := by
            rcases HH.out.2.2.2.2.1 with e | e
            · rw [e] at h8; simp at h8
            · exact e
          obtain ⟨p, hp⟩ : ∃ p, p = PA.getD k .none := ⟨_, rfl⟩
          have HP : Hid (p = PA.getD k .none ∧ p ∈ PA) := ⟨hp, by rw [hp, List.getD, List.getElem?_eq_getElem KD.out.2.1]; exact List.getElem_mem KD.out.2.1⟩
          have CK : Hid (∀ W, Below w.heap.size w W → W.cell? ⟨bp, op + k, none⟩ = some (.slice p.a p.X.length p.c) ∧ p.ok W) := fun W B => by rw [hp]; exact KA.out W B k KD.out.2.1
          have own0 : Hid (∀ q, u7.ownBlock = some q → base ≤ q ∧ q < wr.heap.size) := fun q hq => World.ownsRow.lt SQ.out.2.2.2.2.1 q hq
          have gk0 := (CK.out wr SQ.out.1).1
          clear hp hkd h8
          go_wp2_with ((at_builtin; go_loud (refine wpList_append_own_at _ rfl _ _ 22 rfl base 28 i1 (.slice none 0 0) 1 24 Tryd.underlying22 HZ.out.1 HZ.out.2.1 HZ.out.2.2.1 HZ.out.2.2.2 rfl (by decide) u7 _ _ rfl (World.ownsRow.alloc SQ.out.2.2.2.2.1 _) ⟨wr.heap.size, 0, none⟩ 1 1 [.slice p.a p.X.length p.c] rfl rfl (cells_new wr [.slice p.a p.X.length p.c] 28 _ rfl) (fun u hu => by simp at hu; subst hu; rfl) (by unfold maxLen; have := BD.out; omega) (by have := BD.out; omega) (by have := SQ.out.2.2.2.2.2.1; simp; omega) ?_); intro v' w8 hown hgrow hnil hblk))
          have N8 : Hid (Below w.heap.size w w8 ∧ Blm w8 b5 X ∧ Blm w8 b6 Z ∧ Blm w8 b9 (setsF Z (SX.flatMap plL)) ∧ OwV base w8 v' (TA ++ [p]) ∧ base ≤ w8.heap.size ∧ v'.ownBlock ≠ some b9) := by
            have h6 := HB.out.2
            have h5 := O6.out
            refine ⟨(SQ.out.1.alloc SQ.out.1.size _).grown hgrow (by have := SQ.out.1.size; simp; omega) (fun q hq => by have := (own0.out q hq).1; omega), (SQ.out.2.1.alloc _).grownBy hgrow (fun e => by have := (own0.out _ e.symm).1; omega), (SQ.out.2.2.1.alloc _).grownBy hgrow (fun e => by have := (own0.out _ e.symm).1; omega), (SQ.out.2.2.2.1.alloc _).grownBy hgrow (fun e => SQ.out.2.2.2.2.2.2 e.symm), ?_, Nat.le_trans SQ.out.2.2.2.2.2.1 (Nat.le_trans (by simp) hgrow.size), ?_⟩
            · rw [OwV, List.length_append, List.map_append]; exact hown
            · rcases hblk with e | e
              · rw [e]; exact SQ.out.2.2.2.2.2.2
              · rw [e]
                intro e2
                have := Option.some.inj e2
                have h9 := SQ.out.2.2.2.1.lt
                simp at this
                omega
          clear hown hgrow hnil hblk SQ gk0 own0
          have RC : Hid (∀ W, Below w.heap.size w W → Calls Tryd.prog 10 #[.agg (byts (setsF Z (SX.flatMap plL))).toArray, .slice p.a p.X.length p.c] W fun e w' => e = .returned (.agg (byts (setsF Z ((SX ++ [p.X]).flatMap plL))).toArray) ∧ Below W.heap.size W w') := fun W B => by
            have h := add_any (p := p) (LS.out SX) (HH.out.1 _ HP.out.2) W (CK.out W B).2 (HH.out.2.2.2.2.2.2.keep B)
            rw [NS.out] at h
            exact h
          have rb : ∀ w', (∃ p : Regrown, w' = grow (redrawn w8 p.d) p.os) → w'.rangeAt b9 0 (byts (setsF Z (SX.flatMap plL))) := by rintro w' ⟨p, rfl⟩; exact (N8.out.2.2.2.1.grown _ _).range
          have ic := size_bloom (LS.out SX)
          have CC : ∀ d os, Below w.heap.size w (grow (redrawn w8 d) os) := fun d os => N8.out.1.trans ((below_regrown w8 d os).mono N8.out.1.size)
          have q1' : ∀ d os, (grow (redrawn w8 d) os).cell? ⟨bp, op + k, none⟩ = some (.slice p.a p.X.length p.c) := fun d os => (CK.out _ (CC d os)).1
          generalize hM : byts (setsF Z (SX.flatMap plL)) = M at *
          clear hM
          go_wp2_with fail
          refine below_tail 6 (by kernel_rfl) (by kernel_rfl) ?_
          simp only [List.take_succ_cons, List.take_zero, List.drop_succ_cons, List.drop_zero]
          repeat
            first
              | go_big_quiet_skip
              | (go_big_quiet_want; go_big_quiet_op; go_big_quiet_on)
              | (go_big_quiet_want; refine quiet_load_mid 24 _ rfl b9 0 rfl M _ rb Tryd.underlying24 rfl ic ?_; simp only [Act.put, List.setIfInBounds_toArray, List.set_cons_succ, List.set_cons_zero]; go_big_quiet_on)
              | (go_big_quiet_want
                 go_big_quiet_op
                 apply Exists.intro
                 refine ⟨fun p => ?_, ?_⟩
                 · (go_at_call 10; with_reducible exact Calls.regrown_of (RC.out (grow (redrawn w8 p.d) p.os) (CC p.d p.os)))
                 go_big_quiet_on)
          refine wpQuiet_nil ?_
          rintro wc ⟨r, rfl⟩
          have hb := below_regrown w8 r.d r.os
          generalize grow (redrawn w8 r.d) r.os = wc at *
          clear rb ic q1' CC RC
          obtain ⟨G, hG⟩ : ∃ G, G = setsF Z ((SX ++ [p.X]).flatMap plL) := ⟨_, rfl⟩
          have LG : Hid (G = setsF Z ((SX ++ [p.X]).flatMap plL) ∧ G.length = 256) := ⟨hG, by rw [hG]; exact LS.out _⟩
          rw [← hG]
          clear hG
          have ia := size_bloomA LG.out.2
          have oc := one_byts G
          have sz : (byts G).toArray.size = 256 := by rw [List.size_toArray, byts_len, LG.out.2]
          have B9c := N8.out.2.2.2.1.keep hb
          have tr : wc.there b9 0 (byts G).toArray.size := by rw [sz]; exact B9c.there
          have NY : Hid (Below w.heap.size w (wc.setCells b9 0 (byts G)) ∧ Blm (wc.setCells b9 0 (byts G)) b5 X ∧ Blm (wc.setCells b9 0 (byts G)) b6 Z ∧ Blm (wc.setCells b9 0 (byts G)) b9 (setsF Z ((SX ++ [p.X]).flatMap plL)) ∧ OwV base (wc.setCells b9 0 (byts G)) v' (TA ++ [p]) ∧ base ≤ (wc.setCells b9 0 (byts G)).heap.size ∧ v'.ownBlock ≠ some b9) := by
            have of0 : Off b9 wc (wc.setCells b9 0 (byts G)) := (Off.refl b9 wc).setCells _
            have bw := N8.out.1.trans (hb.mono N8.out.1.size)
            refine ⟨below_setCells O9.out.1 _ 0 wc bw, (N8.out.2.1.keep hb).otherCells (Ne.symm O9.out.2.1) _, (N8.out.2.2.1.keep hb).otherCells (Ne.symm O9.out.2.2.1) _, by rw [← LG.out.1]; exact B9c.stored LG.out.2, ?_, Nat.le_trans N8.out.2.2.2.2.2.1 (Nat.le_trans hb.size of0.size), N8.out.2.2.2.2.2.2⟩
            have o1 := N8.out.2.2.2.2.1.keep hb
            exact own_same o1 fun q hq => of0.block q (World.ownsRow.lt o1 q hq).2 (fun e => N8.out.2.2.2.2.2.2 (by rw [← e]; exact hq))
          clear N8 hb B9c
          go_wp2_with (refine wpList_store_mid rfl 24 _ _ rfl b9 0 _ rfl rfl tr ia oc ?_)
          go_roundg (PA.length - (j + 1))
          case measure => have := HK2.out; have := KD.out; omega
          case rel =>
            refine ⟨j + 1, TA ++ [p], SX ++ [p.X], rfl, by have := KD.out; omega, by have := KD.out; congr 1; omega, ⟨by rw [List.length_append, H2.out.1]; simp; omega, fun q hq => ?_, fun q hq => List.mem_append_left _ (H2.out.2.2.1 q hq), fun m h1 h2 => ?_, fun Y hY => ?_⟩, NY.out⟩
            · rcases List.mem_append.1 hq with h | h
              · exact H2.out.2.1 q h
              · have : q = p := by simpa using h
                rw [this]; exact .inl HP.out.2
            · by_cases e : m = k
              · rw [e, ← HP.out.1]; simp
              · have h := H2.out.2.2.2.1 m (by have := KD.out; omega) h2
                exact ⟨List.mem_append_left _ h.1, List.mem_append_left _ h.2⟩
            · rcases List.mem_append.1 hY with h | h
              · exact H2.out.2.2.2.2 Y h
              · have : Y = p.X := by simpa using h
                rw [this]; exact List.mem_map.2 ⟨p, HP.out.2, rfl⟩
        · obtain rfl : j = PA.length := by omega
          have e1 : (PA.length : Int) - 1 - (PA.length : Int) = -1 := by omega
          rw [e1]
          clear e1 h8 hj
          have XM : Hid ((∀ Y, Y ∈ TA.map (·.X) ↔ Y ∈ PA.map (·.X) ∨ Y ∈ PB.map (·.X)) ∧ (∀ Y, Y ∈ SX ↔ Y ∈ PA.map (·.X))) := by
            have hA : ∀ Y, Y ∈ PA.map (·.X) → Y ∈ TA.map (·.X) ∧ Y ∈ SX := fun Y hY => by
              obtain ⟨q, hq, rfl⟩ := List.mem_map.1 hY
              obtain ⟨m, hm, rfl⟩ := List.mem_iff_getElem.1 hq
              have h := H2.out.2.2.2.1 m (by omega) hm
              rw [List.getD, List.getElem?_eq_getElem hm] at h
              exact ⟨List.mem_map.2 ⟨_, h.1, rfl⟩, h.2⟩
            refine ⟨fun Y => ⟨fun hY => ?_, fun hY => ?_⟩, fun Y => ⟨H2.out.2.2.2.2 Y, fun hY => (hA Y hY).2⟩⟩
            · obtain ⟨q, hq, rfl⟩ := List.mem_map.1 hY
              rcases H2.out.2.1 q hq with h | h
              · exact .inl (List.mem_map.2 ⟨q, h, rfl⟩)
              · exact .inr (List.mem_map.2 ⟨q, h, rfl⟩)
            · rcases hY with h | h
              · exact (hA Y h).1
              · obtain ⟨q, hq, rfl⟩ := List.mem_map.1 h
                obtain ⟨m, hm, rfl⟩ := List.mem_iff_getElem.1 hq
                have h2 := HT.out.2.2 m (by omega) hm
                rw [List.getD, List.getElem?_eq_getElem hm] at h2
                exact List.mem_map.2 ⟨_, H2.out.2.2.1 _ h2, rfl⟩
          obtain ⟨U, hU⟩ : ∃ U, U = ofF (TA.map (·.X)) := ⟨_, rfl⟩
          have LU : Hid (U.length = 256 ∧ U = ofF (TA.map (·.X)) ∧ U = orF X Z ∧ setsF Z (SX.flatMap plL) = U) := by
            have e1 : U = orF X Z := by rw [hU, joins_or XM.out.1, ← LX.out.1, ← LZ.out.1]
            refine ⟨by rw [hU]; exact ofF_len _, hU, e1, ?_⟩
            have h := joins_step (XB := PB.map (·.X)) XM.out.2
            rw [← LX.out.1, ← LZ.out.1] at h
            rw [h, e1]
          have TOK : Hid (∀ W, Below w.heap.size w W → ∀ p ∈ TA, p.ok W) := fun W B p hp => by
            rcases H2.out.2.1 p hp with h | h
            · obtain ⟨m, hm, rfl⟩ := List.mem_iff_getElem.1 h
              have := (KA.out W B m hm).2
              rwa [List.getD, List.getElem?_eq_getElem hm] at this
            · obtain ⟨m, hm, rfl⟩ := List.mem_iff_getElem.1 h
              have := (KB.out W B m hm).2
              rwa [List.getD, List.getElem?_eq_getElem hm] at this
          have TSZ : Hid ((∀ p ∈ TA, p.X.length < 140737488355328) ∧ TA.length < 4294967296) := ⟨fun p hp => by
            rcases H2.out.2.1 p hp with h | h
            · exact HH.out.1 p h
            · exact HH.out.2.1 p h, by have := H2.out.1; have := HT.out.1; have := HH.out.2.2.1; have := HH.out.2.2.2.1; omega⟩
          obtain ⟨at', gt, ct, ev, hat, hct, hpr⟩ := SQ.out.2.2.2.2.1.prts (TOK.out wr SQ.out.1)
          subst ev
          have ST0 : Hid (Below w.heap.size w wr ∧ Blm wr b5 X ∧ Blm wr b6 Z ∧ Blm wr b9 U ∧ Prts wr gt 0 TA) := ⟨SQ.out.1, SQ.out.2.1, SQ.out.2.2.1, by rw [← LU.out.2.2.2]; exact SQ.out.2.2.2.1, hpr⟩
          have HAT : Hid ((TA = [] ∨ at' = some ⟨gt, 0, none⟩) ∧ TA.length ≤ ct) := ⟨hat, hct⟩
          clear SQ hU hat hct hpr
          have nt : ((TA.length : Nat) : Int) < 4294967296 := by have := TSZ.out.2; omega
          have of3 := of_any (a := at') (bp := gt) (op := 0) (cp := ct) (PS := TA) TSZ.out.1 (by have := TSZ.out.2; omega) HAT.out.1 wr ST0.out.2.2.2.2 (HH.out.2.2.2.2.2.2.keep ST0.out.1)
          rw [← LU.out.2.1] at of3
          go_wp2_with fail
          refine of3.mono ?_
          clear of3
          rintro e wt ⟨rfl, hb⟩
          have STt : Hid (Below w.heap.size w wt ∧ Blm wt b5 X ∧ Blm wt b6 Z ∧ Blm wt b9 U ∧ Prts wt gt 0 TA) := ⟨ST0.out.1.trans (hb.mono ST0.out.1.size), ST0.out.2.1.keep hb, ST0.out.2.2.1.keep hb, ST0.out.2.2.2.1.keep hb, fun i hi => by
            obtain ⟨h1, h2, h3, h4⟩ := ST0.out.2.2.2.2 i hi
            exact ⟨cell_keep hb h1, h2, h3, h4.keep hb⟩⟩
          clear hb ST0
          have icU := size_bloom LU.out.1
          have iaU := size_bloomA LU.out.1
          have ocU := one_byts U
          have szU : (byts U).toArray.size = 256 := by rw [List.size_toArray, byts_len, LU.out.1]
          have THU : ∀ t, (wt.alloc (.cells (byts zF).toArray t)).there wt.heap.size 0 (byts U).toArray.size := fun t => by rw [szU]; exact (Blm.new zF_len t rfl).there
          have WV' : ∀ t, Hid (Below w.heap.size w ((wt.alloc (.cells (byts zF).toArray t)).setCells wt.heap.size 0 (byts U)) ∧ Blm ((wt.alloc (.cells (byts zF).toArray t)).setCells wt.heap.size 0 (byts U)) b5 X ∧ Blm ((wt.alloc (.cells (byts zF).toArray t)).setCells wt.heap.size 0 (byts U)) b6 Z ∧ Blm ((wt.alloc (.cells (byts zF).toArray t)).setCells wt.heap.size 0 (byts U)) b9 U ∧ Blm ((wt.alloc (.cells (byts zF).toArray t)).setCells wt.heap.size 0 (byts U)) wt.heap.size U ∧ Prts ((wt.alloc (.cells (byts zF).toArray t)).setCells wt.heap.size 0 (byts U)) gt 0 TA) := fun t => by
            have bl : Below wt.heap.size wt ((wt.alloc (.cells (byts zF).toArray t)).setCells wt.heap.size 0 (byts U)) := below_setCells (Nat.le_refl _) _ 0 _ ((Below.refl _ _).alloc (Nat.le_refl _) _)
            exact ⟨STt.out.1.trans (bl.mono STt.out.1.size), STt.out.2.1.keep bl, STt.out.2.2.1.keep bl, STt.out.2.2.2.1.keep bl, (Blm.new zF_len t rfl).stored LU.out.1, fun i hi => by
              obtain ⟨h1, h2, h3, h4⟩ := STt.out.2.2.2.2 i hi
              exact ⟨cell_keep bl h1, h2, h3, h4.keep bl⟩⟩
          have eqU := fun w => eq_bloom LU.out.1 LU.out.1 w
          rw [decide_eq_true rfl] at eqU
          have WXU : Hid (∀ W : World, Calls Tryd.prog 12 #[.agg (byts X).toArray, .agg (byts U).toArray] W fun e w' => e = .returned (.bool true) ∧ Below W.heap.size W w') := fun W => by
            have h := within_any LX.out.2 LU.out.1 W
            rw [LU.out.2.2.1, inF_left LX.out.2 LZ.out.2, ← LU.out.2.2.1] at h
            exact h
          have WZU : Hid (∀ W : World, Calls Tryd.prog 12 #[.agg (byts Z).toArray, .agg (byts U).toArray] W fun e w' => e = .returned (.bool true) ∧ Below W.heap.size W w') := fun W => by
            have h := within_any LZ.out.2 LU.out.1 W
            rw [LU.out.2.2.1, inF_right LX.out.2 LZ.out.2, ← LU.out.2.2.1] at h
            exact h
          have l2 : ∀ F ∈ [X, Z], F.length = 256 := fun F hF => by
            simp at hF
            rcases hF with h | h
            · rw [h]; exact LX.out.2
            · rw [h]; exact LZ.out.2
          have UXZ : Hid (∀ (W : World) (b : Nat), Fls W b 0 [X, Z] → Calls Tryd.prog 11 #[.slice (some ⟨b, 0, none⟩) 2 2] W fun e w' => e = .returned (.agg (byts U).toArray) ∧ Below W.heap.size W w') := fun W b h => by
            have u := union_any (a := some ⟨b, 0, none⟩) (bp := b) (op := 0) (cp := 2) (FS := [X, Z]) (by simp) (.inr rfl) W h
            rw [orA_two LX.out.2, ← LU.out.2.2.1] at u
            exact u
          go_wp2_with (first | refine wpList_alloc_zero rfl 24 rfl _ zero_bloom ?_ | (refine wpList_store_mid rfl 24 _ _ rfl wt.heap.size 0 _ rfl rfl (THU _) iaU ocU ?_; refine wpList_world (fun W => Below w.heap.size w W ∧ Blm W b5 X ∧ Blm W b6 Z ∧ Blm W b9 U ∧ Blm W wt.heap.size U ∧ Prts W gt 0 TA) (WV' _).out ?_; clear WV' THU; rintro WV hV; have SV : Hid (Below w.heap.size w WV ∧ Blm WV b5 X ∧ Blm WV b6 Z ∧ Blm WV b9 U ∧ Blm WV wt.heap.size U ∧ Prts WV gt 0 TA) := hV; clear hV STt))
          try simp only [Act.put]
          generalize wt.heap.size = b11 at *
          clear iaU ocU szU iaX ocX szX iaZ ocZ szZ
          refine wp_region_held_drew (S := fun w' => Below WV.heap.size WV w') (by kernel_rfl) ((Below.refl _ _).drew) (fun hHeld => ?_)
          refine wpAnyH_takeD (i := 0) (oi := _) (v := .agg (byts U).toArray) 58 rfl (by kernel_rfl) (by kernel_rfl) (by kernel_rfl) (by kernel_rfl) (fun _ _ _ h => h) (yieldsIf_load_mid (by kernel_rfl) _ _ rfl b11 0 rfl (byts U) _ (fun wq hq => (SV.out.2.2.2.2.1.keep hq).range) Tryd.underlying24 rfl icU) (by assumption) ?_
          simp only [Act.put, List.setIfInBounds_toArray, List.set_cons_succ, List.set_cons_zero]
          refine wpAnyH_takeD (i := 1) (oi := _) (v := .agg (byts X).toArray) 59 rfl (by kernel_rfl) (by kernel_rfl) (by kernel_rfl) (by kernel_rfl) (fun _ _ _ h => h) (yieldsIf_load_mid (by kernel_rfl) _ _ rfl b5 0 rfl (byts X) _ (fun wq hq => (SV.out.2.1.keep hq).range) Tryd.underlying24 rfl icX) (by assumption) ?_
          simp only [Act.put, List.setIfInBounds_toArray, List.set_cons_succ, List.set_cons_zero]
          refine wpAnyH_takeD (i := 2) (oi := _) (v := .agg (byts Z).toArray) 60 rfl (by kernel_rfl) (by kernel_rfl) (by kernel_rfl) (by kernel_rfl) (fun _ _ _ h => h) (yieldsIf_load_mid (by kernel_rfl) _ _ rfl b6 0 rfl (byts Z) _ (fun wq hq => (SV.out.2.2.1.keep hq).range) Tryd.underlying24 rfl icZ) (by assumption) ?_
          simp only [Act.put, List.setIfInBounds_toArray, List.set_cons_succ, List.set_cons_zero]
          refine wpAnyH_ready (rs := [3]) (by kernel_rfl) (by simp) ?_
          refine AllReadyH.cons rfl (fun K hK => ?_) AllReadyH.nil
          rw [if_pos (by kernel_rfl)]
          refine wp_build_blooms 2 _ rfl [X, Z] l2 rfl (by decide) (by decide) (by simp [Act.eval, List.zipIdx]) ?_
          refine hK.out _ _ (hHeld.alloc hHeld.size _) (fun hHeld => ?_)
          clear hK K
          refine wpAnyH_ready (rs := [4]) (by kernel_rfl) (by simp) ?_
          refine AllReadyH.cons rfl (fun K hK => ?_) AllReadyH.nil
          go_simp
          go_wp2_with (go_at_call 11; go_loud (refine (UXZ.out _ _ (fls_new (W := WV.drew) [X, Z] l2)).mono ?_; rintro e x ⟨rfl, hbx⟩))
          refine hK.out _ _ (hHeld.trans (hbx.mono hHeld.size)) (fun hHeld => ?_)
          clear hbx
          clear hK K
          refine wpAnyH_takeD (i := 5) (oi := _) (v := .bool false) 63 rfl (by kernel_rfl) (by kernel_rfl) (by kernel_rfl) (by kernel_rfl) (fun _ _ _ h => h) (Or.inl ⟨by kernel_rfl, ?_⟩) (by assumption) ?_
          · intro wq hSw
            first | (go_simp; done) | (go_simp; rfl)
          simp only [Act.put, List.setIfInBounds_toArray, List.set_cons_succ, List.set_cons_zero]
          refine wpAnyH_takeD (i := 6) (oi := _) (v := .bool false) 64 rfl (by kernel_rfl) (by kernel_rfl) (by kernel_rfl) (by kernel_rfl) (fun _ _ _ h => h) (Or.inl ⟨by kernel_rfl, ?_⟩) (by assumption) ?_
          · intro wq hSw
            first | (go_simp; done) | (go_simp; rfl)
          simp only [Act.put, List.setIfInBounds_toArray, List.set_cons_succ, List.set_cons_zero]
          refine wpAnyH_takeD (i := 7) (oi := _) (v := .agg (byts U).toArray) 65 rfl (by kernel_rfl) (by kernel_rfl) (by kernel_rfl) (by kernel_rfl) (fun _ _ _ h => h) (yieldsIf_load_mid (by kernel_rfl) _ _ rfl b11 0 rfl (byts U) _ (fun wq hq => (SV.out.2.2.2.2.1.keep hq).range) Tryd.underlying24 rfl icU) (by assumption) ?_
          simp only [Act.put, List.setIfInBounds_toArray, List.set_cons_succ, List.set_cons_zero]
          refine wpAnyH_takeD (i := 8) (oi := _) (v := .agg (byts U).toArray) 66 rfl (by kernel_rfl) (by kernel_rfl) (by kernel_rfl) (by kernel_rfl) (fun _ _ _ h => h) (yieldsIf_load_mid (by kernel_rfl) _ _ rfl b9 0 rfl (byts U) _ (fun wq hq => (SV.out.2.2.2.1.keep hq).range) Tryd.underlying24 rfl icU) (by assumption) ?_
          simp only [Act.put, List.setIfInBounds_toArray, List.set_cons_succ, List.set_cons_zero]
          refine wpAnyH_takeD (i := 9) (oi := _) (v := .bool false) 67 rfl (by kernel_rfl) (by kernel_rfl) (by kernel_rfl) (by kernel_rfl) (fun _ _ _ h => h) (Or.inl ⟨by kernel_rfl, ?_⟩) (by assumption) ?_
          · intro wq hSw
            first | (go_simp; done) | (go_simp; rfl)
          simp only [Act.put, List.setIfInBounds_toArray, List.set_cons_succ, List.set_cons_zero]
          refine wpAnyH_takeD (i := 10) (oi := _) (v := .bool false) 68 rfl (by kernel_rfl) (by kernel_rfl) (by kernel_rfl) (by kernel_rfl) (fun _ _ _ h => h) (Or.inl ⟨by kernel_rfl, ?_⟩) (by assumption) ?_
          · intro wq hSw
            first | (go_simp; done) | (go_simp; rfl)
          simp only [Act.put, List.setIfInBounds_toArray, List.set_cons_succ, List.set_cons_zero]
          refine wpAnyH_takeD (i := 11) (oi := _) (v := .bool false) 69 rfl (by kernel_rfl) (by kernel_rfl) (by kernel_rfl) (by kernel_rfl) (fun _ _ _ h => h) (Or.inl ⟨by kernel_rfl, ?_⟩) (by assumption) ?_
          · intro wq hSw
            first | (go_simp; done) | (go_simp; rfl)
          simp only [Act.put, List.setIfInBounds_toArray, List.set_cons_succ, List.set_cons_zero]
          refine wpAnyH_takeD (i := 12) (oi := _) (v := .agg (byts X).toArray) 70 rfl (by kernel_rfl) (by kernel_rfl) (by kernel_rfl) (by kernel_rfl) (fun _ _ _ h => h) (yieldsIf_load_mid (by kernel_rfl) _ _ rfl b5 0 rfl (byts X) _ (fun wq hq => (SV.out.2.1.keep hq).range) Tryd.underlying24 rfl icX) (by assumption) ?_
          simp only [Act.put, List.setIfInBounds_toArray, List.set_cons_succ, List.set_cons_zero]
          refine wpAnyH_takeD (i := 13) (oi := _) (v := .agg (byts U).toArray) 71 rfl (by kernel_rfl) (by kernel_rfl) (by kernel_rfl) (by kernel_rfl) (fun _ _ _ h => h) (yieldsIf_load_mid (by kernel_rfl) _ _ rfl b11 0 rfl (byts U) _ (fun wq hq => (SV.out.2.2.2.2.1.keep hq).range) Tryd.underlying24 rfl icU) (by assumption) ?_
          simp only [Act.put, List.setIfInBounds_toArray, List.set_cons_succ, List.set_cons_zero]
          refine wpAnyH_ready (rs := [14]) (by kernel_rfl) (by simp) ?_
          refine AllReadyH.cons rfl (fun K hK => ?_) AllReadyH.nil
          go_simp
          go_wp2_with (go_at_call 12; refine (WXU.out _).mono ?_; rintro e x ⟨rfl, hbx⟩)
          refine hK.out _ _ (hHeld.trans (hbx.mono hHeld.size)) (fun hHeld => ?_)
          clear hbx
          clear hK K
          refine wpAnyH_takeD (i := 15) (oi := _) (v := .bool false) 73 rfl (by kernel_rfl) (by kernel_rfl) (by kernel_rfl) (by kernel_rfl) (fun _ _ _ h => h) (Or.inl ⟨by kernel_rfl, ?_⟩) (by assumption) ?_
          · intro wq hSw
            first | (go_simp; done) | (go_simp; rfl)
          simp only [Act.put, List.setIfInBounds_toArray, List.set_cons_succ, List.set_cons_zero]
          refine wpAnyH_takeD (i := 16) (oi := _) (v := .bool false) 74 rfl (by kernel_rfl) (by kernel_rfl) (by kernel_rfl) (by kernel_rfl) (fun _ _ _ h => h) (Or.inl ⟨by kernel_rfl, ?_⟩) (by assumption) ?_
          · intro wq hSw
            first | (go_simp; done) | (go_simp; rfl)
          simp only [Act.put, List.setIfInBounds_toArray, List.set_cons_succ, List.set_cons_zero]
          refine wpAnyH_takeD (i := 17) (oi := _) (v := .bool false) 75 rfl (by kernel_rfl) (by kernel_rfl) (by kernel_rfl) (by kernel_rfl) (fun _ _ _ h => h) (Or.inl ⟨by kernel_rfl, ?_⟩) (by assumption) ?_
          · intro wq hSw
            first | (go_simp; done) | (go_simp; rfl)
          simp only [Act.put, List.setIfInBounds_toArray, List.set_cons_succ, List.set_cons_zero]
          refine wpAnyH_takeD (i := 18) (oi := _) (v := .agg (byts Z).toArray) 76 rfl (by kernel_rfl) (by kernel_rfl) (by kernel_rfl) (by kernel_rfl) (fun _ _ _ h => h) (yieldsIf_load_mid (by kernel_rfl) _ _ rfl b6 0 rfl (byts Z) _ (fun wq hq => (SV.out.2.2.1.keep hq).range) Tryd.underlying24 rfl icZ) (by assumption) ?_
          simp only [Act.put, List.setIfInBounds_toArray, List.set_cons_succ, List.set_cons_zero]
          refine wpAnyH_takeD (i := 19) (oi := _) (v := .agg (byts U).toArray) 77 rfl (by kernel_rfl) (by kernel_rfl) (by kernel_rfl) (by kernel_rfl) (fun _ _ _ h => h) (yieldsIf_load_mid (by kernel_rfl) _ _ rfl b11 0 rfl (byts U) _ (fun wq hq => (SV.out.2.2.2.2.1.keep hq).range) Tryd.underlying24 rfl icU) (by assumption) ?_
          simp only [Act.put, List.setIfInBounds_toArray, List.set_cons_succ, List.set_cons_zero]
          refine wpAnyH_ready (rs := [20]) (by kernel_rfl) (by simp) ?_
          refine AllReadyH.cons rfl (fun K hK => ?_) AllReadyH.nil
          go_simp
          go_wp2_with (go_at_call 12; refine (WZU.out _).mono ?_; rintro e x ⟨rfl, hbx⟩)
          refine hK.out _ _ (hHeld.trans (hbx.mono hHeld.size)) (fun hHeld => ?_)
          clear hbx
          clear hK K
          refine wpAnyH_takeD (i := 21) (oi := _) (v := .bool false) 79 rfl (by kernel_rfl) (by kernel_rfl) (by kernel_rfl) (by kernel_rfl) (fun _ _ _ h => h) (Or.inl ⟨by kernel_rfl, ?_⟩) (by assumption) ?_
          · intro wq hSw
            first | (go_simp; done) | (go_simp; rfl)
          simp only [Act.put, List.setIfInBounds_toArray, List.set_cons_succ, List.set_cons_zero]
          refine wpAnyH_takeD (i := 22) (oi := _) (v := .bool false) 80 rfl (by kernel_rfl) (by kernel_rfl) (by kernel_rfl) (by kernel_rfl) (fun _ _ _ h => h) (Or.inl ⟨by kernel_rfl, ?_⟩) (by assumption) ?_
          · intro wq hSw
            first | (go_simp; done) | (go_simp; rfl)
          simp only [Act.put, List.setIfInBounds_toArray, List.set_cons_succ, List.set_cons_zero]
          refine wpAnyH_done (by kernel_rfl) ?_ _
          have SY : Hid (Below w.heap.size w x ∧ Blm x b11 U ∧ Prts x gt 0 TA) := ⟨SV.out.1.trans (hHeld.mono SV.out.1.size), SV.out.2.2.2.2.1.keep hHeld, fun i hi => by
            obtain ⟨h1, h2, h3, h4⟩ := SV.out.2.2.2.2.2 i hi
            exact ⟨cell_keep hHeld h1, h2, h3, h4.keep hHeld⟩⟩
          clear hHeld SV WXU WZU UXZ eqU l2
          go_wp2_with fail
          go_loopg [12] TA.length (fun kk iv wr => ∃ i : Nat, kk = TA.length - i ∧ i ≤ TA.length ∧ iv = .int .i64 i ∧ Below w.heap.size w wr ∧ Blm wr b11 U ∧ Prts wr gt 0 TA)
          case atStart => exact ⟨0, rfl, Nat.zero_le _, rfl, SY.out⟩
          case round =>
            clear SY
            obtain ⟨i, hkk, hi, rfl, hR⟩ := hrel
            have HK3 : Hid (gk = TA.length - i) := hkk
            have SQ : Hid (Below w.heap.size w wr ∧ Blm wr b11 U ∧ Prts wr gt 0 TA) := hR
            clear hkk hR
            by_cases h8 : i = TA.length
            · subst h8
              have rU := SQ.out.2.1.range
              have bz := built_bloom
              have B9 : Hid (Below w.heap.size w wr) := SQ.out.1
              by_cases h0 : TA = []
              · have l0 : TA.length = 0 := by rw [h0]; rfl
                rw [l0]
                clear SQ
                go_wp2_with fail
                simp [bodyPost, results, Tryd.results4, go_sem]
                exact B9.out
              · have l0 : TA.length ≠ 0 := fun e => h0 (List.eq_nil_of_length_eq_zero e)
                have l1 : ¬ ((TA.length : Int) = 0) := by omega
                have l2 : ((TA.length : Int) == 0) = false := beq_eq_false_iff_ne.2 l1
                have neU : U ≠ zF := by
                  rw [LU.out.2.1]
                  obtain ⟨q, hq⟩ := List.exists_mem_of_ne_nil _ h0
                  exact some_in (List.mem_map.2 ⟨q, hq, rfl⟩)
                have eqb := fun w => eq_bloom LU.out.1 zF_len w
                rw [decide_eq_false neU] at eqb
                clear SQ neU
                go_wp2_with (first | ((with_reducible refine wpList_load_wantM (ty := 24) b11 0 (byts U) _ rU Tryd.underlying24 ?_ icU ?_ ?_ ?_); rfl; rfl; rfl; simp only [Act.put, List.setIfInBounds_toArray, List.set_cons_succ, List.set_cons_zero]) | ((with_reducible refine wpList_build_wantM (ty := 24) _ bz ?_ ?_); rfl; simp only [Act.put, List.setIfInBounds_toArray, List.set_cons_succ, List.set_cons_zero]))
                simp [bodyPost, results, Tryd.results4, go_sem]
                exact B9.out
            · have hlt : i < TA.length := by omega
              have hlt' : (i : Int) < (TA.length : Int) := by omega
              obtain rfl : at' = some ⟨gt, 0, none⟩ := by
                rcases HAT.out.1 with e | e
                · rw [e] at hlt; simp at hlt
                · exact e
              have c1 : (TA.length : Int) ≤ (ct : Int) := by have := HAT.out.2; omega
              have pm : TA.getD i .none ∈ TA := by rw [List.getD, List.getElem?_eq_getElem hlt]; exact List.getElem_mem hlt
              have CC : ∀ d os, Below wr.heap.size wr (grow (redrawn wr d) os) := fun d os => below_regrown wr d os
              have q1' : ∀ d os, (grow (redrawn wr d) os).cell? ⟨gt, i, none⟩ = some (.slice (TA.getD i .none).a (TA.getD i .none).X.length (TA.getD i .none).c) := fun d os => by
                have h := cell_keep (CC d os) (SQ.out.2.2 i hlt).1
                rw [Nat.zero_add] at h
                exact h
              have HS : Hid (∀ W, Below wr.heap.size wr W → Calls Tryd.prog 13 #[.agg (byts U).toArray, .slice (TA.getD i .none).a (TA.getD i .none).X.length (TA.getD i .none).c] W fun e w' => e = .returned (.bool true) ∧ Below W.heap.size W w') := fun W B => by
                have BW := SQ.out.1.trans (B.mono SQ.out.1.size)
                have h := has_any (p := TA.getD i .none) LU.out.1 (TSZ.out.1 _ pm) W (TOK.out W BW _ pm) (HH.out.2.2.2.2.2.2.keep BW)
                have e : hasT U (TA.getD i .none).X = true := by rw [LU.out.2.1]; exact has_in (List.mem_map.2 ⟨_, pm, rfl⟩)
                rw [e] at h
                exact h
              have rb : ∀ w', (∃ p : Regrown, w' = grow (redrawn wr p.d) p.os) → w'.rangeAt b11 0 (byts U) := by rintro w' ⟨p, rfl⟩; exact (SQ.out.2.1.grown _ _).range
              have NY : Hid (∀ d os, Below w.heap.size w (grow (redrawn wr d) os) ∧ Blm (grow (redrawn wr d) os) b11 U ∧ Prts (grow (redrawn wr d) os) gt 0 TA) := fun d os => ⟨SQ.out.1.trans ((CC d os).mono SQ.out.1.size), SQ.out.2.1.keep (CC d os), fun i hi => by
                obtain ⟨h1, h2, h3, h4⟩ := SQ.out.2.2 i hi
                exact ⟨cell_keep (CC d os) h1, h2, h3, h4.keep (CC d os)⟩⟩
              have HI : Hid (i < TA.length) := hlt
              clear pm h8 SQ
              generalize TA.getD i .none = p at *
              go_wp2_with fail
              refine wp_region_quiet_below (by kernel_rfl) (by kernel_rfl) ?_
              repeat
                first
                  | go_big_quiet_skip
                  | (go_big_quiet_want; go_big_quiet_op; go_big_quiet_on)
                  | (go_big_quiet_want; refine quiet_load_mid 24 _ rfl b11 0 rfl (byts U) _ rb Tryd.underlying24 rfl icU ?_; simp only [Act.put, List.setIfInBounds_toArray, List.set_cons_succ, List.set_cons_zero]; go_big_quiet_on)
                  | (go_big_quiet_want
                     go_big_quiet_op
                     apply Exists.intro
                     refine ⟨fun p => ?_, ?_⟩
                     · (go_at_call 13; with_reducible exact Calls.regrown_of (HS.out (grow (redrawn wr p.d) p.os) (CC p.d p.os)))
                     go_big_quiet_on)
              refine wpQuiet_nil ?_
              rintro wz ⟨r, rfl⟩
              have NZ : Hid (Below w.heap.size w (grow (redrawn wr r.d) r.os) ∧ Blm (grow (redrawn wr r.d) r.os) b11 U ∧ Prts (grow (redrawn wr r.d) r.os) gt 0 TA) := NY.out r.d r.os
              generalize grow (redrawn wr r.d) r.os = wz at *
              clear rb q1' CC HS NY
              go_wp2
              go_roundg (TA.length - (i + 1))
              case measure => have := HK3.out; have := HI.out; omega
              case rel => exact ⟨i + 1, rfl, by have := HI.out; omega, by go_num, NZ.out⟩
end Go.Proofs.YtndefnomefdhoaaDoor
