import Derived.Test.YtncpjgpioajbeaaGreatDoorNzB
/- Nonces: the closure that draws a candidate. -/
namespace Go.Proofs.YtncpjgpioajbeaaGreatDoor
open Go.RowKit Go.Sort

/-- What the drawing closure has captured: a mark for the first call, the stirring closure, K, V. -/
structure NxZ (W : World) (bf bs bk bv : Nat) (f : Bool) (s : KvZ) : Prop where
  mark : W.cell? ⟨bf, 0, none⟩ = some (.bool f)
  loose : W.frozen? ⟨bf, 0, none⟩ = false
  stir : W.cell? ⟨bs, 0, none⟩ = some (.func (.func 39) #[] #[.pointer (some ⟨bk, 0, none⟩), .pointer (some ⟨bv, 0, none⟩)])
  kv : KvAt W bk bv s
/-- The blocks are unlike one another, and no table. -/
def ApZ (bf bs bk bv : Nat) : Prop := bf ≠ bs ∧ bf ≠ bk ∧ bf ≠ bv ∧ bs ≠ bk ∧ bs ≠ bv ∧ bk ≠ bv ∧ (bk ≠ 2 ∧ bk ≠ 3) ∧ (bv ≠ 2 ∧ bv ≠ 3) ∧ (bf ≠ 2 ∧ bf ≠ 3)
def PsZ (bf bk bv : Nat) (k : Nat) : Prop := k = bf ∨ k = bk ∨ k = bv
theorem NxZ.keep {W w1 : World} {bf bs bk bv : Nat} {f : Bool} {s : KvZ} (h : NxZ W bf bs bk bv f s) (hb : Below W.heap.size W w1) : NxZ w1 bf bs bk bv f s :=
  ⟨S.cell_keep hb h.mark, by rw [hb.frozen (p := ⟨bf, 0, none⟩) (World.block_lt_of_cell? W _ h.mark)]; exact h.loose, S.cell_keep hb h.stir, h.kv.keep hb⟩
theorem byo_iv {W : World} {b : Nat} {M : List (BitVec 8)} (h : S.Hsh W b M) : ∀ i, i < (ivZ M).length → W.cell? ⟨b, 0 + i, none⟩ = some (.int .u8 ((ivZ M).getD i 0)) := fun i hi => by
  rw [ivZ_len] at hi
  rw [Nat.zero_add, ivZ_at hi]
  exact h.2.1 i (by have := h.1; omega)
theorem BtZ.blank {P : Nat → Prop} {w w' : World} (h : BtZ P w w') {b : Nat} (hp : ¬ P b) (hh : Blank w b) : Blank w' b :=
  ⟨fun i hi => h.cell (p := ⟨b, i, none⟩) hp (hh.1 i hi), fun i hi => by rw [World.frozen?_of_block (h.block b (hh.1.lt (by simp)) hp)]; exact hh.2 i hi⟩
theorem BtZ.loose {P : Nat → Prop} {w w' : World} (h : BtZ P w w') {b : Nat} (hp : ¬ P b) (hl : b < w.heap.size) (hh : w.frozen? ⟨b, 0, none⟩ = false) : w'.frozen? ⟨b, 0, none⟩ = false := by
  rw [World.frozen?_of_block (h.block b hl hp)]; exact hh
/-- What holds ahead of the draw. -/
structure MdZ (w W : World) (bf bs bk bv : Nat) (s : KvZ) : Prop where
  nx : NxZ W bf bs bk bv false s
  tab : ShT W
  bt : BtZ (PsZ bf bk bv) w W
  res : Blank W w.heap.size
theorem BtZ.off_new {P : Nat → Prop} {w v u : World} (h : BtZ P w v) (k : S.Off w.heap.size v u) : BtZ P w u :=
  ⟨k.os.trans h.os, k.tape.trans h.tape, k.output.trans h.output, Nat.le_trans h.size k.size, fun i hi hb => (k.block i (Nat.lt_of_lt_of_le hi h.size) (by omega)).trans (h.block i hi hb)⟩
theorem NxZ.off {w v : World} {b bf bs bk bv : Nat} {f : Bool} {s : KvZ} (h : NxZ w bf bs bk bv f s) (k : S.Off b w v) (n1 : bf ≠ b) (n2 : bs ≠ b) (n3 : bk ≠ b) (n4 : bv ≠ b) : NxZ v bf bs bk bv f s :=
  ⟨k.cell (p := ⟨bf, 0, none⟩) n1 h.mark, by rw [World.frozen?_of_block (k.block bf (World.block_lt_of_cell? w _ h.mark) n1)]; exact h.loose, k.cell (p := ⟨bs, 0, none⟩) n2 h.stir, h.kv.1.off k n3, h.kv.2.off k n4⟩
theorem mark_offZ {W : World} {b : Nat} (v : Value) : S.Off b W (W.setCell ⟨b, 0, none⟩ v) := (S.Off.refl b W).setCell v

set_option maxRecDepth 100000 in
set_option maxHeartbeats 8000000 in
theorem next_first {bf bs bk bv : Nat} {s : KvZ} (w : World) (hx : NxZ w bf bs bk bv true s) (ha : ApZ bf bs bk bv) (ht : ShT w) :
    Calls Tryz.prog 41 #[.pointer (some ⟨bf, 0, none⟩), .pointer (some ⟨bs, 0, none⟩), .pointer (some ⟨bk, 0, none⟩), .pointer (some ⟨bv, 0, none⟩)] w fun e w' => e = .returned (.agg #[.int .u64 (l0 (sufN (ivZ (drawZ s).v) 32)), .int .u64 (l1 (sufN (ivZ (drawZ s).v) 32)), .int .u64 (l2 (sufN (ivZ (drawZ s).v) 32)), .int .u64 (l3 (sufN (ivZ (drawZ s).v) 32))]) ∧ NxZ w' bf bs bk bv false (drawZ s) ∧ BtZ (PsZ bf bk bv) w w' := by
  have HA : Hid (ApZ bf bs bk bv) := ha
  have B0 : ∀ o, Below w.heap.size w (w.alloc o) := fun o => (Below.refl _ _).alloc (Nat.le_refl _) o
  have HX : Hid (NxZ w bf bs bk bv true s ∧ ShT w) := ⟨hx, ht⟩
  have HB : Hid (∀ o, Below w.heap.size w (w.alloc o)) := B0
  have bflt := World.block_lt_of_cell? w _ hx.mark
  have LT : Hid (bf < w.heap.size ∧ bs < w.heap.size ∧ bk < w.heap.size ∧ bv < w.heap.size) := ⟨bflt, World.block_lt_of_cell? w _ hx.stir, hx.kv.1.lt, hx.kv.2.lt⟩
  have c1 := fun o => (hx.keep (B0 o)).mark
  have c2 := fun o => (hx.keep (B0 o)).stir
  have c3 := fun o => (hx.keep (B0 o)).loose
  clear hx ht ha B0
  obtain ⟨r, er⟩ : ∃ r, r = drawZ s := ⟨_, rfl⟩
  rw [← er]
  have ER : Hid (r = drawZ s) := er
  clear er
  go_enter Tryz.func41, Tryz.ntmps41
  go_wp2_with fail
  obtain ⟨s1, es1⟩ : ∃ s1, s1 = s := ⟨_, rfl⟩
  have ES : Hid (r = drawZ s1) := by rw [es1]; exact ER.out
  have M0 : ∀ z, MdZ w ((w.setCell ⟨bf, 0, none⟩ (.bool false)).alloc (.cells #[.int .u64 0, .int .u64 0, .int .u64 0, .int .u64 0] z)) bf bs bk bv s1 := fun z => by
    rw [es1]
    obtain ⟨a1, a2, a3, a4, a5, a6, a7, a8, a9⟩ := HA.out
    have o1 := mark_offZ (W := w) (b := bf) (.bool false)
    have b1 : BtZ (PsZ bf bk bv) w (w.setCell ⟨bf, 0, none⟩ (.bool false)) := BtZ.off (.inl rfl) o1
    have nx : NxZ (w.setCell ⟨bf, 0, none⟩ (.bool false)) bf bs bk bv false s := ⟨by rw [World.cell?_setCell_same _ _ _ HX.out.1.mark], by rw [World.frozen?_setCell]; exact HX.out.1.loose, o1.cell (p := ⟨bs, 0, none⟩) (Ne.symm a1) HX.out.1.stir, HX.out.1.kv.1.off o1 (Ne.symm a2), HX.out.1.kv.2.off o1 (Ne.symm a3)⟩
    have tb : ShT (w.setCell ⟨bf, 0, none⟩ (.bool false)) := ⟨fun i hi => o1.cell (Ne.symm a9.1) (HX.out.2.1 i hi), fun i hi => o1.cell (Ne.symm a9.2) (HX.out.2.2 i hi)⟩
    have b2 := (Below.refl (w.setCell ⟨bf, 0, none⟩ (.bool false)).heap.size _).alloc (Nat.le_refl _) (.cells #[.int .u64 0, .int .u64 0, .int .u64 0, .int .u64 0] z)
    exact ⟨nx.keep b2, tb.keep b2, b1.trans (BtZ.of_below b2), Blank.new (by simp)⟩
  refine wp_world (fun W => MdZ w W bf bs bk bv s1) (M0 _) ?_
  clear M0 es1 c1 c2 c3 ER
  rintro W HW
  refine wp_region_held_drew (S := fun _ => True) (by kernel_rfl) trivial (fun hHeld => ?_)
  refine takeZ (i := 0) (oi := _) (v := .slice (some ⟨bk, 0, none⟩) 32 32) 9 rfl (by kernel_rfl) (by kernel_rfl) (by kernel_rfl) (by kernel_rfl) (fun _ _ _ h => h) (Or.inl ⟨by kernel_rfl, ?_⟩) trivial ?_
  · intro wq hSw
    have _ := hSw
    go_simp
  simp only [Act.put, List.setIfInBounds_toArray, List.set_cons_succ, List.set_cons_zero]
  refine takeZ (i := 1) (oi := _) (v := .slice (some ⟨bv, 0, none⟩) 32 32) 10 rfl (by kernel_rfl) (by kernel_rfl) (by kernel_rfl) (by kernel_rfl) (fun _ _ _ h => h) (Or.inl ⟨by kernel_rfl, ?_⟩) trivial ?_
  · intro wq hSw
    have _ := hSw
    go_simp
  simp only [Act.put, List.setIfInBounds_toArray, List.set_cons_succ, List.set_cons_zero]
  refine wpAnyH_ready (rs := [2]) (by kernel_rfl) (by simp) ?_
  refine AllReadyH.cons rfl (fun K hK => ?_) AllReadyH.nil
  go_simp
  go_wp2_with fail
  have vl := HW.nx.kv.2.1
  refine worldZ (fun U => Below W.heap.size W U ∧ S.Prts U W.heap.size 0 [⟨some ⟨bv, 0, none⟩, bv, 0, 32, s1.v⟩]) ⟨((Below.refl _ _).alloc (Nat.le_refl _) _).drew, prtsZ (prts_oneZ rfl (by rw [S.Part.val, vl]) (Hsh_part HW.nx.kv.2 (Nat.le_refl _))) (Below.refl _ _).drew⟩ ?_
  rintro U ⟨BU, hP2⟩
  refine hK.out _ _ trivial (fun hHeld => ?_)
  clear hK K hHeld
  have CH : Hid (∀ _ : Nat, Calls Tryz.prog 40 #[.slice (some ⟨bk, 0, none⟩) 32 32, .slice (some ⟨W.heap.size, 0, none⟩) 1 1] U fun e w' => e = .returned (.agg (S.byts (S.hmacL s1.k s1.v)).toArray) ∧ Below U.heap.size U w') := fun _ => by
    have kl := HW.nx.kv.1.1
    have h := S.hmac_any (ka := some ⟨bk, 0, none⟩) (kb := bk) (ko := 0) (kc := 32) (X := s1.k) (a := some ⟨W.heap.size, 0, none⟩) (bp := W.heap.size) (op := 0) (cp := 1) (PS := [⟨some ⟨bv, 0, none⟩, bv, 0, 32, s1.v⟩]) (by omega) (by omega) (.inr rfl) (by simp only [S.catX, List.flatMap_cons, List.flatMap_nil, List.append_nil]; omega) (by show 1 ≤ _; omega) (.inr rfl) U (okZ (Hsh_part HW.nx.kv.1 (Nat.le_refl 32)) BU).2.2 hP2 (HW.tab.keep BU).1 (HW.tab.keep BU).2
    rw [kl] at h
    have cx : S.catX [⟨some ⟨bv, 0, none⟩, bv, 0, 32, s1.v⟩] = s1.v := by simp [S.catX]
    rw [cx] at h
    exact h
  clear vl
  obtain ⟨V1, eV1⟩ : ∃ V1, V1 = S.hmacL s1.k s1.v := ⟨_, rfl⟩
  rw [← eV1] at CH
  have l1 : V1.length = 32 := by rw [eV1, hmacL_len]
  have sz1 : (S.byts V1).toArray.size = 32 := by simp [S.byts_len, l1]
  have oc1 := S.one_byts V1
  have E2 : Hid ((⟨s1.k, V1⟩ : KvZ) = r ∧ V1.length = 32) := ⟨by rw [eV1, ES.out]; rfl, l1⟩
  clear eV1 l1
  obtain ⟨M2, eM⟩ : ∃ M, M = S.byts V1 := ⟨_, rfl⟩
  rw [← eM] at CH sz1 oc1
  refine wpAnyH_ready (rs := [3]) (by kernel_rfl) (by simp) ?_
  refine AllReadyH.cons rfl (fun K hK => ?_) AllReadyH.nil
  go_simp
  refine (CH.out 0).mono ?_
  rintro e y2 ⟨rfl, hbx⟩
  have BZ := BU.trans (hbx.mono BU.size)
  refine hK.out _ _ trivial (fun hHeld => ?_)
  clear hK K CH hHeld hbx BU hP2
  have tr := (HW.nx.kv.2.keep BZ).there
  rw [← sz1] at tr
  refine wpAnyH_ready (rs := [4]) (by kernel_rfl) (by simp) ?_
  refine AllReadyH.cons rfl (fun K hK => ?_) AllReadyH.nil
  refine (if_pos (by kernel_rfl)).mpr ?_
  refine wp_store_mid 26 _ _ rfl bv 0 M2.toArray rfl rfl tr (by rw [sz1]; kernel_rfl) oc1 ?_
  have LI : MdZ w (y2.setCells bv 0 M2) bf bs bk bv r := by
    rw [eM, ← E2.out.1]
    obtain ⟨a1, a2, a3, a4, a5, a6, a7, a8, a9⟩ := HA.out
    have n2 := HW.nx.keep BZ
    have h := stored_off (M := V1) n2.kv.2 E2.out.2
    have hbt : BtZ (fun k => k = bv) y2 (y2.setCells bv 0 (S.byts V1)) := BtZ.off rfl h.2
    have tb := HW.tab.keep BZ
    have rs := HW.res.keep BZ
    obtain ⟨l1, l2, l3, l4⟩ := LT.out
    exact ⟨⟨hbt.cell (p := ⟨bf, 0, none⟩) a3 n2.mark, hbt.loose a3 (World.block_lt_of_cell? y2 _ n2.mark) n2.loose, hbt.cell (p := ⟨bs, 0, none⟩) a5 n2.stir, n2.kv.1.off h.2 a6, h.1⟩, hbt.sht ⟨Ne.symm a8.1, Ne.symm a8.2⟩ tb, HW.bt.trans ((BtZ.of_below BZ).trans (hbt.wide fun k e => .inr (.inr e))), hbt.blank (by omega) rs⟩
  refine worldZ (fun V => MdZ w V bf bs bk bv r) LI ?_
  clear LI tr BZ sz1 oc1 eM HW E2 ES
  rintro V HV
  refine hK.out _ _ trivial (fun hHeld => ?_)
  clear hK K hHeld
  refine wpAnyH_done (by kernel_rfl) ?_ _
  go_wp2_with fail
  have WH : Hid (∀ W, S.Hsh W bv r.v → Calls Tryz.prog 42 #[.slice (some ⟨bv, 0, none⟩) 32 32] W fun e w' => e = .returned (.agg #[.int .u64 (l0 (sufN (ivZ r.v) 32)), .int .u64 (l1 (sufN (ivZ r.v) 32)), .int .u64 (l2 (sufN (ivZ r.v) 32)), .int .u64 (l3 (sufN (ivZ r.v) 32))]) ∧ Below W.heap.size W w') := fun W h => by
    have h32 : (ivZ r.v).length = 32 := by rw [ivZ_len]; exact h.1
    have := ewhole_any (ob := 0) (cb := 32) (ivZ_byts r.v) (by omega) W (byo_iv h)
    rw [h32] at this
    exact this
  obtain ⟨n, en⟩ : ∃ n, n = sufN (ivZ r.v) 32 := ⟨_, rfl⟩
  rw [← en] at WH
  have EN : Hid (n = sufN (ivZ r.v) 32) := en
  clear en
  have hv2 := HV.nx.kv.2
  with_reducible refine (WH.out _ hv2).mono ?_
  rintro e w3 ⟨rfl, hb⟩
  have hR := HV.res.keep hb
  have gR0 := hR.1.all4
  have fR0 := hR.2.all4
  have FIN : Hid (NxZ w3 bf bs bk bv false r ∧ BtZ (PsZ bf bk bv) w w3 ∧ w.heap.size < w3.heap.size) := ⟨HV.nx.keep hb, HV.bt.trans (BtZ.of_below hb), hR.1.lt (by simp)⟩
  clear hb HV hR WH hv2
  go_wp2
  simp [bodyPost, results, Tryz.results41, go_sem, *]
  obtain ⟨l1, l2, l3, l4⟩ := LT.out
  have o4 := fun v0 v1 v2 v3 => ((((S.Off.refl w.heap.size w3).setCell (i := 0) v0).setCell (i := 1) v1).setCell (i := 2) v2).setCell (i := 3) v3
  exact ⟨by rw [EN.out]; exact ⟨rfl, rfl, rfl, rfl⟩, FIN.out.1.off (o4 _ _ _ _) (by omega) (by omega) (by omega) (by omega), FIN.out.2.1.off_new (o4 _ _ _ _)⟩

set_option maxRecDepth 100000 in
set_option maxHeartbeats 8000000 in
theorem next_more {bf bs bk bv : Nat} {s : KvZ} (w : World) (hx : NxZ w bf bs bk bv false s) (ha : ApZ bf bs bk bv) (ht : ShT w) :
    Calls Tryz.prog 41 #[.pointer (some ⟨bf, 0, none⟩), .pointer (some ⟨bs, 0, none⟩), .pointer (some ⟨bk, 0, none⟩), .pointer (some ⟨bv, 0, none⟩)] w fun e w' => e = .returned (.agg #[.int .u64 (l0 (sufN (ivZ (drawZ (stirZ s [0])).v) 32)), .int .u64 (l1 (sufN (ivZ (drawZ (stirZ s [0])).v) 32)), .int .u64 (l2 (sufN (ivZ (drawZ (stirZ s [0])).v) 32)), .int .u64 (l3 (sufN (ivZ (drawZ (stirZ s [0])).v) 32))]) ∧ NxZ w' bf bs bk bv false (drawZ (stirZ s [0])) ∧ BtZ (PsZ bf bk bv) w w' := by
  have HA : Hid (ApZ bf bs bk bv) := ha
  have B0 : ∀ o, Below w.heap.size w (w.alloc o) := fun o => (Below.refl _ _).alloc (Nat.le_refl _) o
  have HX : Hid (NxZ w bf bs bk bv false s ∧ ShT w) := ⟨hx, ht⟩
  have HB : Hid (∀ o, Below w.heap.size w (w.alloc o)) := B0
  have bflt := World.block_lt_of_cell? w _ hx.mark
  have LT : Hid (bf < w.heap.size ∧ bs < w.heap.size ∧ bk < w.heap.size ∧ bv < w.heap.size) := ⟨bflt, World.block_lt_of_cell? w _ hx.stir, hx.kv.1.lt, hx.kv.2.lt⟩
  have c1 := fun o => (hx.keep (B0 o)).mark
  have c2 := fun o => (hx.keep (B0 o)).stir
  have c3 := fun o => (hx.keep (B0 o)).loose
  clear hx ht ha B0
  obtain ⟨r, er⟩ : ∃ r, r = drawZ (stirZ s [0]) := ⟨_, rfl⟩
  rw [← er]
  have ER : Hid (r = drawZ (stirZ s [0])) := er
  clear er
  go_enter Tryz.func41, Tryz.ntmps41
  go_wp2_with fail
  obtain ⟨s1, es1⟩ : ∃ s1, s1 = stirZ s ([0] ++ S.catX []) := ⟨_, rfl⟩
  have ES : Hid (r = drawZ s1) := by rw [es1]; exact ER.out
  refine calls_world (fun W => Below w.heap.size w W ∧ Blank W w.heap.size) ⟨HB.out _, Blank.new rfl⟩ ?_
  rintro W1 ⟨BW, hbl⟩
  have nx1 := HX.out.1.keep BW
  have HM : Hid (BtZ (PsZ bf bk bv) w W1 ∧ Blank W1 w.heap.size ∧ NxZ W1 bf bs bk bv false s ∧ ShT W1) := ⟨BtZ.of_below BW, hbl, nx1, HX.out.2.keep BW⟩
  refine (stir_any (m := 0) (mb := 0) (PS := []) (n := 0) (cp := 0) (a := none) (bp := 0) (op := 0) S.Y_zero rfl (by decide) (.inl ⟨rfl, rfl, rfl⟩) (by show 0 < _; decide) HA.out.2.2.2.2.2.1 W1 nx1.kv (fun i hi => absurd hi (Nat.not_lt_zero _)) (HX.out.2.keep BW) ⟨HA.out.2.2.2.2.2.2.1, HA.out.2.2.2.2.2.2.2.1⟩).mono ?_
  rw [← es1]
  clear BW hbl nx1
  rintro e w2 ⟨rfl, hkv, hbt⟩
  have M1 : MdZ w w2 bf bs bk bv s1 := by
    obtain ⟨a1, a2, a3, a4, a5, a6, a7, a8, a9⟩ := HA.out
    obtain ⟨m1, m2, m3, m4⟩ := HM.out
    have np : ∀ {x : Nat}, x ≠ bk → x ≠ bv → ¬ (x = bk ∨ x = bv) := fun h1 h2 h => h.elim h1 h2
    obtain ⟨l1, l2, l3, l4⟩ := LT.out
    exact ⟨⟨hbt.cell (p := ⟨bf, 0, none⟩) (np a2 a3) m3.mark, hbt.loose (np a2 a3) (World.block_lt_of_cell? W1 _ m3.mark) m3.loose, hbt.cell (p := ⟨bs, 0, none⟩) (np a4 a5) m3.stir, hkv⟩, hbt.sht ⟨np (Ne.symm a7.1) (Ne.symm a8.1), np (Ne.symm a7.2) (Ne.symm a8.2)⟩ m4, m1.trans (hbt.wide fun k h => .inr h), hbt.blank (np (by omega) (by omega)) m2⟩
  clear HM hkv hbt W1 es1 c1 c2 c3 ER
  have fz := M1.nx.loose
  have mk := M1.nx.mark
  have M2 : Hid (MdZ w (w2.setCell ⟨bf, 0, none⟩ (.bool false)) bf bs bk bv s1) := by
    obtain ⟨a1, a2, a3, a4, a5, a6, a7, a8, a9⟩ := HA.out
    have o1 := mark_offZ (W := w2) (b := bf) (.bool false)
    have nx : NxZ (w2.setCell ⟨bf, 0, none⟩ (.bool false)) bf bs bk bv false s1 := ⟨by rw [World.cell?_setCell_same _ _ _ M1.nx.mark], by rw [World.frozen?_setCell]; exact M1.nx.loose, o1.cell (p := ⟨bs, 0, none⟩) (Ne.symm a1) M1.nx.stir, M1.nx.kv.1.off o1 (Ne.symm a2), M1.nx.kv.2.off o1 (Ne.symm a3)⟩
    obtain ⟨l1, l2, l3, l4⟩ := LT.out
    exact ⟨nx, ⟨fun i hi => o1.cell (Ne.symm a9.1) (M1.tab.1 i hi), fun i hi => o1.cell (Ne.symm a9.2) (M1.tab.2 i hi)⟩, M1.bt.trans (BtZ.off (.inl rfl) o1), M1.res.set (by omega) _⟩
  clear M1
  go_wp2_with fail
  refine wp_world (fun W => MdZ w W bf bs bk bv s1) M2.out ?_
  clear M2 fz mk
  rintro W HW
  refine wp_region_held_drew (S := fun _ => True) (by kernel_rfl) trivial (fun hHeld => ?_)
  refine takeZ (i := 0) (oi := _) (v := .slice (some ⟨bk, 0, none⟩) 32 32) 9 rfl (by kernel_rfl) (by kernel_rfl) (by kernel_rfl) (by kernel_rfl) (fun _ _ _ h => h) (Or.inl ⟨by kernel_rfl, ?_⟩) trivial ?_
  · intro wq hSw
    have _ := hSw
    go_simp
  simp only [Act.put, List.setIfInBounds_toArray, List.set_cons_succ, List.set_cons_zero]
  refine takeZ (i := 1) (oi := _) (v := .slice (some ⟨bv, 0, none⟩) 32 32) 10 rfl (by kernel_rfl) (by kernel_rfl) (by kernel_rfl) (by kernel_rfl) (fun _ _ _ h => h) (Or.inl ⟨by kernel_rfl, ?_⟩) trivial ?_
  · intro wq hSw
    have _ := hSw
    go_simp
  simp only [Act.put, List.setIfInBounds_toArray, List.set_cons_succ, List.set_cons_zero]
  refine wpAnyH_ready (rs := [2]) (by kernel_rfl) (by simp) ?_
  refine AllReadyH.cons rfl (fun K hK => ?_) AllReadyH.nil
  go_simp
  go_wp2_with fail
  have vl := HW.nx.kv.2.1
  refine worldZ (fun U => Below W.heap.size W U ∧ S.Prts U W.heap.size 0 [⟨some ⟨bv, 0, none⟩, bv, 0, 32, s1.v⟩]) ⟨((Below.refl _ _).alloc (Nat.le_refl _) _).drew, prtsZ (prts_oneZ rfl (by rw [S.Part.val, vl]) (Hsh_part HW.nx.kv.2 (Nat.le_refl _))) (Below.refl _ _).drew⟩ ?_
  rintro U ⟨BU, hP2⟩
  refine hK.out _ _ trivial (fun hHeld => ?_)
  clear hK K hHeld
  have CH : Hid (∀ _ : Nat, Calls Tryz.prog 40 #[.slice (some ⟨bk, 0, none⟩) 32 32, .slice (some ⟨W.heap.size, 0, none⟩) 1 1] U fun e w' => e = .returned (.agg (S.byts (S.hmacL s1.k s1.v)).toArray) ∧ Below U.heap.size U w') := fun _ => by
    have kl := HW.nx.kv.1.1
    have h := S.hmac_any (ka := some ⟨bk, 0, none⟩) (kb := bk) (ko := 0) (kc := 32) (X := s1.k) (a := some ⟨W.heap.size, 0, none⟩) (bp := W.heap.size) (op := 0) (cp := 1) (PS := [⟨some ⟨bv, 0, none⟩, bv, 0, 32, s1.v⟩]) (by omega) (by omega) (.inr rfl) (by simp only [S.catX, List.flatMap_cons, List.flatMap_nil, List.append_nil]; omega) (by show 1 ≤ _; omega) (.inr rfl) U (okZ (Hsh_part HW.nx.kv.1 (Nat.le_refl 32)) BU).2.2 hP2 (HW.tab.keep BU).1 (HW.tab.keep BU).2
    rw [kl] at h
    have cx : S.catX [⟨some ⟨bv, 0, none⟩, bv, 0, 32, s1.v⟩] = s1.v := by simp [S.catX]
    rw [cx] at h
    exact h
  clear vl
  obtain ⟨V1, eV1⟩ : ∃ V1, V1 = S.hmacL s1.k s1.v := ⟨_, rfl⟩
  rw [← eV1] at CH
  have l1 : V1.length = 32 := by rw [eV1, hmacL_len]
  have sz1 : (S.byts V1).toArray.size = 32 := by simp [S.byts_len, l1]
  have oc1 := S.one_byts V1
  have E2 : Hid ((⟨s1.k, V1⟩ : KvZ) = r ∧ V1.length = 32) := ⟨by rw [eV1, ES.out]; rfl, l1⟩
  clear eV1 l1
  obtain ⟨M2, eM⟩ : ∃ M, M = S.byts V1 := ⟨_, rfl⟩
  rw [← eM] at CH sz1 oc1
  refine wpAnyH_ready (rs := [3]) (by kernel_rfl) (by simp) ?_
  refine AllReadyH.cons rfl (fun K hK => ?_) AllReadyH.nil
  go_simp
  refine (CH.out 0).mono ?_
  rintro e y2 ⟨rfl, hbx⟩
  have BZ := BU.trans (hbx.mono BU.size)
  refine hK.out _ _ trivial (fun hHeld => ?_)
  clear hK K CH hHeld hbx BU hP2
  have tr := (HW.nx.kv.2.keep BZ).there
  rw [← sz1] at tr
  refine wpAnyH_ready (rs := [4]) (by kernel_rfl) (by simp) ?_
  refine AllReadyH.cons rfl (fun K hK => ?_) AllReadyH.nil
  refine (if_pos (by kernel_rfl)).mpr ?_
  refine wp_store_mid 26 _ _ rfl bv 0 M2.toArray rfl rfl tr (by rw [sz1]; kernel_rfl) oc1 ?_
  have LI : MdZ w (y2.setCells bv 0 M2) bf bs bk bv r := by
    rw [eM, ← E2.out.1]
    obtain ⟨a1, a2, a3, a4, a5, a6, a7, a8, a9⟩ := HA.out
    have n2 := HW.nx.keep BZ
    have h := stored_off (M := V1) n2.kv.2 E2.out.2
    have hbt : BtZ (fun k => k = bv) y2 (y2.setCells bv 0 (S.byts V1)) := BtZ.off rfl h.2
    have tb := HW.tab.keep BZ
    have rs := HW.res.keep BZ
    obtain ⟨l1, l2, l3, l4⟩ := LT.out
    exact ⟨⟨hbt.cell (p := ⟨bf, 0, none⟩) a3 n2.mark, hbt.loose a3 (World.block_lt_of_cell? y2 _ n2.mark) n2.loose, hbt.cell (p := ⟨bs, 0, none⟩) a5 n2.stir, n2.kv.1.off h.2 a6, h.1⟩, hbt.sht ⟨Ne.symm a8.1, Ne.symm a8.2⟩ tb, HW.bt.trans ((BtZ.of_below BZ).trans (hbt.wide fun k e => .inr (.inr e))), hbt.blank (by omega) rs⟩
  refine worldZ (fun V => MdZ w V bf bs bk bv r) LI ?_
  clear LI tr BZ sz1 oc1 eM HW E2 ES
  rintro V HV
  refine hK.out _ _ trivial (fun hHeld => ?_)
  clear hK K hHeld
  refine wpAnyH_done (by kernel_rfl) ?_ _
  go_wp2_with fail
  have WH : Hid (∀ W, S.Hsh W bv r.v → Calls Tryz.prog 42 #[.slice (some ⟨bv, 0, none⟩) 32 32] W fun e w' => e = .returned (.agg #[.int .u64 (l0 (sufN (ivZ r.v) 32)), .int .u64 (l1 (sufN (ivZ r.v) 32)), .int .u64 (l2 (sufN (ivZ r.v) 32)), .int .u64 (l3 (sufN (ivZ r.v) 32))]) ∧ Below W.heap.size W w') := fun W h => by
    have h32 : (ivZ r.v).length = 32 := by rw [ivZ_len]; exact h.1
    have := ewhole_any (ob := 0) (cb := 32) (ivZ_byts r.v) (by omega) W (byo_iv h)
    rw [h32] at this
    exact this
  obtain ⟨n, en⟩ : ∃ n, n = sufN (ivZ r.v) 32 := ⟨_, rfl⟩
  rw [← en] at WH
  have EN : Hid (n = sufN (ivZ r.v) 32) := en
  clear en
  have hv2 := HV.nx.kv.2
  with_reducible refine (WH.out _ hv2).mono ?_
  rintro e w3 ⟨rfl, hb⟩
  have hR := HV.res.keep hb
  have gR0 := hR.1.all4
  have fR0 := hR.2.all4
  have FIN : Hid (NxZ w3 bf bs bk bv false r ∧ BtZ (PsZ bf bk bv) w w3 ∧ w.heap.size < w3.heap.size) := ⟨HV.nx.keep hb, HV.bt.trans (BtZ.of_below hb), hR.1.lt (by simp)⟩
  clear hb HV hR WH hv2
  go_wp2
  simp [bodyPost, results, Tryz.results41, go_sem, *]
  obtain ⟨l1, l2, l3, l4⟩ := LT.out
  have o4 := fun v0 v1 v2 v3 => ((((S.Off.refl w.heap.size w3).setCell (i := 0) v0).setCell (i := 1) v1).setCell (i := 2) v2).setCell (i := 3) v3
  exact ⟨by rw [EN.out]; exact ⟨rfl, rfl, rfl, rfl⟩, FIN.out.1.off (o4 _ _ _ _) (by omega) (by omega) (by omega) (by omega), FIN.out.2.1.off_new (o4 _ _ _ _)⟩
end Go.Proofs.YtncpjgpioajbeaaGreatDoor
