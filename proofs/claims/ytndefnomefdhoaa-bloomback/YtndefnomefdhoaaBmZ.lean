import Derived.Test.YtndefnomefdhoaaBmY
import Derived.Great.BuildSlice
import Derived.Great.FillDense
import Derived.Deep.RegionHeld
/- BloomBack. -/
namespace Go.Proofs.Ytndefnomefdhoaa
open Go.RowKit Go.Sort

theorem exit_frameB {K : Act → World → Prop} {Q : Exit → Act → World → Prop} {x : Exit} {a : Act} {w : World} (S : Act → Prop) (h : S a) (k : ∀ A, S A → Exit.then K Q x A w) : Exit.then K Q x a w := k a h
theorem wpAnyH_takeD {P : Program} {md : Region.Mode} {ops : Array Oper} {Q : Exit → Act → World → Prop} {S : World → Prop} {i : Nat} {oi : Oper} {v : Value} {fuel : Nat} {listed : Array Bool} {a : Act} {w : World} (d : Nat) (hi : ops[i]? = some oi) (hd : oi.dst = some d)
    (hs : Region.noSelect ops = true) (hf : Region.free md ops listed i = true) (hr : (Region.ready md ops listed).contains i = true)
    (hQ : ∀ c a w, Q (.panic c) (a.put oi.dst v) w → Q (.panic c) a w) (hy : YieldsIf P ops S oi v a) (hS : S w)
    (h : wpAnyH P md ops Q S fuel (listed.setIfInBounds i true) (a.put (some d) v) w) : wpAnyH P md ops Q S (fuel + 1) listed a w :=
  wpAnyH_take hi hs hf hr hQ hy hS (by rw [hd]; exact h)
/-- A slice of filters, built. -/
noncomputable def fcells (FS : List (List (BitVec 8))) : Array Value := (FS.flatMap byts).toArray
theorem wp_build_blooms {o : Oper} {a : Act} {w : World} {K : Act → World → Prop} {Q : Exit → Act → World → Prop} (n : Nat) (parts : Array (Nat × Operand)) (ho : o.op = .buildSlice 37 n parts)
    (FS : List (List (BitVec 8))) (hl : ∀ F ∈ FS, F.length = 256) (hn : FS.length = n) (h0 : 0 < n) (h3 : n < 3) (hp : (parts.map fun (i, x) => (i, a.eval x)).toList = ((FS.map fun F => Value.agg (byts F).toArray).zipIdx 0).map fun x => (x.2, x.1))
    (h : K (a.put o.dst (.slice (some ⟨w.heap.size, 0, none⟩) n n)) (w.alloc (.cells (fcells FS) 24))) : o.wp Try.prog a w K Q := by
  unfold fcells at h
  have hi : (Try.prog.info? 24).map (fun i => (i.zero, i.size)) = some (some (.agg (List.replicate 256 (Value.int .u8 0)).toArray), 256) := by kernel_rfl
  generalize hz : Value.agg (List.replicate 256 (Value.int .u8 0)).toArray = z at hi
  cases hq : Try.prog.info? 24 with
  | none => rw [hq] at hi; cases hi
  | some ie =>
    rw [hq] at hi
    simp only [Option.map_some, Option.some.injEq, Prod.mk.injEq] at hi
    refine wp_buildSlice 37 24 n parts ho (FS.flatMap byts).toArray ie z Try.underlying37 hq hi.1 (by rw [hi.2]; omega) (by rw [hi.2]; omega) ?_ h
    rw [hp, hi.2]
    have f := Go.Great.fill_whole (s := 256) (by decide) (FS.map fun F => Value.agg (byts F).toArray) ((Array.range (n * 256)).map (z.cells[· % z.cells.size]!)) (fun v hv => by
      obtain ⟨F, hF, rfl⟩ := List.mem_map.1 hv
      show (byts F).toArray.size = 256
      rw [List.size_toArray, byts_len, hl F hF]) (by simp [hn])
    rw [f]
    congr 2
    rw [List.flatMap_map]
    rfl
theorem fls_new {W : World} (FS : List (List (BitVec 8))) (hl : ∀ F ∈ FS, F.length = 256) : Fls (W.alloc (.cells (fcells FS) 24)) W.heap.size 0 FS := by
  unfold fcells
  intro k hk
  have e : FS.getD k zF = FS[k] := by rw [List.getD, List.getElem?_eq_getElem hk]; rfl
  have lk : (FS.getD k zF).length = 256 := by rw [e]; exact hl _ (List.getElem_mem hk)
  refine ⟨lk, fun j v hv => ?_⟩
  rw [Nat.zero_add, World.cell?_alloc_mark]
  have hj : j < 256 := by
    have := (List.getElem?_eq_some_iff.1 hv).1
    rwa [byts_len, lk] at this
  have flat : ∀ (l : List (List (BitVec 8))) (k : Nat), (∀ F ∈ l, F.length = 256) → k < l.length → (l.flatMap byts)[k * 256 + j]? = (byts (l.getD k zF))[j]? := by
    intro l
    induction l with
    | nil => intro k _ h; simp at h
    | cons F l ih =>
      intro k hl h
      have lF : (byts F).length = 256 := by rw [byts_len]; exact hl F (by simp)
      rw [List.flatMap_cons]
      cases k with
      | zero => rw [Nat.zero_mul, Nat.zero_add, List.getElem?_append_left (by omega)]; rfl
      | succ k =>
        rw [List.getElem?_append_right (by omega), lF, show (k + 1) * 256 + j - 256 = k * 256 + j by omega, ih k (fun G hG => hl G (by simp [hG])) (by simpa using h)]
        rfl
  have h := flat FS k hl hk
  rw [hv] at h
  simpa using h
theorem bits_lt {F : List (BitVec 8)} {i : Nat} (h : i < (bitsF F).length) : (bitsF F).getD i 0 < 2048 := by
  rw [List.getD, List.getElem?_eq_getElem h]
  exact bitsF_lt (List.getElem_mem h)
theorem bits_up {F : List (BitVec 8)} {i : Nat} (h : i + 1 < (bitsF F).length) : (bitsF F).getD i 0 < (bitsF F).getD (i + 1) 0 := by
  have p : (bitsF F).Pairwise (· < ·) := List.Pairwise.filter _ List.pairwise_lt_range
  rw [List.getD, List.getElem?_eq_getElem (by omega), List.getD, List.getElem?_eq_getElem h]
  exact List.pairwise_iff_getElem.1 p i (i + 1) (by omega) h (by omega)
theorem orA_one {A : List (BitVec 8)} (hA : A.length = 256) : orA zF [A] = A := orF_zero hA
theorem orA_two {A B : List (BitVec 8)} (hA : A.length = 256) : orA zF [A, B] = orF A B := by
  show orF (orF zF A) B = _
  rw [orF_zero hA]

set_option maxRecDepth 100000 in
set_option maxHeartbeats 32000000 in
theorem back_any {A B : List (BitVec 8)} (hA : A.length = 256) (hB : B.length = 256) (w : World) :
    Calls Try.prog 4 #[.agg (byts A).toArray, .agg (byts B).toArray] w fun e w' => e = .returned (.bool true) ∧ Below w.heap.size w w' := by
  have HL : Hid (A.length = 256 ∧ B.length = 256) := ⟨hA, hB⟩
  have icA := size_bloom hA
  have icB := size_bloom hB
  have r0 : ∀ t t', ((w.alloc (.cells (byts A).toArray t)).alloc (.cells (byts B).toArray t')).rangeAt w.heap.size 0 (byts A) := fun t t' => ((Blm.new hA t rfl).alloc _).range
  clear hA hB
  go_enter Try.func4, Try.ntmps4
  go_wp2_with (refine wpList_load_mid rfl 24 _ rfl w.heap.size 0 rfl (byts A) _ (r0 _ _) Try.underlying24 rfl icA ?_)
  refine calls_world (fun W => Below w.heap.size w W ∧ Blm W w.heap.size A ∧ Blm W (w.heap.size + 1) B) ⟨((Below.refl _ _).alloc (Nat.le_refl _) _).alloc (by simp) _, (Blm.new HL.out.1 _ rfl).alloc _, Blm.new HL.out.2 _ (by simp)⟩ ?_
  rintro W ⟨B0, M0, N0⟩
  clear r0
  refine (bits_any HL.out.1 W).mono ?_
  rintro e w1 ⟨v, rfl, hO, hb⟩
  obtain ⟨L, hLn⟩ : ∃ L, L = natI (bitsF A) := ⟨_, rfl⟩
  rw [← hLn] at hO
  obtain ⟨al, g, cl, rfl, hat, hix⟩ := hO.lies
  have lL : L.length = cntF A := by rw [hLn, natI_len]; rfl
  have HB : Hid (L = natI (bitsF A) ∧ L.length = cntF A ∧ AtI al g 0 L ∧ L.length ≤ 2048) := ⟨hLn, lL, hat, by rw [lL]; exact cntF_le A⟩
  have n1 : ((L.length : Nat) : Int) ≤ 2048 := by have := HB.out.2.2.2; omega
  have S1 : Hid (Below w.heap.size w w1 ∧ Blm w1 w.heap.size A ∧ Blm w1 (w.heap.size + 1) B ∧ Ixs w1 g 0 L) := ⟨B0.trans (hb.mono B0.size), M0.keep hb, N0.keep hb, hix⟩
  clear B0 M0 N0 hb hO hix hat lL hLn
  have mk1 := make_any (a := al) (bp := g) (op := 0) (cp := cl) (by have := HB.out.2.2.2; omega) HB.out.2.2.1 w1 S1.out.2.2.2
  have em : mkF L zF = (A, 0) := by
    rw [HB.out.1, natI, mkF_sets _ (fun x hx => bitsF_lt hx), setsF_bits HL.out.1]
  rw [em] at mk1
  simp only at mk1
  clear em
  go_wp2_with fail
  refine mk1.mono ?_
  clear mk1
  rintro e w2 ⟨rfl, hb⟩
  have S2 : Hid (Below w.heap.size w w2 ∧ Blm w2 w.heap.size A ∧ Blm w2 (w.heap.size + 1) B ∧ Ixs w2 g 0 L) := ⟨S1.out.1.trans (hb.mono S1.out.1.size), S1.out.2.1.keep hb, S1.out.2.2.1.keep hb, S1.out.2.2.2.keep hb⟩
  clear hb S1
  have ia := size_bloomA HL.out.1
  have oc := one_byts A
  have sz : (byts A).toArray.size = 256 := by rw [List.size_toArray, byts_len, HL.out.1]
  have TH : ∀ t, (w2.alloc (.cells (byts zF).toArray t)).there w2.heap.size 0 (byts A).toArray.size := fun t => by rw [sz]; exact (Blm.new zF_len t rfl).there
  have W3' : ∀ t, Hid (Below w.heap.size w ((w2.alloc (.cells (byts zF).toArray t)).setCells w2.heap.size 0 (byts A)) ∧ Blm ((w2.alloc (.cells (byts zF).toArray t)).setCells w2.heap.size 0 (byts A)) w.heap.size A ∧ Blm ((w2.alloc (.cells (byts zF).toArray t)).setCells w2.heap.size 0 (byts A)) (w.heap.size + 1) B ∧ Blm ((w2.alloc (.cells (byts zF).toArray t)).setCells w2.heap.size 0 (byts A)) w2.heap.size A ∧ Ixs ((w2.alloc (.cells (byts zF).toArray t)).setCells w2.heap.size 0 (byts A)) g 0 L) := fun t => ⟨below_setCells S2.out.1.size _ 0 _ (S2.out.1.alloc S2.out.1.size _), (S2.out.2.1.alloc _).otherCells (Nat.ne_of_gt S2.out.2.1.lt) _, (S2.out.2.2.1.alloc _).otherCells (Nat.ne_of_gt S2.out.2.2.1.lt) _, (Blm.new zF_len t rfl).stored HL.out.1, fun i hi => by
    have hc := S2.out.2.2.2 i hi
    have hlt := World.block_lt_of_cell? w2 _ hc
    rw [World.cell?_setCells_out _ _ _ _ _ (fun e => absurd e (Nat.ne_of_lt hlt))]
    exact cell_keep ((Below.refl _ _).alloc (Nat.le_refl _) _) hc⟩
  have eqA := fun w => eq_bloom HL.out.1 HL.out.1 w
  rw [decide_eq_true rfl] at eqA
  go_wp2_with (first | refine wpList_alloc_zero rfl 24 rfl _ zero_bloom ?_ | (refine wpList_store_mid rfl 24 _ _ rfl w2.heap.size 0 _ rfl rfl (TH _) ia oc ?_; refine wpList_world (fun W => Below w.heap.size w W ∧ Blm W w.heap.size A ∧ Blm W (w.heap.size + 1) B ∧ Blm W w2.heap.size A ∧ Ixs W g 0 L) (W3' _).out ?_; clear W3' TH; rintro W3 h3; have ST : Hid (Below w.heap.size w W3 ∧ Blm W3 w.heap.size A ∧ Blm W3 (w.heap.size + 1) B ∧ Blm W3 w2.heap.size A ∧ Ixs W3 g 0 L) := h3; clear h3 S2))
  try simp only [Act.put]
  generalize w2.heap.size = b6 at *
  generalize hb3 : w.heap.size + 1 = b3 at *
  obtain ⟨b2, hb2⟩ : ∃ b2, b2 = w.heap.size := ⟨_, rfl⟩
  rw [← hb2] at ST ⊢
  have HB2 : Hid (b2 = w.heap.size ∧ w.heap.size + 1 = b3) := ⟨hb2, hb3⟩
  clear hb2 hb3
  have WAA : Hid (∀ W : World, Calls Try.prog 12 #[.agg (byts A).toArray, .agg (byts A).toArray] W fun e w' => e = .returned (.bool true) ∧ Below W.heap.size W w') := fun W => by
    have h := within_any HL.out.1 HL.out.1 W
    rw [inF_self HL.out.1] at h
    exact h
  have l1 : ∀ F ∈ [A], F.length = 256 := fun F hF => by simp at hF; rw [hF]; exact HL.out.1
  have UA : Hid (∀ (W : World) (b : Nat), Fls W b 0 [A] → Calls Try.prog 13 #[.slice (some ⟨b, 0, none⟩) 1 1] W fun e w' => e = .returned (.agg (byts A).toArray) ∧ Below W.heap.size W w') := fun W b h => by
    have u := union_any (a := some ⟨b, 0, none⟩) (bp := b) (op := 0) (cp := 1) (FS := [A]) (by simp) (.inr rfl) W h
    rw [orA_one HL.out.1] at u
    exact u
  have cn : ((cntF A : Nat) : Int) = (L.length : Int) := by rw [HB.out.2.1]
  have CAL : Hid (∀ W : World, Calls Try.prog 11 #[.agg (byts A).toArray] W fun e w' => e = .returned (.int .i64 (L.length : Int)) ∧ Below W.heap.size W w') := fun W => by
    have h := count_any HL.out.1 W
    rw [cn] at h
    exact h
  clear cn ia oc sz
  refine wp_region_held_drew (S := fun w' => Below W3.heap.size W3 w') (by kernel_rfl) ((Below.refl _ _).drew) (fun hHeld => ?_)
  refine wpAnyH_takeD (i := 0) (oi := _) (v := .int .i64 0) 17 rfl (by kernel_rfl) (by kernel_rfl) (by kernel_rfl) (by kernel_rfl) (fun _ _ _ h => h) (Or.inl ⟨by kernel_rfl, ?_⟩) (by assumption) ?_
  · intro wq hSw
    first | (go_simp; done) | (go_simp; rfl) | (go_simp; exact WR.out)
  simp only [Act.put, List.setIfInBounds_toArray, List.set_cons_succ, List.set_cons_zero]
  refine wpAnyH_takeD (i := 1) (oi := _) (v := .bool false) 18 rfl (by kernel_rfl) (by kernel_rfl) (by kernel_rfl) (by kernel_rfl) (fun _ _ _ h => h) (Or.inl ⟨by kernel_rfl, ?_⟩) (by assumption) ?_
  · intro wq hSw
    first | (go_simp; done) | (go_simp; rfl) | (go_simp; exact WR.out)
  simp only [Act.put, List.setIfInBounds_toArray, List.set_cons_succ, List.set_cons_zero]
  refine wpAnyH_takeD (i := 2) (oi := _) (v := .bool false) 19 rfl (by kernel_rfl) (by kernel_rfl) (by kernel_rfl) (by kernel_rfl) (fun _ _ _ h => h) (Or.inl ⟨by kernel_rfl, ?_⟩) (by assumption) ?_
  · intro wq hSw
    first | (go_simp; done) | (go_simp; rfl) | (go_simp; exact WR.out)
  simp only [Act.put, List.setIfInBounds_toArray, List.set_cons_succ, List.set_cons_zero]
  refine wpAnyH_takeD (i := 3) (oi := _) (v := .agg (byts A).toArray) 20 rfl (by kernel_rfl) (by kernel_rfl) (by kernel_rfl) (by kernel_rfl) (fun _ _ _ h => h) (yieldsIf_load_mid (by kernel_rfl) _ _ rfl b6 0 rfl (byts A) _ (fun wq hq => (ST.out.2.2.2.1.keep hq).range) Try.underlying24 rfl icA) (by assumption) ?_
  simp only [Act.put, List.setIfInBounds_toArray, List.set_cons_succ, List.set_cons_zero]
  refine wpAnyH_takeD (i := 4) (oi := _) (v := .agg (byts A).toArray) 21 rfl (by kernel_rfl) (by kernel_rfl) (by kernel_rfl) (by kernel_rfl) (fun _ _ _ h => h) (yieldsIf_load_mid (by kernel_rfl) _ _ rfl b2 0 rfl (byts A) _ (fun wq hq => (ST.out.2.1.keep hq).range) Try.underlying24 rfl icA) (by assumption) ?_
  simp only [Act.put, List.setIfInBounds_toArray, List.set_cons_succ, List.set_cons_zero]
  refine wpAnyH_takeD (i := 5) (oi := _) (v := .bool false) 22 rfl (by kernel_rfl) (by kernel_rfl) (by kernel_rfl) (by kernel_rfl) (fun _ _ _ h => h) (Or.inl ⟨by kernel_rfl, ?_⟩) (by assumption) ?_
  · intro wq hSw
    first | (go_simp; done) | (go_simp; rfl) | (go_simp; exact WR.out)
  simp only [Act.put, List.setIfInBounds_toArray, List.set_cons_succ, List.set_cons_zero]
  refine wpAnyH_takeD (i := 6) (oi := _) (v := .bool false) 23 rfl (by kernel_rfl) (by kernel_rfl) (by kernel_rfl) (by kernel_rfl) (fun _ _ _ h => h) (Or.inl ⟨by kernel_rfl, ?_⟩) (by assumption) ?_
  · intro wq hSw
    first | (go_simp; done) | (go_simp; rfl) | (go_simp; exact WR.out)
  simp only [Act.put, List.setIfInBounds_toArray, List.set_cons_succ, List.set_cons_zero]
  refine wpAnyH_takeD (i := 7) (oi := _) (v := .bool false) 24 rfl (by kernel_rfl) (by kernel_rfl) (by kernel_rfl) (by kernel_rfl) (fun _ _ _ h => h) (Or.inl ⟨by kernel_rfl, ?_⟩) (by assumption) ?_
  · intro wq hSw
    first | (go_simp; done) | (go_simp; rfl) | (go_simp; exact WR.out)
  simp only [Act.put, List.setIfInBounds_toArray, List.set_cons_succ, List.set_cons_zero]
  refine wpAnyH_takeD (i := 8) (oi := _) (v := .agg (byts A).toArray) 25 rfl (by kernel_rfl) (by kernel_rfl) (by kernel_rfl) (by kernel_rfl) (fun _ _ _ h => h) (yieldsIf_load_mid (by kernel_rfl) _ _ rfl b2 0 rfl (byts A) _ (fun wq hq => (ST.out.2.1.keep hq).range) Try.underlying24 rfl icA) (by assumption) ?_
  simp only [Act.put, List.setIfInBounds_toArray, List.set_cons_succ, List.set_cons_zero]
  refine wpAnyH_takeD (i := 10) (oi := _) (v := .slice al L.length cl) 27 rfl (by kernel_rfl) (by kernel_rfl) (by kernel_rfl) (by kernel_rfl) (fun _ _ _ h => h) (Or.inl ⟨by kernel_rfl, ?_⟩) (by assumption) ?_
  · intro wq hSw
    first | (go_simp; done) | (go_simp; rfl) | (go_simp; exact WR.out)
  simp only [Act.put, List.setIfInBounds_toArray, List.set_cons_succ, List.set_cons_zero]
  refine wpAnyH_takeD (i := 11) (oi := _) (v := .int .i64 (L.length : Int)) 28 rfl (by kernel_rfl) (by kernel_rfl) (by kernel_rfl) (by kernel_rfl) (fun _ _ _ h => h) (Or.inl ⟨by kernel_rfl, ?_⟩) (by assumption) ?_
  · intro wq hSw
    first | (go_simp; done) | (go_simp; rfl) | (go_simp; exact WR.out)
  simp only [Act.put, List.setIfInBounds_toArray, List.set_cons_succ, List.set_cons_zero]
  refine wpAnyH_ready (rs := [9]) (by kernel_rfl) (by simp) ?_
  refine AllReadyH.cons rfl (fun K hK => ?_) AllReadyH.nil
  go_simp
  go_wp2_with (go_at_call 11; refine (CAL.out _).mono ?_; rintro e x ⟨rfl, hbx⟩)
  refine hK.out _ _ (hHeld.trans (hbx.mono hHeld.size)) (fun hHeld => ?_)
  clear hbx
  clear hK K
  refine wpAnyH_takeD (i := 12) (oi := _) (v := .bool false) 29 rfl (by kernel_rfl) (by kernel_rfl) (by kernel_rfl) (by kernel_rfl) (fun _ _ _ h => h) (Or.inl ⟨by kernel_rfl, ?_⟩) (by assumption) ?_
  · intro wq hSw
    first | (go_simp; done) | (go_simp; rfl) | (go_simp; exact WR.out)
  simp only [Act.put, List.setIfInBounds_toArray, List.set_cons_succ, List.set_cons_zero]
  refine wpAnyH_takeD (i := 13) (oi := _) (v := .bool false) 30 rfl (by kernel_rfl) (by kernel_rfl) (by kernel_rfl) (by kernel_rfl) (fun _ _ _ h => h) (Or.inl ⟨by kernel_rfl, ?_⟩) (by assumption) ?_
  · intro wq hSw
    first | (go_simp; done) | (go_simp; rfl) | (go_simp; exact WR.out)
  simp only [Act.put, List.setIfInBounds_toArray, List.set_cons_succ, List.set_cons_zero]
  refine wpAnyH_takeD (i := 14) (oi := _) (v := .bool false) 31 rfl (by kernel_rfl) (by kernel_rfl) (by kernel_rfl) (by kernel_rfl) (fun _ _ _ h => h) (Or.inl ⟨by kernel_rfl, ?_⟩) (by assumption) ?_
  · intro wq hSw
    first | (go_simp; done) | (go_simp; rfl) | (go_simp; exact WR.out)
  simp only [Act.put, List.setIfInBounds_toArray, List.set_cons_succ, List.set_cons_zero]
  refine wpAnyH_takeD (i := 15) (oi := _) (v := .agg (byts A).toArray) 32 rfl (by kernel_rfl) (by kernel_rfl) (by kernel_rfl) (by kernel_rfl) (fun _ _ _ h => h) (yieldsIf_load_mid (by kernel_rfl) _ _ rfl b2 0 rfl (byts A) _ (fun wq hq => (ST.out.2.1.keep hq).range) Try.underlying24 rfl icA) (by assumption) ?_
  simp only [Act.put, List.setIfInBounds_toArray, List.set_cons_succ, List.set_cons_zero]
  refine wpAnyH_takeD (i := 16) (oi := _) (v := .agg (byts A).toArray) 33 rfl (by kernel_rfl) (by kernel_rfl) (by kernel_rfl) (by kernel_rfl) (fun _ _ _ h => h) (yieldsIf_load_mid (by kernel_rfl) _ _ rfl b2 0 rfl (byts A) _ (fun wq hq => (ST.out.2.1.keep hq).range) Try.underlying24 rfl icA) (by assumption) ?_
  simp only [Act.put, List.setIfInBounds_toArray, List.set_cons_succ, List.set_cons_zero]
  refine wpAnyH_ready (rs := [17]) (by kernel_rfl) (by simp) ?_
  refine AllReadyH.cons rfl (fun K hK => ?_) AllReadyH.nil
  go_simp
  go_wp2_with (go_at_call 12; refine (WAA.out _).mono ?_; rintro e x ⟨rfl, hbx⟩)
  refine hK.out _ _ (hHeld.trans (hbx.mono hHeld.size)) (fun hHeld => ?_)
  clear hbx
  clear hK K
  refine wpAnyH_takeD (i := 18) (oi := _) (v := .bool false) 35 rfl (by kernel_rfl) (by kernel_rfl) (by kernel_rfl) (by kernel_rfl) (fun _ _ _ h => h) (Or.inl ⟨by kernel_rfl, ?_⟩) (by assumption) ?_
  · intro wq hSw
    first | (go_simp; done) | (go_simp; rfl) | (go_simp; exact WR.out)
  simp only [Act.put, List.setIfInBounds_toArray, List.set_cons_succ, List.set_cons_zero]
  refine wpAnyH_takeD (i := 19) (oi := _) (v := .bool false) 36 rfl (by kernel_rfl) (by kernel_rfl) (by kernel_rfl) (by kernel_rfl) (fun _ _ _ h => h) (Or.inl ⟨by kernel_rfl, ?_⟩) (by assumption) ?_
  · intro wq hSw
    first | (go_simp; done) | (go_simp; rfl) | (go_simp; exact WR.out)
  simp only [Act.put, List.setIfInBounds_toArray, List.set_cons_succ, List.set_cons_zero]
  refine wpAnyH_takeD (i := 20) (oi := _) (v := .bool false) 37 rfl (by kernel_rfl) (by kernel_rfl) (by kernel_rfl) (by kernel_rfl) (fun _ _ _ h => h) (Or.inl ⟨by kernel_rfl, ?_⟩) (by assumption) ?_
  · intro wq hSw
    first | (go_simp; done) | (go_simp; rfl) | (go_simp; exact WR.out)
  simp only [Act.put, List.setIfInBounds_toArray, List.set_cons_succ, List.set_cons_zero]
  refine wpAnyH_takeD (i := 21) (oi := _) (v := .agg (byts A).toArray) 38 rfl (by kernel_rfl) (by kernel_rfl) (by kernel_rfl) (by kernel_rfl) (fun _ _ _ h => h) (yieldsIf_load_mid (by kernel_rfl) _ _ rfl b2 0 rfl (byts A) _ (fun wq hq => (ST.out.2.1.keep hq).range) Try.underlying24 rfl icA) (by assumption) ?_
  simp only [Act.put, List.setIfInBounds_toArray, List.set_cons_succ, List.set_cons_zero]
  refine wpAnyH_takeD (i := 24) (oi := _) (v := .agg (byts A).toArray) 41 rfl (by kernel_rfl) (by kernel_rfl) (by kernel_rfl) (by kernel_rfl) (fun _ _ _ h => h) (yieldsIf_load_mid (by kernel_rfl) _ _ rfl b2 0 rfl (byts A) _ (fun wq hq => (ST.out.2.1.keep hq).range) Try.underlying24 rfl icA) (by assumption) ?_
  simp only [Act.put, List.setIfInBounds_toArray, List.set_cons_succ, List.set_cons_zero]
  refine wpAnyH_ready (rs := [22]) (by kernel_rfl) (by simp) ?_
  refine AllReadyH.cons rfl (fun K hK => ?_) AllReadyH.nil
  rw [if_pos (by kernel_rfl)]
  refine wp_build_blooms 1 _ rfl [A] l1 rfl (by decide) (by decide) (by simp [Act.eval, List.zipIdx]) ?_
  refine hK.out _ _ (hHeld.alloc hHeld.size _) (fun hHeld => ?_)
  clear hK K
  refine wpAnyH_ready (rs := [23]) (by kernel_rfl) (by simp) ?_
  refine AllReadyH.cons rfl (fun K hK => ?_) AllReadyH.nil
  go_simp
  go_wp2_with (go_at_call 13; refine (UA.out _ _ (fls_new [A] l1)).mono ?_; rintro e x ⟨rfl, hbx⟩)
  refine hK.out _ _ (hHeld.trans (hbx.mono hHeld.size)) (fun hHeld => ?_)
  clear hbx
  clear hK K
  refine wpAnyH_takeD (i := 25) (oi := _) (v := .bool false) 42 rfl (by kernel_rfl) (by kernel_rfl) (by kernel_rfl) (by kernel_rfl) (fun _ _ _ h => h) (Or.inl ⟨by kernel_rfl, ?_⟩) (by assumption) ?_
  · intro wq hSw
    first | (go_simp; done) | (go_simp; rfl) | (go_simp; exact WR.out)
  simp only [Act.put, List.setIfInBounds_toArray, List.set_cons_succ, List.set_cons_zero]
  refine wpAnyH_takeD (i := 26) (oi := _) (v := .bool false) 43 rfl (by kernel_rfl) (by kernel_rfl) (by kernel_rfl) (by kernel_rfl) (fun _ _ _ h => h) (Or.inl ⟨by kernel_rfl, ?_⟩) (by assumption) ?_
  · intro wq hSw
    first | (go_simp; done) | (go_simp; rfl) | (go_simp; exact WR.out)
  simp only [Act.put, List.setIfInBounds_toArray, List.set_cons_succ, List.set_cons_zero]
  refine wpAnyH_done (by kernel_rfl) ?_ _
  have SX : Hid (Below w.heap.size w x ∧ Blm x b2 A ∧ Blm x b3 B ∧ Ixs x g 0 L) := ⟨by have h := ST.out.1; rw [HB2.out.1] at h; exact h.trans (hHeld.mono h.size), ST.out.2.1.keep hHeld, ST.out.2.2.1.keep hHeld, ST.out.2.2.2.2.keep hHeld⟩
  clear hHeld ST WAA UA CAL eqA l1
  go_wp2_with fail
  go_loopg [8] L.length (fun k iv wr => ∃ i : Nat, k = L.length - i ∧ i ≤ L.length ∧ iv = .int .i64 i ∧ Below w.heap.size w wr ∧ Blm wr b2 A ∧ Blm wr b3 B ∧ Ixs wr g 0 L)
  case atStart => exact ⟨0, rfl, Nat.zero_le _, rfl, SX.out⟩
  case round =>
    clear SX
    obtain ⟨i, hk, hi, rfl, hR⟩ := hrel
    have HK : Hid (gk = L.length - i) := hk
    have SR : Hid (Below w.heap.size w wr ∧ Blm wr b2 A ∧ Blm wr b3 B ∧ Ixs wr g 0 L) := hR
    clear hk hR
    by_cases h8 : i = L.length
    · subst h8
      obtain ⟨U, hU⟩ : ∃ U, U = orF A B := ⟨_, rfl⟩
      have LU : Hid (U.length = 256 ∧ U = orF A B) := ⟨by rw [hU]; exact orF_len HL.out.1 HL.out.2, hU⟩
      clear hU
      have icU := size_bloom LU.out.1
      have l2 : ∀ F ∈ [B, A], F.length = 256 := fun F hF => by
        simp at hF
        rcases hF with h | h
        · rw [h]; exact HL.out.2
        · rw [h]; exact HL.out.1
      have l3 : ∀ F ∈ [A, B], F.length = 256 := fun F hF => by
        simp at hF
        rcases hF with h | h
        · rw [h]; exact HL.out.1
        · rw [h]; exact HL.out.2
      have UA2 : Hid (∀ (W : World) (b : Nat), Fls W b 0 [A, B] → Calls Try.prog 13 #[.slice (some ⟨b, 0, none⟩) 2 2] W fun e w' => e = .returned (.agg (byts U).toArray) ∧ Below W.heap.size W w') := fun W b h => by
        have u := union_any (a := some ⟨b, 0, none⟩) (bp := b) (op := 0) (cp := 2) (FS := [A, B]) (by simp) (.inr rfl) W h
        rw [orA_two HL.out.1, ← LU.out.2] at u
        exact u
      have UB : Hid (∀ (W : World) (b : Nat), Fls W b 0 [B, A] → Calls Try.prog 13 #[.slice (some ⟨b, 0, none⟩) 2 2] W fun e w' => e = .returned (.agg (byts U).toArray) ∧ Below W.heap.size W w') := fun W b h => by
        have u := union_any (a := some ⟨b, 0, none⟩) (bp := b) (op := 0) (cp := 2) (FS := [B, A]) (by simp) (.inr rfl) W h
        rw [orA_two HL.out.2, orF_comm HL.out.2 HL.out.1, ← LU.out.2] at u
        exact u
      obtain ⟨wv, hwv⟩ : ∃ wv, wv = decide (U = B) := ⟨_, rfl⟩
      have WAB : Hid (∀ W : World, Calls Try.prog 12 #[.agg (byts A).toArray, .agg (byts B).toArray] W fun e w' => e = .returned (.bool wv) ∧ Below W.heap.size W w') := fun W => by
        have h := within_any HL.out.1 HL.out.2 W
        rw [inF, ← LU.out.2, ← hwv] at h
        exact h
      have eqUB := fun w => eq_bloom LU.out.1 HL.out.2 w
      rw [← hwv] at eqUB
      have eqUU := fun w => eq_bloom LU.out.1 LU.out.1 w
      rw [decide_eq_true rfl] at eqUU
      have WBU : Hid (∀ W : World, Calls Try.prog 12 #[.agg (byts B).toArray, .agg (byts U).toArray] W fun e w' => e = .returned (.bool true) ∧ Below W.heap.size W w') := fun W => by
        have h := within_any HL.out.2 LU.out.1 W
        rw [LU.out.2, inF_right HL.out.1 HL.out.2, ← LU.out.2] at h
        exact h
      obtain ⟨cA, hcA⟩ : ∃ c, c = cntF A := ⟨_, rfl⟩
      obtain ⟨cB, hcB⟩ : ∃ c, c = cntF B := ⟨_, rfl⟩
      obtain ⟨cU, hcU⟩ : ∃ c, c = cntF U := ⟨_, rfl⟩
      have CA : Hid (∀ W : World, Calls Try.prog 11 #[.agg (byts A).toArray] W fun e w' => e = .returned (.int .i64 (cA : Int)) ∧ Below W.heap.size W w') := fun W => by rw [hcA]; exact count_any HL.out.1 W
      have CB : Hid (∀ W : World, Calls Try.prog 11 #[.agg (byts B).toArray] W fun e w' => e = .returned (.int .i64 (cB : Int)) ∧ Below W.heap.size W w') := fun W => by rw [hcB]; exact count_any HL.out.2 W
      have CU : Hid (∀ W : World, Calls Try.prog 11 #[.agg (byts U).toArray] W fun e w' => e = .returned (.int .i64 (cU : Int)) ∧ Below W.heap.size W w') := fun W => by rw [hcU]; exact count_any LU.out.1 W
      have q1 : (cA : Int) ≤ 2048 := by have := cntF_le A; omega
      have q2 : (cB : Int) ≤ 2048 := by have := cntF_le B; omega
      have q3 : (cU : Int) ≤ (cA : Int) + (cB : Int) := by
        have := cntF_or HL.out.1 HL.out.2
        rw [← LU.out.2] at this
        omega
      have q4 : decide ((cU : Int) ≤ (cA : Int) + (cB : Int)) = true := decide_eq_true q3
      have ww : (wv == wv) = true := beq_self_eq_true _
      have WR : Hid (IntKind.i64.wrap ((cA : Int) + (cB : Int)) = (cA : Int) + (cB : Int)) := by
        have h : IntKind.i64.wrap ((cA : Int) + (cB : Int)) = (cA : Int) + (cB : Int) := by rw [IntKind.wrap_i64]; omega
        exact h
      have rA := SR.out.2.1.range
      have rB := SR.out.2.2.1.range
      have ia := size_bloomA LU.out.1
      have oc := one_byts U
      have sz : (byts U).toArray.size = 256 := by rw [List.size_toArray, byts_len, LU.out.1]
      clear hwv hcA hcB hcU
      go_wp2_with (first | refine wpList_load_mid rfl 24 _ rfl b2 0 rfl (byts A) _ rA Try.underlying24 rfl icA ?_ | refine wpList_load_mid rfl 24 _ rfl b3 0 rfl (byts B) _ rB Try.underlying24 rfl icB ?_ | (refine wpList_plain rfl fun K hK => wp_build_blooms 2 _ rfl [A, B] l3 rfl (by decide) (by decide) (by simp [Act.eval, Act.put, List.zipIdx]) (hK _ _ ?_); clear hK K))
      refine (UA2.out _ _ (fls_new [A, B] l3)).mono ?_
      clear UA2 rA rB l3
      rintro e w7 ⟨rfl, hb⟩
      have S7 : Hid (Below w.heap.size w w7 ∧ Blm w7 b2 A ∧ Blm w7 b3 B) := by
        have h0 : Below wr.heap.size wr w7 := ((Below.refl _ _).alloc (Nat.le_refl _) _).trans (hb.mono (by simp))
        exact ⟨SR.out.1.trans (h0.mono SR.out.1.size), SR.out.2.1.keep h0, SR.out.2.2.1.keep h0⟩
      clear hb SR
      have TU : ∀ t, (w7.alloc (.cells (byts zF).toArray t)).there w7.heap.size 0 (byts U).toArray.size := fun t => by rw [sz]; exact (Blm.new zF_len t rfl).there
      have W9' : ∀ t, Hid (Below w.heap.size w ((w7.alloc (.cells (byts zF).toArray t)).setCells w7.heap.size 0 (byts U)) ∧ Blm ((w7.alloc (.cells (byts zF).toArray t)).setCells w7.heap.size 0 (byts U)) b2 A ∧ Blm ((w7.alloc (.cells (byts zF).toArray t)).setCells w7.heap.size 0 (byts U)) b3 B ∧ Blm ((w7.alloc (.cells (byts zF).toArray t)).setCells w7.heap.size 0 (byts U)) w7.heap.size U) := fun t => ⟨below_setCells S7.out.1.size _ 0 _ (S7.out.1.alloc S7.out.1.size _), (S7.out.2.1.alloc _).otherCells (Nat.ne_of_gt S7.out.2.1.lt) _, (S7.out.2.2.alloc _).otherCells (Nat.ne_of_gt S7.out.2.2.lt) _, (Blm.new zF_len t rfl).stored LU.out.1⟩
      go_wp2_with (first | refine wpList_alloc_zero rfl 24 rfl _ zero_bloom ?_ | (refine wpList_store_mid rfl 24 _ _ rfl w7.heap.size 0 _ rfl rfl (TU _) ia oc ?_; refine wpList_world (fun W => Below w.heap.size w W ∧ Blm W b2 A ∧ Blm W b3 B ∧ Blm W w7.heap.size U) (W9' _).out ?_; clear W9' TU; rintro W9 h9; have SU : Hid (Below w.heap.size w W9 ∧ Blm W9 b2 A ∧ Blm W9 b3 B ∧ Blm W9 w7.heap.size U) := h9; clear h9 S7))
      try simp only [Act.put]
      generalize w7.heap.size = b9 at *
      clear ia oc sz
      refine wp_region_held_drew (S := fun w' => Below W9.heap.size W9 w') (by kernel_rfl) ((Below.refl _ _).drew) (fun hHeld => ?_)
      refine wpAnyH_takeD (i := 0) (oi := _) (v := .agg (byts A).toArray) 82 rfl (by kernel_rfl) (by kernel_rfl) (by kernel_rfl) (by kernel_rfl) (fun _ _ _ h => h) (yieldsIf_load_mid (by kernel_rfl) _ _ rfl b2 0 rfl (byts A) _ (fun wq hq => (SU.out.2.1.keep hq).range) Try.underlying24 rfl icA) (by assumption) ?_
      simp only [Act.put, List.setIfInBounds_toArray, List.set_cons_succ, List.set_cons_zero]
      refine wpAnyH_takeD (i := 1) (oi := _) (v := .agg (byts B).toArray) 83 rfl (by kernel_rfl) (by kernel_rfl) (by kernel_rfl) (by kernel_rfl) (fun _ _ _ h => h) (yieldsIf_load_mid (by kernel_rfl) _ _ rfl b3 0 rfl (byts B) _ (fun wq hq => (SU.out.2.2.1.keep hq).range) Try.underlying24 rfl icB) (by assumption) ?_
      simp only [Act.put, List.setIfInBounds_toArray, List.set_cons_succ, List.set_cons_zero]
      refine wpAnyH_takeD (i := 3) (oi := _) (v := .agg (byts U).toArray) 85 rfl (by kernel_rfl) (by kernel_rfl) (by kernel_rfl) (by kernel_rfl) (fun _ _ _ h => h) (yieldsIf_load_mid (by kernel_rfl) _ _ rfl b9 0 rfl (byts U) _ (fun wq hq => (SU.out.2.2.2.keep hq).range) Try.underlying24 rfl icU) (by assumption) ?_
      simp only [Act.put, List.setIfInBounds_toArray, List.set_cons_succ, List.set_cons_zero]
      refine wpAnyH_takeD (i := 4) (oi := _) (v := .agg (byts B).toArray) 86 rfl (by kernel_rfl) (by kernel_rfl) (by kernel_rfl) (by kernel_rfl) (fun _ _ _ h => h) (yieldsIf_load_mid (by kernel_rfl) _ _ rfl b3 0 rfl (byts B) _ (fun wq hq => (SU.out.2.2.1.keep hq).range) Try.underlying24 rfl icB) (by assumption) ?_
      simp only [Act.put, List.setIfInBounds_toArray, List.set_cons_succ, List.set_cons_zero]
      refine wpAnyH_takeD (i := 5) (oi := _) (v := .bool wv) 87 rfl (by kernel_rfl) (by kernel_rfl) (by kernel_rfl) (by kernel_rfl) (fun _ _ _ h => h) (Or.inl ⟨by kernel_rfl, ?_⟩) (by assumption) ?_
      · intro wq hSw
        first | (go_simp; done) | (go_simp; rfl) | (go_simp; exact WR.out)
      simp only [Act.put, List.setIfInBounds_toArray, List.set_cons_succ, List.set_cons_zero]
      refine wpAnyH_ready (rs := [2]) (by kernel_rfl) (by simp) ?_
      refine AllReadyH.cons rfl (fun K hK => ?_) AllReadyH.nil
      go_simp
      go_wp2_with (go_at_call 12; refine (WAB.out _).mono ?_; rintro e x ⟨rfl, hbx⟩)
      refine hK.out _ _ (hHeld.trans (hbx.mono hHeld.size)) (fun hHeld => ?_)
      clear hbx
      clear hK K
      refine wpAnyH_takeD (i := 6) (oi := _) (v := .bool true) 88 rfl (by kernel_rfl) (by kernel_rfl) (by kernel_rfl) (by kernel_rfl) (fun _ _ _ h => h) (Or.inl ⟨by kernel_rfl, ?_⟩) (by assumption) ?_
      · intro wq hSw
        first | (go_simp; done) | (go_simp; rfl) | (go_simp; exact WR.out)
      simp only [Act.put, List.setIfInBounds_toArray, List.set_cons_succ, List.set_cons_zero]
      refine wpAnyH_takeD (i := 7) (oi := _) (v := .bool true) 89 rfl (by kernel_rfl) (by kernel_rfl) (by kernel_rfl) (by kernel_rfl) (fun _ _ _ h => h) (Or.inl ⟨by kernel_rfl, ?_⟩) (by assumption) ?_
      · intro wq hSw
        first | (go_simp; done) | (go_simp; rfl) | (go_simp; exact WR.out)
      simp only [Act.put, List.setIfInBounds_toArray, List.set_cons_succ, List.set_cons_zero]
      refine wpAnyH_takeD (i := 8) (oi := _) (v := .agg (byts U).toArray) 90 rfl (by kernel_rfl) (by kernel_rfl) (by kernel_rfl) (by kernel_rfl) (fun _ _ _ h => h) (yieldsIf_load_mid (by kernel_rfl) _ _ rfl b9 0 rfl (byts U) _ (fun wq hq => (SU.out.2.2.2.keep hq).range) Try.underlying24 rfl icU) (by assumption) ?_
      simp only [Act.put, List.setIfInBounds_toArray, List.set_cons_succ, List.set_cons_zero]
      refine wpAnyH_takeD (i := 9) (oi := _) (v := .agg (byts B).toArray) 91 rfl (by kernel_rfl) (by kernel_rfl) (by kernel_rfl) (by kernel_rfl) (fun _ _ _ h => h) (yieldsIf_load_mid (by kernel_rfl) _ _ rfl b3 0 rfl (byts B) _ (fun wq hq => (SU.out.2.2.1.keep hq).range) Try.underlying24 rfl icB) (by assumption) ?_
      simp only [Act.put, List.setIfInBounds_toArray, List.set_cons_succ, List.set_cons_zero]
      refine wpAnyH_takeD (i := 10) (oi := _) (v := .agg (byts A).toArray) 92 rfl (by kernel_rfl) (by kernel_rfl) (by kernel_rfl) (by kernel_rfl) (fun _ _ _ h => h) (yieldsIf_load_mid (by kernel_rfl) _ _ rfl b2 0 rfl (byts A) _ (fun wq hq => (SU.out.2.1.keep hq).range) Try.underlying24 rfl icA) (by assumption) ?_
      simp only [Act.put, List.setIfInBounds_toArray, List.set_cons_succ, List.set_cons_zero]
      refine wpAnyH_ready (rs := [11]) (by kernel_rfl) (by simp) ?_
      refine AllReadyH.cons rfl (fun K hK => ?_) AllReadyH.nil
      rw [if_pos (by kernel_rfl)]
      refine wp_build_blooms 2 _ rfl [B, A] l2 rfl (by decide) (by decide) (by simp [Act.eval, List.zipIdx]) ?_
      refine hK.out _ _ (hHeld.alloc hHeld.size _) (fun hHeld => ?_)
      clear hK K
      refine wpAnyH_ready (rs := [12]) (by kernel_rfl) (by simp) ?_
      refine AllReadyH.cons rfl (fun K hK => ?_) AllReadyH.nil
      go_simp
      go_wp2_with (go_at_call 13; refine (UB.out _ _ (fls_new [B, A] l2)).mono ?_; rintro e x ⟨rfl, hbx⟩)
      refine hK.out _ _ (hHeld.trans (hbx.mono hHeld.size)) (fun hHeld => ?_)
      clear hbx
      clear hK K
      refine wpAnyH_takeD (i := 13) (oi := _) (v := .bool true) 95 rfl (by kernel_rfl) (by kernel_rfl) (by kernel_rfl) (by kernel_rfl) (fun _ _ _ h => h) (Or.inl ⟨by kernel_rfl, ?_⟩) (by assumption) ?_
      · intro wq hSw
        first | (go_simp; done) | (go_simp; rfl) | (go_simp; exact WR.out)
      simp only [Act.put, List.setIfInBounds_toArray, List.set_cons_succ, List.set_cons_zero]
      refine wpAnyH_takeD (i := 14) (oi := _) (v := .bool true) 96 rfl (by kernel_rfl) (by kernel_rfl) (by kernel_rfl) (by kernel_rfl) (fun _ _ _ h => h) (Or.inl ⟨by kernel_rfl, ?_⟩) (by assumption) ?_
      · intro wq hSw
        first | (go_simp; done) | (go_simp; rfl) | (go_simp; exact WR.out)
      simp only [Act.put, List.setIfInBounds_toArray, List.set_cons_succ, List.set_cons_zero]
      refine wpAnyH_takeD (i := 15) (oi := _) (v := .bool true) 97 rfl (by kernel_rfl) (by kernel_rfl) (by kernel_rfl) (by kernel_rfl) (fun _ _ _ h => h) (Or.inl ⟨by kernel_rfl, ?_⟩) (by assumption) ?_
      · intro wq hSw
        first | (go_simp; done) | (go_simp; rfl) | (go_simp; exact WR.out)
      simp only [Act.put, List.setIfInBounds_toArray, List.set_cons_succ, List.set_cons_zero]
      refine wpAnyH_takeD (i := 16) (oi := _) (v := .agg (byts B).toArray) 98 rfl (by kernel_rfl) (by kernel_rfl) (by kernel_rfl) (by kernel_rfl) (fun _ _ _ h => h) (yieldsIf_load_mid (by kernel_rfl) _ _ rfl b3 0 rfl (byts B) _ (fun wq hq => (SU.out.2.2.1.keep hq).range) Try.underlying24 rfl icB) (by assumption) ?_
      simp only [Act.put, List.setIfInBounds_toArray, List.set_cons_succ, List.set_cons_zero]
      refine wpAnyH_takeD (i := 17) (oi := _) (v := .agg (byts U).toArray) 99 rfl (by kernel_rfl) (by kernel_rfl) (by kernel_rfl) (by kernel_rfl) (fun _ _ _ h => h) (yieldsIf_load_mid (by kernel_rfl) _ _ rfl b9 0 rfl (byts U) _ (fun wq hq => (SU.out.2.2.2.keep hq).range) Try.underlying24 rfl icU) (by assumption) ?_
      simp only [Act.put, List.setIfInBounds_toArray, List.set_cons_succ, List.set_cons_zero]
      refine wpAnyH_ready (rs := [18]) (by kernel_rfl) (by simp) ?_
      refine AllReadyH.cons rfl (fun K hK => ?_) AllReadyH.nil
      go_simp
      go_wp2_with (go_at_call 12; refine (WBU.out _).mono ?_; rintro e x ⟨rfl, hbx⟩)
      refine hK.out _ _ (hHeld.trans (hbx.mono hHeld.size)) (fun hHeld => ?_)
      clear hbx
      clear hK K
      refine wpAnyH_takeD (i := 19) (oi := _) (v := .bool true) 101 rfl (by kernel_rfl) (by kernel_rfl) (by kernel_rfl) (by kernel_rfl) (fun _ _ _ h => h) (Or.inl ⟨by kernel_rfl, ?_⟩) (by assumption) ?_
      · intro wq hSw
        first | (go_simp; done) | (go_simp; rfl) | (go_simp; exact WR.out)
      simp only [Act.put, List.setIfInBounds_toArray, List.set_cons_succ, List.set_cons_zero]
      refine wpAnyH_takeD (i := 20) (oi := _) (v := .bool true) 102 rfl (by kernel_rfl) (by kernel_rfl) (by kernel_rfl) (by kernel_rfl) (fun _ _ _ h => h) (Or.inl ⟨by kernel_rfl, ?_⟩) (by assumption) ?_
      · intro wq hSw
        first | (go_simp; done) | (go_simp; rfl) | (go_simp; exact WR.out)
      simp only [Act.put, List.setIfInBounds_toArray, List.set_cons_succ, List.set_cons_zero]
      refine wpAnyH_takeD (i := 21) (oi := _) (v := .agg (byts U).toArray) 103 rfl (by kernel_rfl) (by kernel_rfl) (by kernel_rfl) (by kernel_rfl) (fun _ _ _ h => h) (yieldsIf_load_mid (by kernel_rfl) _ _ rfl b9 0 rfl (byts U) _ (fun wq hq => (SU.out.2.2.2.keep hq).range) Try.underlying24 rfl icU) (by assumption) ?_
      simp only [Act.put, List.setIfInBounds_toArray, List.set_cons_succ, List.set_cons_zero]
      refine wpAnyH_takeD (i := 23) (oi := _) (v := .agg (byts A).toArray) 105 rfl (by kernel_rfl) (by kernel_rfl) (by kernel_rfl) (by kernel_rfl) (fun _ _ _ h => h) (yieldsIf_load_mid (by kernel_rfl) _ _ rfl b2 0 rfl (byts A) _ (fun wq hq => (SU.out.2.1.keep hq).range) Try.underlying24 rfl icA) (by assumption) ?_
      simp only [Act.put, List.setIfInBounds_toArray, List.set_cons_succ, List.set_cons_zero]
      refine wpAnyH_takeD (i := 25) (oi := _) (v := .agg (byts B).toArray) 107 rfl (by kernel_rfl) (by kernel_rfl) (by kernel_rfl) (by kernel_rfl) (fun _ _ _ h => h) (yieldsIf_load_mid (by kernel_rfl) _ _ rfl b3 0 rfl (byts B) _ (fun wq hq => (SU.out.2.2.1.keep hq).range) Try.underlying24 rfl icB) (by assumption) ?_
      simp only [Act.put, List.setIfInBounds_toArray, List.set_cons_succ, List.set_cons_zero]
      refine wpAnyH_ready (rs := [22]) (by kernel_rfl) (by simp) ?_
      refine AllReadyH.cons rfl (fun K hK => ?_) AllReadyH.nil
      go_simp
      go_wp2_with (go_at_call 11; refine (CU.out _).mono ?_; rintro e x ⟨rfl, hbx⟩)
      refine hK.out _ _ (hHeld.trans (hbx.mono hHeld.size)) (fun hHeld => ?_)
      clear hbx
      clear hK K
      refine wpAnyH_ready (rs := [24]) (by kernel_rfl) (by simp) ?_
      refine AllReadyH.cons rfl (fun K hK => ?_) AllReadyH.nil
      go_simp
      go_wp2_with (go_at_call 11; refine (CA.out _).mono ?_; rintro e x ⟨rfl, hbx⟩)
      refine hK.out _ _ (hHeld.trans (hbx.mono hHeld.size)) (fun hHeld => ?_)
      clear hbx
      clear hK K
      refine wpAnyH_ready (rs := [26]) (by kernel_rfl) (by simp) ?_
      refine AllReadyH.cons rfl (fun K hK => ?_) AllReadyH.nil
      go_simp
      go_wp2_with (go_at_call 11; refine (CB.out _).mono ?_; rintro e x ⟨rfl, hbx⟩)
      refine hK.out _ _ (hHeld.trans (hbx.mono hHeld.size)) (fun hHeld => ?_)
      clear hbx
      clear hK K
      refine wpAnyH_takeD (i := 27) (oi := _) (v := .int .i64 ((cA : Int) + (cB : Int))) 109 rfl (by kernel_rfl) (by kernel_rfl) (by kernel_rfl) (by kernel_rfl) (fun _ _ _ h => h) (Or.inl ⟨by kernel_rfl, ?_⟩) (by assumption) ?_
      · intro wq hSw
        first | (go_simp; done) | (go_simp; rfl) | (go_simp; exact WR.out)
      simp only [Act.put, List.setIfInBounds_toArray, List.set_cons_succ, List.set_cons_zero]
      refine wpAnyH_takeD (i := 28) (oi := _) (v := .bool true) 110 rfl (by kernel_rfl) (by kernel_rfl) (by kernel_rfl) (by kernel_rfl) (fun _ _ _ h => h) (Or.inl ⟨by kernel_rfl, ?_⟩) (by assumption) ?_
      · intro wq hSw
        first | (go_simp; done) | (go_simp; rfl) | (go_simp; exact WR.out)
      simp only [Act.put, List.setIfInBounds_toArray, List.set_cons_succ, List.set_cons_zero]
      refine wpAnyH_takeD (i := 29) (oi := _) (v := .bool true) 111 rfl (by kernel_rfl) (by kernel_rfl) (by kernel_rfl) (by kernel_rfl) (fun _ _ _ h => h) (Or.inl ⟨by kernel_rfl, ?_⟩) (by assumption) ?_
      · intro wq hSw
        first | (go_simp; done) | (go_simp; rfl) | (go_simp; exact WR.out)
      simp only [Act.put, List.setIfInBounds_toArray, List.set_cons_succ, List.set_cons_zero]
      refine wpAnyH_takeD (i := 30) (oi := _) (v := .bool true) 4 rfl (by kernel_rfl) (by kernel_rfl) (by kernel_rfl) (by kernel_rfl) (fun _ _ _ h => h) (Or.inl ⟨by kernel_rfl, ?_⟩) (by assumption) ?_
      · intro wq hSw
        first | (go_simp; done) | (go_simp; rfl) | (go_simp; exact WR.out)
      simp only [Act.put, List.setIfInBounds_toArray, List.set_cons_succ, List.set_cons_zero]
      refine wpAnyH_done (by kernel_rfl) ?_ _
      have HE : Hid (Below w.heap.size w x) := SU.out.1.trans (hHeld.mono SU.out.1.size)
      clear hHeld SU WAB WBU UB CA CB CU eqUB eqUU q1 q2 q3 q4 ww
      refine exit_frameB (fun A => A.tmps.getD 4 undef = .bool true ∧ A.defers = []) ⟨by rfl, by rfl⟩ ?_
      intro A' hA
      go_wp2
      refine bodyPost_ret (v := .bool true) ?_ hA.2 ⟨rfl, HE.out⟩
      have h1 := hA.1
      simp [results, Try.results4] at h1 ⊢
      exact h1
    · have hlt : i < L.length := by omega
      have hlt' : (i : Int) < (L.length : Int) := by omega
      obtain rfl : al = some ⟨g, 0, none⟩ := by
        rcases HB.out.2.2.1 with e | e
        · rw [e] at hlt; simp at hlt
        · exact e
      have gi := SR.out.2.2.2 i hlt
      rw [Nat.zero_add] at gi
      have LE : Hid (∀ k, k < L.length → L.getD k 0 = ((bitsF A).getD k 0 : Int) ∧ k < (bitsF A).length) := fun k hk => by
        have e := HB.out.1
        have hk2 : k < (bitsF A).length := by rw [e, natI_len] at hk; exact hk
        exact ⟨by rw [e, natI]; simp [List.getD, hk2], hk2⟩
      have bi : 0 ≤ L.getD i 0 ∧ L.getD i 0 ≤ 2047 := by
        obtain ⟨e, h2⟩ := LE.out i hlt
        have := bits_lt h2
        rw [e]; omega
      obtain ⟨bi0, bi1⟩ := bi
      have m1 : ¬ (L.getD i 0 < 0) := by omega
      have m2 : ¬ (2047 < L.getD i 0) := by omega
      have k1 := decide_eq_false m1
      have k2 := decide_eq_false m2
      by_cases h0 : i = 0
      · subst h0
        generalize L.getD 0 0 = y at *
        have gi' : ∀ n, (wr.drewN n).cell? ⟨g, 0, none⟩ = some (.int .i64 y) := fun _ => gi
        clear h8
        go_wp2_with fail
        refine wp_region_quiet_lit (by kernel_rfl) (by kernel_rfl) ?_
        repeat (first | go_big_quiet_skip | (go_big_quiet_want; go_big_quiet_op; go_big_quiet_on))
        refine wpQuiet_nil ?_
        rintro w' ⟨n, rfl⟩
        have NX : Hid (Below w.heap.size w (wr.drewN n) ∧ Blm (wr.drewN n) b2 A ∧ Blm (wr.drewN n) b3 B ∧ Ixs (wr.drewN n) g 0 L) := ⟨⟨SR.out.1.os, SR.out.1.tape, SR.out.1.output, SR.out.1.size, SR.out.1.block⟩, SR.out.2.1, SR.out.2.2.1, SR.out.2.2.2⟩
        clear SR gi gi'
        generalize wr.drewN n = w5 at *
        go_wp2
        go_roundg (L.length - (0 + 1))
        case measure => have := HK.out; omega
        case rel => exact ⟨0 + 1, rfl, by omega, by go_num, NX.out⟩
      · have hp : i - 1 < L.length := by omega
        have gp := SR.out.2.2.2 (i - 1) hp
        rw [Nat.zero_add] at gp
        have up : L.getD (i - 1) 0 < L.getD i 0 := by
          obtain ⟨e, h2⟩ := LE.out i hlt
          obtain ⟨e', _⟩ := LE.out (i - 1) hp
          have := bits_up (F := A) (i := i - 1) (by rw [show i - 1 + 1 = i by omega]; exact h2)
          rw [show i - 1 + 1 = i by omega] at this
          rw [e, e']; omega
        have e1 : ((i : Int) - 1).toNat = i - 1 := by omega
        have i0 : (0 : Int) < (i : Int) := by omega
        have i0' : decide ((0 : Int) < (i : Int)) = true := decide_eq_true i0
        have in0 : 0 < i := by omega
        have in0' : decide (0 < i) = true := decide_eq_true in0
        have m3 : ¬ (L.getD i 0 ≤ L.getD (i - 1) 0) := by omega
        have k3 := decide_eq_false m3
        generalize L.getD i 0 = y at *
        generalize L.getD (i - 1) 0 = z at *
        have gi' : ∀ n, (wr.drewN n).cell? ⟨g, i, none⟩ = some (.int .i64 y) := fun _ => gi
        have gp' : ∀ n, (wr.drewN n).cell? ⟨g, i - 1, none⟩ = some (.int .i64 z) := fun _ => gp
        have HP : Hid (i - 1 < L.length ∧ i < L.length) := ⟨hp, hlt⟩
        clear h8 h0 up
        go_wp2_with fail
        refine wp_region_quiet_lit (by kernel_rfl) (by kernel_rfl) ?_
        repeat (first | go_big_quiet_skip | (go_big_quiet_want; go_big_quiet_op; go_big_quiet_on))
        refine wpQuiet_nil ?_
        rintro w' ⟨n, rfl⟩
        have NX : Hid (Below w.heap.size w (wr.drewN n) ∧ Blm (wr.drewN n) b2 A ∧ Blm (wr.drewN n) b3 B ∧ Ixs (wr.drewN n) g 0 L) := ⟨⟨SR.out.1.os, SR.out.1.tape, SR.out.1.output, SR.out.1.size, SR.out.1.block⟩, SR.out.2.1, SR.out.2.2.1, SR.out.2.2.2⟩
        clear SR gi gi' gp gp'
        generalize wr.drewN n = w5 at *
        go_wp2
        go_roundg (L.length - (i + 1))
        case measure => have := HK.out; omega
        case rel => exact ⟨i + 1, rfl, by have := HP.out; omega, by go_num, NX.out⟩
end Go.Proofs.Ytndefnomefdhoaa
