import Derived.Test.YtaefmdofchjofaaUbA
import Derived.Test.YtaefmdofchjofaaShiftNum
import Derived.Deep.LoopGhost
/- Layer 1: slices.Clone, Bytes. -/
namespace Go.Proofs.Ytaefmdofchjofaa
open Go.RowKit Go.Sort

theorem strip_zeros : ∀ (k : Nat) (l : List Int), (∀ t, t < k → l.getD t 0 = 0) → (k < l.length → l.getD k 0 ≠ 0) → k ≤ l.length → stripL l = l.drop k
  | 0, [], _, _, _ => rfl
  | 0, x :: l, _, h, _ => by
    have := h (by simp)
    simp [stripL] at this ⊢
    simp [this]
  | k + 1, [], _, _, h => by simp at h
  | k + 1, x :: l, h0, h1, hk => by
    have e : x = 0 := by simpa using h0 0 (by omega)
    rw [stripL, if_pos e, List.drop_succ_cons]
    exact strip_zeros k l (fun t ht => by simpa using h0 (t + 1) (by omega)) (fun h => by simpa using h1 (by simpa using h)) (by simpa using hk)
/-- How many bytes a number takes. -/
def sizN (n : Int) : Nat := ((lenN n + 7) / 8).toNat
theorem pow256 (k : Nat) : (256 : Int) ^ k = 2 ^ (8 * k) := by rw [show (256 : Int) = 2 ^ 8 by decide, ← Int.pow_mul]
theorem len_bounds {n : Int} (h0 : 0 < n) : ∃ k : Nat, lenN n = (k : Int) + 1 ∧ (2 : Int) ^ k ≤ n ∧ n < 2 ^ (k + 1) := by
  refine ⟨Nat.log2 n.toNat, by rw [lenN, if_neg (by omega)], ?_, ?_⟩
  · have h := Nat.log2_self_le (n := n.toNat) (by omega)
    have : ((2 ^ Nat.log2 n.toNat : Nat) : Int) ≤ (n.toNat : Int) := by exact_mod_cast h
    rw [Int.toNat_of_nonneg (by omega)] at this
    exact_mod_cast this
  · have h := Nat.lt_log2_self (n := n.toNat)
    have : (n.toNat : Int) < ((2 ^ (Nat.log2 n.toNat + 1) : Nat) : Int) := by exact_mod_cast h
    rw [Int.toNat_of_nonneg (by omega)] at this
    exact_mod_cast this
theorem pow_mono {a b : Nat} (h : a ≤ b) : (2 : Int) ^ a ≤ 2 ^ b := by
  have : (2 : Nat) ^ a ≤ 2 ^ b := Nat.pow_le_pow_right (by decide) h
  exact_mod_cast this
theorem siz_facts {n : Int} (hn : Num n) (h0 : 0 < n) : 0 < sizN n ∧ sizN n ≤ 32 ∧ ((sizN n : Nat) : Int) = (lenN n + 7) / 8 ∧ 256 ^ (sizN n - 1) ≤ n ∧ n < 256 ^ sizN n := by
  obtain ⟨k, e, h1, h2⟩ := len_bounds h0
  have hk : k < 256 := by
    have h3 : n < 2 ^ 256 := by have := hn.2; simpa using this
    have h4 : (2 : Int) ^ k < 2 ^ 256 := by omega
    have h5 : (2 : Nat) ^ k < 2 ^ 256 := by exact_mod_cast h4
    exact (Nat.pow_lt_pow_iff_right (by decide)).1 h5
  have es : sizN n = (k + 8) / 8 := by rw [sizN, e]; omega
  refine ⟨by omega, by omega, by rw [es, e]; omega, ?_, ?_⟩
  · rw [pow256]; exact Int.le_trans (pow_mono (by omega)) h1
  · rw [pow256]; exact Int.lt_of_lt_of_le h2 (pow_mono (by omega))
theorem strip_put {n : Int} (hn : Num n) (h0 : 0 < n) : stripL (putL n) = (putL n).drop (32 - sizN n) := by
  obtain ⟨a, b, _, c, d⟩ := siz_facts hn h0
  refine strip_zeros _ _ (fun t ht => ?_) (fun h => ?_) (by rw [putL_len]; omega)
  · rw [putL_getD n (by omega), Int.ediv_eq_zero_of_lt (by omega) ?_]
    · rfl
    · refine Int.lt_of_lt_of_le d ?_
      rw [pow256, pow256]; exact pow_mono (by omega)
  · rw [putL_getD n (by omega), show 31 - (32 - sizN n) = sizN n - 1 by omega]
    obtain ⟨m, em⟩ : ∃ m, sizN n = m + 1 := ⟨sizN n - 1, by omega⟩
    rw [em] at c d ⊢
    rw [Nat.add_sub_cancel] at c ⊢
    have hp : (0 : Int) < 256 ^ m := by rw [pow256]; exact Int.pow_pos (by decide)
    have q1 : 1 ≤ n / 256 ^ m := Int.le_ediv_of_mul_le hp (by omega)
    have q2 : n / 256 ^ m < 256 := Int.ediv_lt_of_lt_mul hp (by rw [Int.pow_succ] at d; rw [Int.mul_comm]; exact d)
    omega
theorem strip_rep : ∀ k : Nat, stripL (List.replicate k 0) = []
  | 0 => rfl
  | k + 1 => by rw [List.replicate_succ, stripL, if_pos rfl]; exact strip_rep k
theorem strip_zero : stripL (putL 0) = [] := by
  have e : putL 0 = List.replicate 32 0 := by
    refine extB (by simp [putL_len]) fun t ht => ?_
    rw [putL_len] at ht
    have r : ∀ t, (List.replicate 32 (0 : Int)).getD t 0 = 0 := fun t => by
      rw [List.getD, List.getElem?_replicate]
      split <;> rfl
    rw [putL_getD 0 ht, r, Int.zero_ediv]
    rfl
  rw [e]; exact strip_rep 32
theorem heap_newU (W : World) (o : Obj) : (W.alloc o).heap[W.heap.size]? = some o := by
  show (W.heap.push o)[W.heap.size]? = some o
  simp
theorem src_bz {W : World} {b o : Nat} {X : List Int} (h : Bz W b o X) (j : Nat) (u : Value) (hu : (X.map (Value.int .u8))[j]? = some u) : W.cell? ((⟨b, o, none⟩ : Addr).add j) = some u := by
  rw [List.getElem?_map] at hu
  obtain ⟨x, hx, rfl⟩ := Option.map_eq_some_iff.1 hu
  have hj : j < X.length := (List.getElem?_eq_some_iff.1 hx).1
  rw [Addr.add_mid, h j hj]
  simp [List.getD, hx]
theorem wpList_worldU {P : Program} {ops : Array Oper} {Q : Exit → Act → World → Prop} {l : List Oper} {a : Act} {w : World} (S : World → Prop) (h : S w) (k : ∀ W, S W → wpList P ops Q l a W) : wpList P ops Q l a w := k w h
theorem own_mt (B : Nat) (W : World) (hB : B ≤ W.heap.size) : OwnB B (W.alloc (.cells #[] 5)) (.slice (some ⟨W.heap.size, 0, none⟩) 0 0) [] :=
  ⟨rfl, .inr ⟨W.heap.size, 0, _, rfl, hB, heap_newU _ _, Nat.le_refl _, by unfold maxLen; omega, rfl, rfl⟩⟩
theorem sl_some (w : World) (a : Addr) (n c : Nat) : (binOp .eql 29 (.slice (some a) n c) (.slice none 0 0)).run Try.prog w = .ok (.bool false) w := by kernel_rfl
set_option maxRecDepth 100000 in
set_option maxHeartbeats 4000000 in
theorem clone_any {b o c : Nat} {X : List Int} (hl : X.length < 140737488355000) (w : World) (hz : Bz w b o X) :
    Calls Try.prog 55 #[.slice (some ⟨b, o, none⟩) X.length c] w fun e w' => ∃ v, e = .returned v ∧ OwnB w.heap.size w' v X ∧ Below w.heap.size w w' := by
  obtain ⟨i0, hi, hz0, hz1, hz2⟩ := info_parts info_byte
  have sl := sl_some
  have HA : Hid (X.length < 140737488355000 ∧ Bz w b o X) := ⟨hl, hz⟩
  obtain ⟨n, en⟩ : ∃ n, n = X.length := ⟨_, rfl⟩
  rw [← en]
  have EN : Hid (X.length = n) := en.symm
  clear en hl hz
  go_enter Try.func55, Try.ntmps55
  go_wp2_with (at_builtin; go_loud (refine wpList_append_own_at _ rfl _ _ 29 rfl w.heap.size 5 i0 (.int .u8 0) 1 1 Try.underlying29 hi hz0 hz1 hz2 rfl (by decide) _ 0 [] rfl (own_mt _ _ (Nat.le_refl _)).row ⟨b, o, none⟩ n c (X.map (Value.int .u8)) rfl (by rw [List.length_map, EN.out, Nat.mul_one]) (fun j u hu => src_bz (HA.out.2.keep ((Below.refl _ _).alloc (Nat.le_refl _) _)) j u hu) (fun u hu => by obtain ⟨y, _, rfl⟩ := List.mem_map.1 hu; rfl) (by unfold maxLen; have := HA.out.1; have := EN.out; omega) (by have := HA.out.1; have := EN.out; omega) (by simp) ?_); intro v' w3 hown' hgrow3 hnil3 hblk)
  go_ret
  refine ⟨_, rfl, ?_, ((Below.refl _ _).alloc (Nat.le_refl _) _).grown hgrow3 (by simp) (fun k hk => by have e : w.heap.size = k := Option.some.inj hk; omega)⟩
  rw [OwnB, EN.out]
  simpa using hown'
theorem slice_arr {b p : Nat} (hp : p < 32) (w : World) : (Instr.sliceAt 25 (.pointer (some ⟨b, 0, none⟩)) (some (.int .i64 (p : Int))) none none).run Try.prog w = .ok (.slice (some ⟨b, p, none⟩) (32 - p) (32 - p)) w := by
  have tu := Try.underlying25
  have tz := Try.sizeOf5
  have hb : (Instr.sliceBounds false 32 32 (some (.int .i64 (p : Int))) none none).run Try.prog w = .ok (p, 32, 32) w := by
    have h1 : (p : Int) ≤ 32 := by omega
    simp [Instr.sliceBounds, go_sem, h1]
  have hz : (sizeOf 5).run Try.prog w = .ok 1 w := by simp [go_sem, tz]
  simp only [Instr.sliceAt, Instr.sureAddr, Sem.run_bind, Sem.run_pure, Result.andThen_ok, run_underlying tu, hb, hz]
  rw [if_neg (by omega)]
  simp [Addr.add]
  (try omega)
theorem slice_end {b : Nat} (w : World) : (Instr.sliceAt 25 (.pointer (some ⟨b, 0, none⟩)) (some (.int .i64 32)) none none).run Try.prog w = .ok (.slice (some ⟨b, 0, none⟩) 0 0) w := by
  have tu := Try.underlying25
  have tz := Try.sizeOf5
  have hb : (Instr.sliceBounds false 32 32 (some (.int .i64 32)) none none).run Try.prog w = .ok (32, 32, 32) w := by
    simp [Instr.sliceBounds, go_sem]
  have hz : (sizeOf 5).run Try.prog w = .ok 1 w := by simp [go_sem, tz]
  simp only [Instr.sliceAt, Instr.sureAddr, Sem.run_bind, Sem.run_pure, Result.andThen_ok, run_underlying tu, hb, hz]
  rfl
set_option maxRecDepth 100000 in
set_option maxHeartbeats 4000000 in
theorem bytes_pos {n : Int} (hn : Num n) (h0 : 0 < n) (w : World) :
    Calls Try.prog 36 #[.agg #[.int .u64 (l0 n), .int .u64 (l1 n), .int .u64 (l2 n), .int .u64 (l3 n)]] w fun e w' => ∃ v, e = .returned v ∧ OwnB w.heap.size w' v (stripL (putL n)) ∧ Below w.heap.size w w' := by
  rw [strip_put hn h0]
  obtain ⟨s0, s1, s2, _, _⟩ := siz_facts hn h0
  have PU : Hid (∀ w, Calls Try.prog 53 #[.agg #[.int .u64 (l0 n), .int .u64 (l1 n), .int .u64 (l2 n), .int .u64 (l3 n)]] w fun e w' => e = .returned (.agg ((putL n).map (Value.int .u8)).toArray) ∧ Below w.heap.size w w') := fun w => put_any w
  have LE : Hid (∀ w, Calls Try.prog 54 #[.agg #[.int .u64 (l0 n), .int .u64 (l1 n), .int .u64 (l2 n), .int .u64 (l3 n)]] w fun e w' => e = .returned (.int .i64 (lenN n)) ∧ Below w.heap.size w w') := fun w => len_any hn w
  have sz : ((putL n).map (Value.int .u8)).toArray.size = 32 := by simp [putL_len]
  have oc := one_cells (putL n)
  have LD : Hid (((putL n).drop (32 - sizN n)).length = sizN n) := by show _ = _; rw [List.length_drop, putL_len]; omega
  generalize sizN n = s at *
  generalize lenN n = ln at *
  have ln0 : 0 ≤ ln ∧ ln ≤ 256 := by omega
  go_enter Try.func36, Try.ntmps36
  go_wp2_with fail
  refine calls_world (fun W => Below w.heap.size w W ∧ Hold W w.heap.size n) ⟨(Below.refl _ _).alloc (Nat.le_refl _) _, Hold.new w n _⟩ ?_
  rintro W ⟨B, hX⟩
  refine (PU.out _).mono ?_
  rintro e w1 ⟨rfl, hb⟩
  have S1 : Hid (Below w.heap.size w w1 ∧ Hold w1 w.heap.size n) := ⟨B.trans (hb.mono B.size), hX.keep hb⟩
  clear hb B hX PU W
  have hz : Bts (w1.alloc (.cells #[.int .u8 0, .int .u8 0, .int .u8 0, .int .u8 0, .int .u8 0, .int .u8 0, .int .u8 0, .int .u8 0, .int .u8 0, .int .u8 0, .int .u8 0, .int .u8 0, .int .u8 0, .int .u8 0, .int .u8 0, .int .u8 0, .int .u8 0, .int .u8 0, .int .u8 0, .int .u8 0, .int .u8 0, .int .u8 0, .int .u8 0, .int .u8 0, .int .u8 0, .int .u8 0, .int .u8 0, .int .u8 0, .int .u8 0, .int .u8 0, .int .u8 0, .int .u8 0] 25)) w1.heap.size (List.replicate 32 0) := Bts.new (List.replicate 32 0) _ rfl
  have tr := hz.there (k := ((putL n).map (Value.int .u8)).toArray.size) (by rw [sz]; rfl)
  have T1 : Hid (∀ v, Below w.heap.size w ((w1.alloc v).setCells w1.heap.size 0 ((putL n).map (Value.int .u8))) ∧ Hold ((w1.alloc v).setCells w1.heap.size 0 ((putL n).map (Value.int .u8))) w.heap.size n) := fun v => ⟨below_setCells S1.out.1.size _ 0 _ (S1.out.1.alloc S1.out.1.size _), S1.out.2.keep (below_setCells (Nat.le_refl _) _ 0 _ ((Below.refl _ _).alloc (Nat.le_refl _) _))⟩
  go_wp2_with (go_loud (refine wpList_store_mid rfl 25 _ _ rfl w1.heap.size 0 _ rfl rfl tr (by rw [sz]; kernel_rfl) oc ?_); refine wpList_worldU (fun W => (Below w.heap.size w W ∧ Hold W w.heap.size n) ∧ Bts W w1.heap.size (putL n)) ⟨T1.out _, bts_setCells (by simpa using tr)⟩ ?_; intro W hW; obtain ⟨⟨B, hX0, hX1, hX2, hX3⟩, hB⟩ := hW; have S2 : Hid (Below w.heap.size w W ∧ Bts W w1.heap.size (putL n)) := ⟨B, hB⟩; (clear B hB))
  clear T1 tr hz S1
  refine (LE.out _).mono ?_
  rintro e w2 ⟨rfl, hb⟩
  have S3 : Hid (Below w.heap.size w w2 ∧ Bts w2 w1.heap.size (putL n)) := ⟨S2.out.1.trans (hb.mono S2.out.1.size), S2.out.2.keep (by rw [putL_len]; decide) hb⟩
  clear hb S2 LE hX0 hX1 hX2 hX3 oc sz
  generalize w1.heap.size = bA at *
  have q8 : (ln + 7) / 8 = (s : Int) := s2.symm
  obtain ⟨k, ek⟩ : ∃ k : Nat, k = 32 - s := ⟨_, rfl⟩
  have e32 : (32 : Int) - (s : Int) = (k : Int) := by omega
  have hk : k < 32 := by omega
  have hk' : (k : Int) < 32 := by omega
  have hk3 : ¬ k = 32 := by omega
  have EK : Hid (32 - k = s ∧ 32 - s = k) := ⟨by omega, by omega⟩
  clear s2 s0 s1 ek ln0
  have sl := slice_arr (b := bA) hk
  go_wp2_with fail
  have bz : Bz w2 bA k ((putL n).drop (32 - s)) := fun i hi => by
    rw [LD.out] at hi
    have := S3.out.2.1 (k + i) (by rw [putL_len]; have := EK.out; omega)
    rw [this, EK.out.2]
    simp [List.getD, List.getElem?_drop]
  have hc := clone_any (c := 32 - k) (by rw [LD.out]; have := EK.out; omega) w2 bz
  rw [LD.out] at hc
  rw [EK.out.1] at hc ⊢
  with_reducible refine hc.mono ?_
  rintro e w3 ⟨v, rfl, O, hb⟩
  have S4 : Hid (OwnB w2.heap.size w3 v ((putL n).drop (32 - s)) ∧ Below w.heap.size w w3) := ⟨O, S3.out.1.trans (hb.mono S3.out.1.size)⟩
  have l2 : w.heap.size ≤ w2.heap.size := S3.out.1.size
  clear hc hb O bz S3
  go_wp2
  go_ret
  exact ⟨_, rfl, S4.out.1.base l2, S4.out.2⟩
set_option maxRecDepth 100000 in
set_option maxHeartbeats 4000000 in
theorem bytes_zero (w : World) :
    Calls Try.prog 36 #[.agg #[.int .u64 (l0 0), .int .u64 (l1 0), .int .u64 (l2 0), .int .u64 (l3 0)]] w fun e w' => ∃ v, e = .returned v ∧ OwnB w.heap.size w' v (stripL (putL 0)) ∧ Below w.heap.size w w' := by
  rw [strip_zero]
  obtain ⟨n, hn0⟩ : ∃ n : Int, n = 0 := ⟨_, rfl⟩
  rw [← hn0]
  have PU : Hid (∀ w, Calls Try.prog 53 #[.agg #[.int .u64 (l0 n), .int .u64 (l1 n), .int .u64 (l2 n), .int .u64 (l3 n)]] w fun e w' => e = .returned (.agg ((putL n).map (Value.int .u8)).toArray) ∧ Below w.heap.size w w') := fun w => put_any w
  have LE : Hid (∀ w, Calls Try.prog 54 #[.agg #[.int .u64 (l0 n), .int .u64 (l1 n), .int .u64 (l2 n), .int .u64 (l3 n)]] w fun e w' => e = .returned (.int .i64 0) ∧ Below w.heap.size w w') := fun w => by
    have h := len_any (n := n) (by rw [hn0]; exact ⟨by decide, by decide⟩) w
    rw [lenN, if_pos hn0] at h
    exact h
  have sz : ((putL n).map (Value.int .u8)).toArray.size = 32 := by simp [putL_len]
  have oc := one_cells (putL n)
  clear hn0
  go_enter Try.func36, Try.ntmps36
  go_wp2_with fail
  refine calls_world (fun W => Below w.heap.size w W ∧ Hold W w.heap.size n) ⟨(Below.refl _ _).alloc (Nat.le_refl _) _, Hold.new w n _⟩ ?_
  rintro W ⟨B, hX⟩
  refine (PU.out _).mono ?_
  rintro e w1 ⟨rfl, hb⟩
  have S1 : Hid (Below w.heap.size w w1 ∧ Hold w1 w.heap.size n) := ⟨B.trans (hb.mono B.size), hX.keep hb⟩
  clear hb B hX PU W
  have hz : Bts (w1.alloc (.cells #[.int .u8 0, .int .u8 0, .int .u8 0, .int .u8 0, .int .u8 0, .int .u8 0, .int .u8 0, .int .u8 0, .int .u8 0, .int .u8 0, .int .u8 0, .int .u8 0, .int .u8 0, .int .u8 0, .int .u8 0, .int .u8 0, .int .u8 0, .int .u8 0, .int .u8 0, .int .u8 0, .int .u8 0, .int .u8 0, .int .u8 0, .int .u8 0, .int .u8 0, .int .u8 0, .int .u8 0, .int .u8 0, .int .u8 0, .int .u8 0, .int .u8 0, .int .u8 0] 25)) w1.heap.size (List.replicate 32 0) := Bts.new (List.replicate 32 0) _ rfl
  have tr := hz.there (k := ((putL n).map (Value.int .u8)).toArray.size) (by rw [sz]; rfl)
  have T1 : Hid (∀ v, Below w.heap.size w ((w1.alloc v).setCells w1.heap.size 0 ((putL n).map (Value.int .u8))) ∧ Hold ((w1.alloc v).setCells w1.heap.size 0 ((putL n).map (Value.int .u8))) w.heap.size n) := fun v => ⟨below_setCells S1.out.1.size _ 0 _ (S1.out.1.alloc S1.out.1.size _), S1.out.2.keep (below_setCells (Nat.le_refl _) _ 0 _ ((Below.refl _ _).alloc (Nat.le_refl _) _))⟩
  go_wp2_with (go_loud (refine wpList_store_mid rfl 25 _ _ rfl w1.heap.size 0 _ rfl rfl tr (by rw [sz]; kernel_rfl) oc ?_); refine wpList_worldU (fun W => (Below w.heap.size w W ∧ Hold W w.heap.size n) ∧ Bts W w1.heap.size (putL n)) ⟨T1.out _, bts_setCells (by simpa using tr)⟩ ?_; intro W hW; obtain ⟨⟨B, hX0, hX1, hX2, hX3⟩, hB⟩ := hW; have S2 : Hid (Below w.heap.size w W ∧ Bts W w1.heap.size (putL n)) := ⟨B, hB⟩; (clear B hB))
  clear T1 tr hz S1
  refine (LE.out _).mono ?_
  rintro e w2 ⟨rfl, hb⟩
  have S3 : Hid (Below w.heap.size w w2 ∧ Bts w2 w1.heap.size (putL n)) := ⟨S2.out.1.trans (hb.mono S2.out.1.size), S2.out.2.keep (by rw [putL_len]; decide) hb⟩
  clear hb S2 LE hX0 hX1 hX2 hX3 oc sz
  generalize w1.heap.size = bA at *
  have sl := slice_end (b := bA)
  go_wp2_with fail
  have bz : Bz w2 bA 0 ([] : List Int) := fun i hi => absurd hi (Nat.not_lt_zero _)
  have hc := clone_any (X := []) (c := 0) (by simp) w2 bz
  rw [List.length_nil] at hc
  with_reducible refine hc.mono ?_
  rintro e w3 ⟨v, rfl, O, hb⟩
  have S4 : Hid (OwnB w2.heap.size w3 v [] ∧ Below w.heap.size w w3) := ⟨O, S3.out.1.trans (hb.mono S3.out.1.size)⟩
  have l2 : w.heap.size ≤ w2.heap.size := S3.out.1.size
  clear hc hb O bz S3
  go_wp2
  go_ret
  exact ⟨_, rfl, S4.out.1.base l2, S4.out.2⟩
theorem bytes_any {n : Int} (hn : Num n) (w : World) :
    Calls Try.prog 36 #[.agg #[.int .u64 (l0 n), .int .u64 (l1 n), .int .u64 (l2 n), .int .u64 (l3 n)]] w fun e w' => ∃ v, e = .returned v ∧ OwnB w.heap.size w' v (stripL (putL n)) ∧ Below w.heap.size w w' := by
  by_cases h : n = 0
  · rw [h]; exact bytes_zero w
  · exact bytes_pos hn (by have := hn.1; omega) w
end Go.Proofs.Ytaefmdofchjofaa

/- Layer 7: isBare, readLength (RlHd on u256's base). -/
namespace Go.Proofs.Ytaefmdofchjofaa
open Go.RowKit

def bareB (A : List Int) : Bool := decide (A.length = 1) && decide (A.getD 0 0 < 128)
set_option maxRecDepth 100000 in
theorem bare_any {A : List Int} {ao : Option Addr} {b o c : Nat} (ha : Az ao b o A) (w : World) (h : Bz w b o A) :
    Calls Try.prog 60 #[.slice ao A.length c] w fun e w' => e = .returned (.bool (bareB A)) ∧ w' = w := by
  unfold bareB
  by_cases h1 : A.length = 1
  · have ea : ao = some ⟨b, o, none⟩ := by
      rcases ha with rfl | e
      · simp at h1
      · exact e
    subst ea
    have g := h 0 (by omega)
    rw [Nat.add_zero] at g
    have e1 : decide (A.length = 1) = true := decide_eq_true h1
    rw [e1]
    generalize A.getD 0 0 = x at *
    rw [h1]
    clear h1 e1 ha h
    go_enter Try.func60, Try.ntmps60
    go_wp2
    go_ret
    exact ⟨by simp, rfl⟩
  · have e1 : decide (A.length = 1) = false := decide_eq_false h1
    have h2 : ¬ ((A.length : Int) = 1) := by omega
    rw [e1]
    generalize A.length = n at *
    clear h1 e1 ha h
    go_enter Try.func60, Try.ntmps60
    go_wp2
    go_ret
    exact ⟨by simp, rfl⟩
/-- The number of the first k bytes, the highest first. -/
def lenQ (A : List Int) : Nat → Int
  | 0 => 0
  | k + 1 => lenQ A k * 256 + A.getD k 0
theorem lenQ_bound {A : List Int} (hA : Byts A) : ∀ k, 0 ≤ lenQ A k ∧ lenQ A k < 256 ^ k
  | 0 => by simp [lenQ]
  | k + 1 => by
    obtain ⟨a, b⟩ := lenQ_bound hA k
    obtain ⟨c, d⟩ := hA k
    unfold lenQ
    rw [Int.pow_succ]
    omega

theorem rl_end {A : List Int} {ao : Option Addr} {c n : Nat} (hn : A.length < n) (w : World) :
    Calls Try.prog 59 #[.slice ao A.length c, .int .i64 n] w fun e w' => e = .returned (.tuple #[.int .u64 0, .int .i64 70]) ∧ w' = w := by
  have h2 : (A.length : Int) < (n : Int) := by omega
  generalize A.length = m at *
  clear hn
  go_enter Try.func59, Try.ntmps59
  go_wp2
  simp [bodyPost, results, Try.results59, go_sem]
theorem or8 {l x : Int} (p0 : 0 ≤ l) (p1 : l < 72057594037927936) (x0 : 0 ≤ x) (x1 : x < 256) : bits .or .u64 (l * 256) x = l * 256 + x := by
  obtain ⟨l, rfl⟩ := Int.eq_ofNat_of_zero_le p0
  obtain ⟨x, rfl⟩ := Int.eq_ofNat_of_zero_le x0
  have := or_sum 8 l x (by omega) (by omega) (by omega)
  rw [show ((l : Int) * 256) = ((2 ^ 8 * l : Nat) : Int) by omega, this]
  omega
theorem lenQ_seven {A : List Int} (hA : Byts A) {i : Nat} (hi : i ≤ 7) : lenQ A i < 72057594037927936 := by
  have h := (lenQ_bound hA i).2
  have : i = 0 ∨ i = 1 ∨ i = 2 ∨ i = 3 ∨ i = 4 ∨ i = 5 ∨ i = 6 ∨ i = 7 := by omega
  rcases this with rfl | rfl | rfl | rfl | rfl | rfl | rfl | rfl <;> omega
set_option maxHeartbeats 2000000 in
theorem rl_any {A : List Int} {b o c n : Nat} (hA : Byts A) (n0 : 1 ≤ n) (n8 : n ≤ 8) (hn : n ≤ A.length) (hc : A.length ≤ c) (w : World) (h : Bz w b o A) :
    Calls Try.prog 59 #[.slice (some ⟨b, o, none⟩) A.length c, .int .i64 n] w fun e w' => e = .returned (.tuple #[.int .u64 (if A.getD 0 0 = 0 ∨ lenQ A n ≤ 55 then 0 else lenQ A n), .int .i64 (if A.getD 0 0 = 0 ∨ lenQ A n ≤ 55 then 72 else 0)]) ∧ w' = w := by
  have h2 : ¬ ((A.length : Int) < (n : Int)) := by omega
  have h3 : (n : Int) ≤ (c : Int) := by omega
  have h4 : (0 : Int) < (A.length : Int) := by omega
  have n8' : (n : Int) ≤ 8 := by omega
  have HB : Hid (Bz w b o A ∧ n ≤ A.length ∧ Byts A ∧ n ≤ 8) := ⟨h, hn, hA, n8⟩
  have g0 := h 0 (by omega)
  rw [Nat.add_zero] at g0
  obtain ⟨m, em⟩ : ∃ m, m = A.length := ⟨_, rfl⟩
  rw [← em] at h2 h4 ⊢
  clear h hA em hc hn n0 n8
  obtain ⟨z, ez⟩ : ∃ z, z = A.getD 0 0 := ⟨_, rfl⟩
  rw [← ez] at g0 ⊢
  clear ez
  obtain ⟨L, eL⟩ : ∃ L, L = lenQ A n := ⟨_, rfl⟩
  rw [← eL]
  have HL : Hid (lenQ A n = L) := eL.symm
  clear eL
  have three : (z = 0 ∧ (z = 0 ∨ L ≤ 55)) ∨ (z ≠ 0 ∧ L ≤ 55 ∧ (z = 0 ∨ L ≤ 55)) ∨ (z ≠ 0 ∧ ¬ L ≤ 55 ∧ ¬ (z = 0 ∨ L ≤ 55)) := by omega
  rcases three with ⟨c1, c3⟩ | ⟨c1, c2, c3⟩ | ⟨c1, c2, c3⟩
  all_goals first | rw [if_pos c3, if_pos c3] | rw [if_neg c3, if_neg c3]
  all_goals clear c3
  all_goals (first | (have cb1 : (z == 0) = true := by simpa using c1) | (have cb1 : (z == 0) = false := by simpa using c1))
  all_goals (first | (have cb2 : decide (L ≤ 55) = true := decide_eq_true c2) | (have cb2 : decide (L ≤ 55) = false := decide_eq_false c2) | skip)
  all_goals (
   go_enter Try.func59, Try.ntmps59
   go_wp2_with fail
   go_loopg [6, 8, 17] n (fun k lv bv iv wr => ∃ i : Nat, k = n - i ∧ i ≤ n ∧ iv = .int .i64 (i : Int) ∧ lv = .int .u64 (lenQ A i) ∧ w = wr)
   case atStart => exact ⟨0, rfl, Nat.zero_le _, rfl, rfl, rfl⟩
   case round =>
    obtain ⟨i, hk, hi, rfl, rfl, rfl⟩ := hrel
    by_cases h8 : i = n
    · subst h8
      rw [HL.out]
      go_wp2
      simp [bodyPost, results, Try.results59, go_sem]
    · have hlt : (i : Int) < (n : Int) := by omega
      have g := HB.out.1 i (by have := HB.out.2.1; omega)
      have p0 := (lenQ_bound HB.out.2.2.1 i).1
      have p1 := lenQ_seven HB.out.2.2.1 (i := i) (by have := HB.out.2.2.2; omega)
      obtain ⟨x0, x1⟩ := HB.out.2.2.1 i
      have EL : Hid (lenQ A (i + 1) = lenQ A i * 256 + A.getD i 0) := rfl
      generalize lenQ A i = l at *
      generalize A.getD i 0 = x at *
      have ob := or8 p0 p1 x0 x1
      have HK : Hid (gk = n - i) := hk
      clear hk c1 cb1
      (try clear cb2)
      (try clear c2)
      go_wp2_with fail
      go_roundg (n - (i + 1))
      case measure => have := HK.out; omega
      case rel => exact ⟨i + 1, rfl, by omega, rfl, by rw [EL.out], rfl⟩)
end Go.Proofs.Ytaefmdofchjofaa

/- Layer 1: Get of the document and roomy, of any list. -/
namespace Go.Proofs.Ytaefmdofchjofaa
open Go.RowKit Go.Sort

set_option maxHeartbeats 4000000 in
theorem rget_any {A : List Int} {a : Option Addr} {bb ob cb : Nat} (hZ : Az a bb ob A) (hA : Byts A) (hl : A.length ≤ 32) (w : World) (ha : ∀ i, i < A.length → w.cell? ⟨bb, ob + i, none⟩ = some (.int .u8 (A.getD i 0))) :
    Calls Try.prog 66 #[.slice a A.length cb] w fun e w' => e = .returned (.tuple #[.agg #[.int .u64 (l0 (sufN A A.length)), .int .u64 (l1 (sufN A A.length)), .int .u64 (l2 (sufN A A.length)), .int .u64 (l3 (sufN A A.length))], .int .i64 0]) ∧ Below w.heap.size w w' := by
  have hl' : (A.length : Int) ≤ 32 := by omega
  have HZ : Hid (Az a bb ob A) := hZ
  clear hZ
  have hb0 := build_zero
  go_enter Try.func66, Try.ntmps66
  go_wp2_with fail
  refine wp_world (fun W => Below w.heap.size w W ∧ Blank W w.heap.size ∧ Row W (w.heap.size + 1) [l0 0, l1 0, l2 0, l3 0] ∧ Loose W (w.heap.size + 1) 4) ⟨?_, (Blank.new rfl).alloc _, ?_, ?_⟩ ?_
  · repeat (first | with_reducible exact Below.refl _ _ | with_reducible refine Below.alloc ?_ (by first | omega | (simp; done) | (simp; omega)) _)
  · obtain ⟨z0, z1, z2, z3⟩ := zero_limbs
    rw [z0, z1, z2, z3]
    exact (Blank.new (by simp)).1
  · exact (Blank.new (by simp)).2
  rintro W ⟨B, hR, hX, lX⟩
  have c1 : w.heap.size + 1 ≠ w.heap.size := by omega
  have o1 : w.heap.size ≤ w.heap.size + 1 := by omega
  generalize w.heap.size + 1 = bx at *
  have HA : Hid (Byts A ∧ ∀ i, i < A.length → w.cell? ⟨bb, ob + i, none⟩ = some (.int .u8 (A.getD i 0))) := ⟨hA, ha⟩
  clear hA ha
  go_loopg [5] A.length (fun k iv wr => ∃ i : Nat, k = A.length - i ∧ i ≤ A.length ∧ iv = .int .i64 i ∧ Below w.heap.size w wr ∧ Blank wr w.heap.size ∧ Row wr bx [l0 (gpreN A i), l1 (gpreN A i), l2 (gpreN A i), l3 (gpreN A i)] ∧ Loose wr bx 4)
  case atStart => exact ⟨0, rfl, Nat.zero_le _, rfl, B, hR, hX, lX⟩
  case round =>
    clear B hR hX lX
    obtain ⟨i, hk, hi, rfl, B, hR, hX, lX⟩ := hrel
    have HK : Hid (gk = A.length - i) := hk
    clear hk
    by_cases h8 : i = A.length
    · subst h8
      rw [pre_all] at hX
      have gX := hX.all4; have gR := hR.1.all4; have fR := hR.2.all4
      go_wp2
      simp [bodyPost, results, Try.results66, go_sem, gR]
      exact below_set4 B (Nat.le_refl _) _ _ _ _
    · have hi' : (i : Int) < A.length := by omega
      have hi2 : (i : Int) < 32 := by omega
      obtain rfl := HZ.out.cons (by omega)
      have lt : bb < w.heap.size := World.block_lt_of_cell? w _ (HA.out.2 0 (by omega))
      obtain ⟨K, hK⟩ : ∃ K : Nat, A.length - 1 - i = K := ⟨_, rfl⟩
      have eK : (A.length : Int) - 1 - (i : Int) = (K : Int) := by omega
      have K1 : (K : Int) < 32 := by omega
      have e1 : ((K : Int) / 8).toNat = K / 8 := by omega
      have gy : wr.cell? ⟨bb, ob + i, none⟩ = some (.int .u8 (A.getD i 0)) := by rw [B.cell (p := ⟨bb, ob + i, none⟩) lt]; exact HA.out.2 _ (by omega)
      have gx := hX (K / 8) (by simp; omega)
      have fx := lX (K / 8) (by omega)
      obtain ⟨b0, b1⟩ := HA.out.1 i
      obtain ⟨nX, t, ht⟩ := gpreN_bound HA.out.1 hl hi
      obtain ⟨y0, z0, z1, ev⟩ := limb_top (k := K) (by omega) nX (by rw [ht, show A.length - i = K + 1 by omega]) b0 b1
      have EV : Hid ([l0 (gpreN A (i + 1)), l1 (gpreN A (i + 1)), l2 (gpreN A (i + 1)), l3 (gpreN A (i + 1))] = [l0 (gpreN A i), l1 (gpreN A i), l2 (gpreN A i), l3 (gpreN A i)].set (K / 8) ([l0 (gpreN A i), l1 (gpreN A i), l2 (gpreN A i), l3 (gpreN A i)].getD (K / 8) 0 + A.getD i 0 * 2 ^ (8 * (K % 8)))) := by rw [gpreN, hK]; exact ev
      clear ev ht nX
      generalize hy : [l0 (gpreN A i), l1 (gpreN A i), l2 (gpreN A i), l3 (gpreN A i)].getD (K / 8) 0 = y at *
      generalize hv : A.getD i 0 = v at *
      clear hy hv
      have wz : IntKind.u64.wrap (v * 2 ^ (8 * (K % 8))) = v * 2 ^ (8 * (K % 8)) := by rw [IntKind.wrap_u64]; omega
      have wy : IntKind.u64.wrap (y + v * 2 ^ (8 * (K % 8))) = y + v * 2 ^ (8 * (K % 8)) := by rw [IntKind.wrap_u64]; omega
      go_wp2
      go_region
      go_wp2
      go_roundg (A.length - (i + 1))
      case measure => have := HK.out; omega
      case rel =>
        refine ⟨i + 1, rfl, by omega, by go_num, B.drew.setCell o1 _, hR.drew.set c1 _, ?_, lX.drew.set _ _⟩
        rw [EV.out]
        exact Row.set hX.drew (K / 8) (by simp; omega) _

end Go.Proofs.Ytaefmdofchjofaa

/- Layer 1: Get, Strict of any list; '==' of 32 bytes. -/
namespace Go.Proofs.Ytaefmdofchjofaa
open Go.RowKit Go.Sort

def gv (X : List Int) : Int := if X.length ≤ 32 then sufN X X.length else 0
def ge (X : List Int) : Int := if X.length ≤ 32 then 0 else 11
def sv (X : List Int) : Int := if X.length ≤ 32 then (if X ≠ [] ∧ X.getD 0 0 = 0 then 0 else sufN X X.length) else 0
def se (X : List Int) : Int := if X.length ≤ 32 then (if X ≠ [] ∧ X.getD 0 0 = 0 then 13 else 0) else 11
theorem get_all {g c : Nat} {X : List Int} (hX : Byts X) (w : World) (hz : Bz w g 0 X) :
    Calls Try.prog 78 #[.slice (some ⟨g, 0, none⟩) X.length c] w fun e w' => e = .returned (.tuple #[.agg #[.int .u64 (l0 (gv X)), .int .u64 (l1 (gv X)), .int .u64 (l2 (gv X)), .int .u64 (l3 (gv X))], .int .i64 (ge X)]) ∧ Below w.heap.size w w' := by
  by_cases h : X.length ≤ 32
  · rw [gv, ge, if_pos h, if_pos h]; exact get_some hX h w hz
  · rw [gv, ge, if_neg h, if_neg h]; exact get_long (by omega) w
theorem rget_all {a : Option Addr} {b o c : Nat} {X : List Int} (hX : Byts X) (hZ : Az a b o X) (w : World) (hz : Bz w b o X) :
    Calls Try.prog 66 #[.slice a X.length c] w fun e w' => e = .returned (.tuple #[.agg #[.int .u64 (l0 (gv X)), .int .u64 (l1 (gv X)), .int .u64 (l2 (gv X)), .int .u64 (l3 (gv X))], .int .i64 (ge X)]) ∧ Below w.heap.size w w' := by
  by_cases h : X.length ≤ 32
  · rw [gv, ge, if_pos h, if_pos h]; exact rget_any hZ hX h w hz
  · rw [gv, ge, if_neg h, if_neg h]; exact rget_long (by omega) w
theorem strict_all {g c : Nat} {X : List Int} (hX : Byts X) (w : World) (hz : Bz w g 0 X) :
    Calls Try.prog 63 #[.slice (some ⟨g, 0, none⟩) X.length c] w fun e w' => e = .returned (.tuple #[.agg #[.int .u64 (l0 (sv X)), .int .u64 (l1 (sv X)), .int .u64 (l2 (sv X)), .int .u64 (l3 (sv X))], .int .i64 (se X)]) ∧ Below w.heap.size w w' := by
  by_cases h : X.length ≤ 32
  · have GT : Hid (∀ W, Below w.heap.size w W → Calls Try.prog 78 #[.slice (some ⟨g, 0, none⟩) X.length c] W fun e w' => e = .returned (.tuple #[.agg #[.int .u64 (l0 (sufN X X.length)), .int .u64 (l1 (sufN X X.length)), .int .u64 (l2 (sufN X X.length)), .int .u64 (l3 (sufN X X.length))], .int .i64 0]) ∧ Below W.heap.size W w') := fun W B => get_some hX h W (hz.keep B)
    rw [sv, se, if_pos h, if_pos h]
    by_cases h0 : X = []
    · rw [if_neg (by simp [h0]), if_neg (by simp [h0])]
      exact strict_none w (by rw [h0]; rfl) GT
    · have hp : 0 < X.length := List.length_pos_iff.2 h0
      have hc := hz 0 hp
      rw [Nat.add_zero] at hc
      by_cases h1 : X.getD 0 0 = 0
      · rw [if_pos ⟨h0, h1⟩, if_pos ⟨h0, h1⟩]
        obtain ⟨z0, z1, z2, z3⟩ := zero_limbs
        rw [z0, z1, z2, z3]
        rw [h1] at hc
        exact strict_lead w hp hc GT
      · rw [if_neg (fun q => h1 q.2), if_neg (fun q => h1 q.2)]
        exact strict_some w hp h1 hc GT
  · rw [sv, se, if_neg h, if_neg h]
    exact strict_bad w (by decide) (fun W _ => get_long (by omega) W)
end Go.Proofs.Ytaefmdofchjofaa
