import Derived.Test.YtncpjgpioajbeaaGreatDoorSSpec
import Derived.Test.YtncpjgpioajbeaaGreatDoorTail
/- Compress. -/
namespace Go.Proofs.YtncpjgpioajbeaaGreatDoor.S
open Go.RowKit Go.Sort

theorem wpList_load_at {P : Program} {ops : Array Oper} {rest : List Oper} {a : Act} {w : World} {Q : Exit → Act → World → Prop} {n : Nat} {ty tt : TypeId} {x : Operand} {pos : String} {after : Array Edge} (b o : Nat) (cs : List Value) (d : TypeDesc) (hc : w.rangeAt b o cs)
    (hu : P.underlying ty = some d) (hd : d.isRow = true) (hi : (P.info? ty).map (·.size) = some cs.length) (hx : a.eval x = .pointer (some ⟨b, o, none⟩))
    (h : wpList P ops Q rest (a.put (some n) (.agg cs.toArray)) w) : wpList P ops Q (⟨some n, .load ty x, tt, pos, after, none⟩ :: rest) a w :=
  wpList_load_mid rfl ty x rfl b o hx cs d hc hu hd hi h
theorem wpList_store_at {P : Program} {ops : Array Oper} {rest : List Oper} {a : Act} {w : World} {Q : Exit → Act → World → Prop} {ty tt : TypeId} {x y : Operand} {pos : String} {after : Array Edge} (b o : Nat) (cells : Array Value)
    (ht : w.there b o cells.size) (hi : (P.info? ty).map (·.size) = some cells.size) (h1 : cells.all (·.oneCell') = true) (hx : a.eval x = .pointer (some ⟨b, o, none⟩)) (hy : a.eval y = .agg cells)
    (h : wpList P ops Q rest (a.put none undef) (w.setCells b o cells.toList)) : wpList P ops Q (⟨none, .store ty x y, tt, pos, after, none⟩ :: rest) a w :=
  wpList_store_mid rfl ty x y rfl b o cells hx hy ht hi h1 h
theorem hold {p : Prop} (h : Hid p) : p := h.out
theorem U_add' (x y : BitVec 32) : (U x + U y) % 4294967296 = U (x + y) := by rw [← IntKind.wrap_u32', U_add]
theorem U_shl' (x : BitVec 32) (n : Nat) : U x * 2 ^ n % 4294967296 = U (x <<< n) := by rw [← IntKind.wrap_u32', U_shl]
theorem U_rotr' (x : BitVec 32) (n : Nat) : bits .or .u32 (U x * 2 ^ (32 - n) % 4294967296) (U x / 2 ^ n) = U (rotr x n) := by rw [← IntKind.wrap_u32', U_rotr]
theorem and31 {k : Nat} (h : k < 32) : bits .and .u64 (k : Int) 31 = k := by
  rw [show (31 : Int) = ((31 : Nat) : Int) by rfl, u64_and_nat _ _ (by omega) (by omega), show (31 : Nat) = 2 ^ 5 - 1 by rfl, Nat.and_two_pow_sub_one_eq_mod, Nat.mod_eq_of_lt (by omega)]
theorem andneg {k : Nat} (h0 : 0 < k) (h : k < 32) : bits .and .u64 (IntKind.u64.wrap (-(k : Int))) 31 = ((32 - k : Nat) : Int) := by
  have e : IntKind.u64.wrap (-(k : Int)) = ((18446744073709551616 - k : Nat) : Int) := by rw [IntKind.wrap_u64]; omega
  rw [e, show (31 : Int) = ((31 : Nat) : Int) by rfl, u64_and_nat _ _ (by omega) (by omega), show (31 : Nat) = 2 ^ 5 - 1 by rfl, Nat.and_two_pow_sub_one_eq_mod]
  congr 1
  omega

set_option maxHeartbeats 1000000 in
theorem rotl_any (x : BitVec 32) {k : Nat} (h0 : 0 < k) (hk : k < 32) (w : World) :
    Calls Tryz.prog 169 #[.int .u32 (U x), .int .i64 (-(k : Int))] w fun e w' => e = .returned (.int .u32 (U (rotr x k))) ∧ w' = w := by
  have a := andneg h0 hk
  have r := U_rotr' x k
  have b0 : (k : Int) < 32 := by omega
  have e1 : (32 - ((32 - k : Nat) : Int)).toNat = k := by omega
  have u0 := U_lo x; have u1 := U_hi x
  have e2 : ((32 - k : Nat) : Int) ≤ 32 := by omega
  go_enter Tryz.func169, Tryz.ntmps169
  go_wp2
  go_ret
  exact ⟨rfl, rfl⟩

set_option maxHeartbeats 1000000 in
theorem right_any (x : BitVec 32) {k : Nat} (h0 : 0 < k) (hk : k < 32) (w : World) :
    Calls Tryz.prog 163 #[.int .u32 (U x), .int .i64 (k : Int)] w fun e w' => e = .returned (.int .u32 (U (rotr x k))) ∧ w' = w := by
  have b0 : (k : Int) < 32 := by omega
  go_enter Tryz.func163, Tryz.ntmps163
  go_wp2_with fail
  refine (rotl_any x h0 hk _).mono ?_
  rintro e w1 ⟨rfl, rfl⟩
  go_wp2
  go_ret
  exact ⟨rfl, rfl⟩
theorem right_b (x : BitVec 32) {k : Nat} {k' : Int} (e : k' = (k : Int)) (h0 : 0 < k) (hk : k < 32) (w : World) :
    Calls Tryz.prog 163 #[.int .u32 (U x), .int .i64 k'] w fun e w' => e = .returned (.int .u32 (U (rotr x k))) ∧ Below w.heap.size w w' := by
  subst e
  exact (right_any x h0 hk w).mono fun _ _ ⟨h1, h2⟩ => ⟨h1, by rw [h2]; exact Below.refl _ _⟩

theorem right_7 (x : BitVec 32) (w : World) : Calls Tryz.prog 163 #[.int .u32 (U x), .int .i64 7] w fun e w' => e = .returned (.int .u32 (U (rotr x 7))) ∧ Below w.heap.size w w' := right_b x (k := 7) rfl (by decide) (by decide) w
theorem right_18 (x : BitVec 32) (w : World) : Calls Tryz.prog 163 #[.int .u32 (U x), .int .i64 18] w fun e w' => e = .returned (.int .u32 (U (rotr x 18))) ∧ Below w.heap.size w w' := right_b x (k := 18) rfl (by decide) (by decide) w
theorem right_17 (x : BitVec 32) (w : World) : Calls Tryz.prog 163 #[.int .u32 (U x), .int .i64 17] w fun e w' => e = .returned (.int .u32 (U (rotr x 17))) ∧ Below w.heap.size w w' := right_b x (k := 17) rfl (by decide) (by decide) w
theorem right_19 (x : BitVec 32) (w : World) : Calls Tryz.prog 163 #[.int .u32 (U x), .int .i64 19] w fun e w' => e = .returned (.int .u32 (U (rotr x 19))) ∧ Below w.heap.size w w' := right_b x (k := 19) rfl (by decide) (by decide) w

set_option maxHeartbeats 1000000 in
theorem turns_any (x : BitVec 32) {i j k : Nat} (i0 : 0 < i) (i1 : i < 32) (j0 : 0 < j) (j1 : j < 32) (k0 : 0 < k) (k1 : k < 32) (w : World) :
    Calls Tryz.prog 152 #[.int .u32 (U x), .int .i64 (i : Int), .int .i64 (j : Int), .int .i64 (k : Int)] w fun e w' => e = .returned (.int .u32 (U (tri x i j k))) ∧ w' = w := by
  have x1 := U_xor (rotr x i) (rotr x j)
  have x2 := U_xor (rotr x i ^^^ rotr x j) (rotr x k)
  go_enter Tryz.func152, Tryz.ntmps152
  go_wp2_with fail
  refine (right_any x i0 i1 _).mono ?_
  rintro e w1 ⟨rfl, rfl⟩
  go_wp2_with fail
  refine (right_any x j0 j1 _).mono ?_
  rintro e w1 ⟨rfl, rfl⟩
  go_wp2_with fail
  refine (right_any x k0 k1 _).mono ?_
  rintro e w1 ⟨rfl, rfl⟩
  go_wp2
  go_ret
  exact ⟨rfl, rfl⟩

/-- Block b holds these 64 words and may be written. -/
def Sch (W : World) (b : Nat) (L : List (BitVec 32)) : Prop := L.length = 64 ∧ Wds W b 0 L ∧ Loose W b 64
theorem Sch.lt {W : World} {b : Nat} {L : List (BitVec 32)} (h : Sch W b L) : b < W.heap.size := h.2.1.lt (by rw [h.1]; decide)
theorem Sch.keep {W w1 : World} {b : Nat} {L : List (BitVec 32)} (h : Sch W b L) (hb : Below W.heap.size W w1) : Sch w1 b L := ⟨h.1, h.2.1.keep hb, h.2.2.keep hb h.lt⟩
theorem Sch.drew {W : World} {b : Nat} {L : List (BitVec 32)} (h : Sch W b L) : Sch W.drew b L := h
theorem Sch.set {W : World} {b i : Nat} {L : List (BitVec 32)} (h : Sch W b L) (hi : i < 64) (v : BitVec 32) : Sch (W.setCell ⟨b, i, none⟩ (.int .u32 (U v))) b (L.set i v) := by
  have k := h.2.1.set i (by rw [h.1]; exact hi) v
  rw [Nat.zero_add] at k
  exact ⟨by rw [List.length_set]; exact h.1, k, h.2.2.set _ _⟩
theorem Sch.other {W : World} {b b' i : Nat} {L : List (BitVec 32)} (h : Sch W b L) (ne : b' ≠ b) (v : Value) : Sch (W.setCell ⟨b', i, none⟩ v) b L := ⟨h.1, h.2.1.other ne v, h.2.2.set _ _⟩
theorem Sch.at {W : World} {b i : Nat} {L : List (BitVec 32)} (h : Sch W b L) (hi : i < 64) : W.cell? ⟨b, i, none⟩ = some (.int .u32 (U (L.getD i 0))) := by
  have k := h.2.1 i (by rw [h.1]; exact hi)
  rwa [Nat.zero_add] at k
theorem Sch.there {W : World} {b : Nat} {L : List (BitVec 32)} (h : Sch W b L) : W.there b 0 64 := h.2.1.there h.2.2.lse h.1
theorem Sch.stored {W : World} {b : Nat} {L M : List (BitVec 32)} (h : Sch W b L) (hl : M.length = 64) : Sch (W.setCells b 0 (wrds M)) b M :=
  ⟨hl, Wds.stored (by rw [hl]; exact h.there), h.2.2.setCells _ _ _⟩
theorem Sch.new {W : World} {b : Nat} {L : List (BitVec 32)} (hl : L.length = 64) (t : TypeId) (e : b = W.heap.size) : Sch (W.alloc (.cells (wrds L).toArray t)) b L := ⟨hl, Wds.new L t e, Loose.new _ _ _ e⟩
theorem zeros64 : (wrds (List.replicate 64 0)).toArray = #[.int .u32 0, .int .u32 0, .int .u32 0, .int .u32 0, .int .u32 0, .int .u32 0, .int .u32 0, .int .u32 0, .int .u32 0, .int .u32 0, .int .u32 0, .int .u32 0, .int .u32 0, .int .u32 0, .int .u32 0, .int .u32 0, .int .u32 0, .int .u32 0, .int .u32 0, .int .u32 0, .int .u32 0, .int .u32 0, .int .u32 0, .int .u32 0, .int .u32 0, .int .u32 0, .int .u32 0, .int .u32 0, .int .u32 0, .int .u32 0, .int .u32 0, .int .u32 0, .int .u32 0, .int .u32 0, .int .u32 0, .int .u32 0, .int .u32 0, .int .u32 0, .int .u32 0, .int .u32 0, .int .u32 0, .int .u32 0, .int .u32 0, .int .u32 0, .int .u32 0, .int .u32 0, .int .u32 0, .int .u32 0, .int .u32 0, .int .u32 0, .int .u32 0, .int .u32 0, .int .u32 0, .int .u32 0, .int .u32 0, .int .u32 0, .int .u32 0, .int .u32 0, .int .u32 0, .int .u32 0, .int .u32 0, .int .u32 0, .int .u32 0, .int .u32 0] := by
  have h : U 0#32 = 0 := U_zero
  simp [wrds, List.replicate, h]
theorem Sch.zeros {W : World} {b : Nat} (t : TypeId) (e : b = W.heap.size) : Sch (W.alloc (.cells #[.int .u32 0, .int .u32 0, .int .u32 0, .int .u32 0, .int .u32 0, .int .u32 0, .int .u32 0, .int .u32 0, .int .u32 0, .int .u32 0, .int .u32 0, .int .u32 0, .int .u32 0, .int .u32 0, .int .u32 0, .int .u32 0, .int .u32 0, .int .u32 0, .int .u32 0, .int .u32 0, .int .u32 0, .int .u32 0, .int .u32 0, .int .u32 0, .int .u32 0, .int .u32 0, .int .u32 0, .int .u32 0, .int .u32 0, .int .u32 0, .int .u32 0, .int .u32 0, .int .u32 0, .int .u32 0, .int .u32 0, .int .u32 0, .int .u32 0, .int .u32 0, .int .u32 0, .int .u32 0, .int .u32 0, .int .u32 0, .int .u32 0, .int .u32 0, .int .u32 0, .int .u32 0, .int .u32 0, .int .u32 0, .int .u32 0, .int .u32 0, .int .u32 0, .int .u32 0, .int .u32 0, .int .u32 0, .int .u32 0, .int .u32 0, .int .u32 0, .int .u32 0, .int .u32 0, .int .u32 0, .int .u32 0, .int .u32 0, .int .u32 0, .int .u32 0] t)) b (List.replicate 64 0) := by
  rw [← zeros64]
  exact Sch.new (by simp) _ e

set_option maxRecDepth 100000 in
set_option maxHeartbeats 4000000 in
theorem spread_any {bd od cd : Nat} {B : List (BitVec 8)} (hl : B.length = 64) (w : World) (hB : Byo w bd od B) :
    Calls Tryz.prog 151 #[.slice (some ⟨bd, od, none⟩) 64 cd] w fun e w' => e = .returned (.agg (wrds (spreadL B)).toArray) ∧ Below w.heap.size w w' := by
  go_enter Tryz.func151, Tryz.ntmps151
  go_wp2_with fail
  refine wp_world (fun W => Below w.heap.size w W ∧ Sch W (w.heap.size + 1) (puts B 0) ∧ Sch W w.heap.size (List.replicate 64 0)) ⟨?_, Sch.zeros _ (by simp), (Sch.zeros _ rfl).keep ((Below.refl _ _).alloc (Nat.le_refl _) _)⟩ ?_
  · repeat (first | with_reducible exact Below.refl _ _ | with_reducible refine Below.alloc ?_ (by first | omega | (simp; done) | (simp; omega)) _)
  rintro W ⟨b0, hA, hR⟩
  have NN : Hid (w.heap.size + 1 ≠ w.heap.size ∧ w.heap.size ≤ w.heap.size + 1) := ⟨by omega, by omega⟩
  have HB : Hid (Byo w bd od B ∧ B.length = 64) := ⟨hB, hl⟩
  clear hB hl
  generalize w.heap.size + 1 = ba at *
  go_loopg [11] 64 (fun k iv wr => ∃ i : Nat, k = 64 - i ∧ i ≤ 64 ∧ iv = .int .i64 i ∧ Below w.heap.size w wr ∧ Sch wr ba (puts B i) ∧ Sch wr w.heap.size (List.replicate 64 0))
  case atStart => exact ⟨0, rfl, by decide, rfl, b0, hA, hR⟩
  case round =>
    clear b0 hA hR
    obtain ⟨i, hk, hi, rfl, hf⟩ := hrel
    have HK : Hid (gk = 64 - i) := hk
    have HF : Hid (Below w.heap.size w wr ∧ Sch wr ba (puts B i) ∧ Sch wr w.heap.size (List.replicate 64 0)) := hf
    clear hk hf
    by_cases h8 : i = 64
    · subst h8
      go_wp2_with fail
      obtain ⟨A, kA⟩ : ∃ A, A = puts B 64 := ⟨_, rfl⟩
      have KA : Hid (exts A 48 = spreadL B) := by rw [kA]; exact rfl
      rw [← kA] at HF
      clear kA
      go_loopg [6] 48 (fun k iv wr => ∃ n : Nat, k = 48 - n ∧ n ≤ 48 ∧ iv = .int .i64 ((16 + n : Nat) : Int) ∧ Below w.heap.size w wr ∧ Sch wr ba (exts A n) ∧ Sch wr w.heap.size (List.replicate 64 0))
      case atStart => exact ⟨0, rfl, by decide, rfl, HF.out⟩
      case round =>
        clear HF
        obtain ⟨n, hk, hn, rfl, hf⟩ := hrel
        have HK2 : Hid (gk = 48 - n) := hk
        have HF : Hid (Below w.heap.size w wr ∧ Sch wr ba (exts A n) ∧ Sch wr w.heap.size (List.replicate 64 0)) := hf
        clear hk hf
        by_cases h9 : n = 48
        · subst h9
          rw [show ((16 + 48 : Nat) : Int) = 64 from rfl]
          rw [KA.out] at HF
          have rb := HF.out.2.1.2.1.range
          have sz : ((wrds (spreadL B)).toArray).size = 64 := by simp [wrds_len, spreadL_len]
          have tr : wr.there w.heap.size 0 ((wrds (spreadL B)).toArray).size := by rw [sz]; exact HF.out.2.2.there
          have oc := one_wrds (spreadL B)
          have HM : Hid ((wrds (spreadL B)).length = 64) := by rw [wrds_len]; exact spreadL_len B
          obtain ⟨N, kN⟩ : ∃ N, wrds (spreadL B) = N := ⟨_, rfl⟩
          rw [kN] at rb sz tr oc HM
          have EN : Hid (wrds (spreadL B) = N) := kN
          clear kN
          have il : (Tryz.prog.info? 152).map (·.size) = some 64 := by kernel_rfl
          have il2 : (Tryz.prog.info? 152).map (·.size) = some N.length := by rw [HM.out]; exact il
          have il3 : (Tryz.prog.info? 152).map (·.size) = some N.toArray.size := by rw [sz]; exact il
          go_wp2_with (first
            | ((with_reducible refine wpList_load_at (ty := 152) ba 0 N _ rb Tryz.underlying152 ?_ il2 ?_ ?_); rfl; rfl; simp only [Act.put, List.setIfInBounds_toArray, List.set_cons_succ, List.set_cons_zero])
            | ((with_reducible refine wpList_store_at (ty := 152) w.heap.size 0 N.toArray tr il3 oc ?_ ?_ ?_); rfl; rfl))
          have ld := run_loadVar_mid (P := Tryz.prog) (wr.setCells w.heap.size 0 N) w.heap.size 0 152 N _ (World.rangeAt_setCells_same _ _ _ _ (by simpa using tr)) Tryz.underlying152 rfl (by rw [HM.out]; exact il)
          refine bodyPost_ret (v := .agg N.toArray) ?_ rfl ⟨by rw [EN.out], below_setCells (Nat.le_refl _) N 0 wr HF.out.1⟩
          simp [results, Tryz.results151, Act.put, asAddr, ld]
        · obtain ⟨t, et⟩ : ∃ t, t = 16 + n := ⟨_, rfl⟩
          have NX : Hid (exts A (n + 1) = (exts A n).set t (nextW (exts A n) t)) := by rw [et]; exact rfl
          have ET : Hid (t = 16 + n ∧ n < 48) := ⟨et, by omega⟩
          rw [← et]
          have t1 : (t : Int) < 64 := by omega
          have t0 : (16 : Int) ≤ t := by omega
          have e15 : ((t : Int) - 15).toNat = t - 15 := by omega
          have e2 : ((t : Int) - 2).toNat = t - 2 := by omega
          have e7 : ((t : Int) - 7).toNat = t - 7 := by omega
          have e16 : ((t : Int) - 16).toNat = t - 16 := by omega
          have c15 := HF.out.2.1.at (i := t - 15) (by omega)
          have c2 := HF.out.2.1.at (i := t - 2) (by omega)
          have c7 := HF.out.2.1.at (i := t - 7) (by omega)
          have c16 := HF.out.2.1.at (i := t - 16) (by omega)
          clear et h9 hn
          rw [nextW] at NX
          obtain ⟨x15, k15⟩ : ∃ x, (exts A n).getD (t - 15) 0 = x := ⟨_, rfl⟩
          obtain ⟨x2, k2⟩ : ∃ x, (exts A n).getD (t - 2) 0 = x := ⟨_, rfl⟩
          obtain ⟨x7, k7⟩ : ∃ x, (exts A n).getD (t - 7) 0 = x := ⟨_, rfl⟩
          obtain ⟨x16, k16⟩ : ∃ x, (exts A n).getD (t - 16) 0 = x := ⟨_, rfl⟩
          rw [k15, k2, k7, k16] at NX
          rw [k15] at c15
          have X2 : Hid ((exts A n).getD (t - 2) 0 = x2) := k2
          have X7 : Hid ((exts A n).getD (t - 7) 0 = x7 ∧ (exts A n).getD (t - 16) 0 = x16) := ⟨k7, k16⟩
          clear k15 k2 k7 k16
          clear c7 c16 c2
          have h15 := fun d os => cell_regrown c15 d os
          clear c15
          have a1 := U_xor (rotr x15 7) (rotr x15 18)
          have a2 : bits .xor .u32 (U (rotr x15 7 ^^^ rotr x15 18)) (U x15 / 8) = U (sml x15 7 18 3) := by
            have h := U_shr x15 3
            rw [show (2 : Int) ^ 3 = 8 by decide] at h
            rw [h]
            exact U_xor _ _
          have u0 := U_lo x15; have u1 := U_hi x15
          go_wp2_with fail
          refine wp_region_quiet_below (by kernel_rfl) (by kernel_rfl) ?_
          repeat
            first
              | go_big_quiet_skip
              | (go_big_quiet_want; go_big_quiet_op; go_big_quiet_on)
              | (go_big_quiet_want
                 go_big_quiet_op
                 apply Exists.intro
                 refine ⟨fun p => ?_, ?_⟩
                 · (go_at_call 163; first | (with_reducible exact Calls.regrown_of (right_7 x15 _)) | (with_reducible exact Calls.regrown_of (right_18 x15 _)))
                 go_big_quiet_on)
          refine wpQuiet_nil ?_
          rintro w1 ⟨p, rfl⟩
          have hb := below_regrown wr p.d p.os
          generalize grow (redrawn wr p.d) p.os = w1 at *
          have H1 : Hid (Below w.heap.size w w1 ∧ Sch w1 ba (exts A n) ∧ Sch w1 w.heap.size (List.replicate 64 0)) := ⟨HF.out.1.trans (hb.mono HF.out.1.size), HF.out.2.1.keep hb, HF.out.2.2.keep hb⟩
          clear hb h15 a1 a2 u0 u1 HF
          have c2 := H1.out.2.1.at (i := t - 2) (by omega)
          rw [X2.out] at c2
          have h2 := fun d os => cell_regrown c2 d os
          clear c2
          generalize sml x15 7 18 3 = s0 at *
          have a1 := U_xor (rotr x2 17) (rotr x2 19)
          have a2 : bits .xor .u32 (U (rotr x2 17 ^^^ rotr x2 19)) (U x2 / 1024) = U (sml x2 17 19 10) := by
            have h := U_shr x2 10
            rw [show (2 : Int) ^ 10 = 1024 by decide] at h
            rw [h]
            exact U_xor _ _
          have u0 := U_lo x2; have u1 := U_hi x2
          go_wp2_with fail
          refine wp_region_quiet_below (by kernel_rfl) (by kernel_rfl) ?_
          repeat
            first
              | go_big_quiet_skip
              | (go_big_quiet_want; go_big_quiet_op; go_big_quiet_on)
              | (go_big_quiet_want
                 go_big_quiet_op
                 apply Exists.intro
                 refine ⟨fun p => ?_, ?_⟩
                 · (go_at_call 163; first | (with_reducible exact Calls.regrown_of (right_17 x2 _)) | (with_reducible exact Calls.regrown_of (right_19 x2 _)))
                 go_big_quiet_on)
          refine wpQuiet_nil ?_
          rintro w2 ⟨p, rfl⟩
          have hb := below_regrown w1 p.d p.os
          generalize grow (redrawn w1 p.d) p.os = w2 at *
          have H2 : Hid (Below w.heap.size w w2 ∧ Sch w2 ba (exts A n) ∧ Sch w2 w.heap.size (List.replicate 64 0)) := ⟨H1.out.1.trans (hb.mono H1.out.1.size), H1.out.2.1.keep hb, H1.out.2.2.keep hb⟩
          clear hb h2 a1 a2 u0 u1 H1
          generalize sml x2 17 19 10 = s1 at *
          have c7 := H2.out.2.1.at (i := t - 7) (by omega)
          have c16 := H2.out.2.1.at (i := t - 16) (by omega)
          have ct := H2.out.2.1.at (i := t) (by omega)
          have ft := H2.out.2.1.2.2 t (by omega)
          rw [X7.out.1] at c7
          rw [X7.out.2] at c16
          generalize (exts A n).getD t 0 = xt at *
          have b1 := U_add' s1 x7
          have b2 := U_add' (s1 + x7) s0
          have b3 := U_add' (s1 + x7 + s0) x16
          have v0 := U_lo s1; have v1 := U_hi s1; have v2 := U_lo x7; have v3 := U_hi x7; have v4 := U_lo s0; have v5 := U_hi s0; have v6 := U_lo x16; have v7 := U_hi x16
          have KN : Hid (exts A (n + 1) = (exts A n).set t (s1 + x7 + s0 + x16)) := NX.out
          go_wp2_with fail
          refine region_tail 15 (by kernel_rfl) (by kernel_rfl) ?_
          simp only [List.take_succ_cons, List.take_zero, List.drop_succ_cons, List.drop_zero]
          repeat (first | go_big_quiet_skip | (go_big_quiet_want; go_big_quiet_op; go_big_quiet_on))
          refine wpQuiet_nil ?_
          go_wp2
          go_roundg (48 - (n + 1))
          case measure => have := HK2.out; have := ET.out; omega
          case rel =>
            refine ⟨n + 1, rfl, by have := ET.out; omega, ?_, H2.out.1.drew.setCell NN.out.2 _, ?_, H2.out.2.2.drew.other NN.out.1 _⟩
            · have h : (t : Int) + 1 = ((16 + (n + 1) : Nat) : Int) := by have := ET.out; omega
              rw [h]
            · rw [KN.out]
              exact H2.out.2.1.drew.set (by omega) _
    · have hi' : (i : Int) < 64 := by omega
      have e1 : ((i : Int) / 4).toNat = i / 4 := by omega
      have g0 := HF.out.2.1.at (i := i / 4) (by omega)
      have f0 := HF.out.2.1.2.2 (i / 4) (by omega)
      have gb : wr.cell? ⟨bd, od + i, none⟩ = some (.int .u8 (Y (B.getD i 0))) := by
        have h := HB.out.1 i (by rw [HB.out.2]; omega)
        rw [HF.out.1.cell (p := ⟨bd, od + i, none⟩) (World.block_lt_of_cell? w _ h)]; exact h
      have NX : Hid (puts B (i + 1) = (puts B i).set (i / 4) ((puts B i).getD (i / 4) 0 <<< 8 ||| wide (B.getD i 0))) := rfl
      generalize (puts B i).getD (i / 4) 0 = z at *
      generalize B.getD i 0 = y at *
      have y0 := Y_lo y; have y1 := Y_hi y
      have v1 : bits .or .u32 (U z * 256 % 4294967296) (Y y) = U (z <<< 8 ||| wide y) := by
        have h := U_shl' z 8
        rw [show (2 : Int) ^ 8 = 256 by decide] at h
        rw [h, U_wide, U_or]
      go_wp2
      go_roundg (64 - (i + 1))
      case measure => have := HK.out; omega
      case rel =>
        refine ⟨i + 1, rfl, by omega, by go_num, HF.out.1.setCell NN.out.2 _, ?_, HF.out.2.2.other NN.out.1 _⟩
        rw [NX.out]
        exact HF.out.2.1.set (by omega) _

end Go.Proofs.YtncpjgpioajbeaaGreatDoor.S
