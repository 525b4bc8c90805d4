import Derived.Test.YtcjabligkeaafaaDoorKMix
namespace Go.Proofs.YtcjabligkeaafaaDoor.K
open Go.RowKit Go.Sort

/-- A row of bytes as values. -/
noncomputable def byts (M : List (BitVec 8)) : List Value := M.map fun x => .int .u8 (Y x)
theorem byts_len (M : List (BitVec 8)) : (byts M).length = M.length := by simp [byts]
theorem one_byts (M : List (BitVec 8)) : (byts M).toArray.all (·.oneCell') = true := all_oneCell_toArray (by
  intro v hv
  obtain ⟨x, _, rfl⟩ := List.mem_map.1 hv
  rfl)
theorem Y_zero : Y 0 = 0 := by rw [Y_eq]; rfl
/-- Block b holds these 32 bytes and may be written. -/
def Hsh (W : World) (b : Nat) (M : List (BitVec 8)) : Prop := M.length = 32 ∧ (∀ i, i < 32 → W.cell? ⟨b, i, none⟩ = some (.int .u8 (Y (M.getD i 0)))) ∧ Loose W b 32
theorem Hsh.lt {W : World} {b : Nat} {M : List (BitVec 8)} (h : Hsh W b M) : b < W.heap.size := World.block_lt_of_cell? W ⟨b, 0, none⟩ (h.2.1 0 (by decide))
theorem Hsh.keep {W w1 : World} {b : Nat} {M : List (BitVec 8)} (h : Hsh W b M) (hb : Below W.heap.size W w1) : Hsh w1 b M := ⟨h.1, fun i hi => cell_keep hb (h.2.1 i hi), h.2.2.keep hb h.lt⟩
theorem Hsh.alloc {W : World} {b : Nat} {M : List (BitVec 8)} (h : Hsh W b M) (o : Obj) : Hsh (W.alloc o) b M := h.keep ((Below.refl _ _).alloc (Nat.le_refl _) o)
theorem Hsh.drew {W : World} {b : Nat} {M : List (BitVec 8)} (h : Hsh W b M) : Hsh W.drew b M := h
theorem Hsh.other {W : World} {b b' i : Nat} {M : List (BitVec 8)} (h : Hsh W b M) (ne : b' ≠ b) (v : Value) : Hsh (W.setCell ⟨b', i, none⟩ v) b M := ⟨h.1, fun j hj => by rw [World.cell?_setCell_far _ _ _ _ ne]; exact h.2.1 j hj, h.2.2.set _ _⟩
theorem Hsh.otherCells {W : World} {b b' o : Nat} {M : List (BitVec 8)} (h : Hsh W b M) (ne : b' ≠ b) (cs : List Value) : Hsh (W.setCells b' o cs) b M := ⟨h.1, fun j hj => by rw [World.cell?_setCells_out _ _ _ _ _ (fun e => absurd e.symm ne)]; exact h.2.1 j hj, h.2.2.setCells _ _ _⟩
theorem Hsh.set {W : World} {b : Nat} {M : List (BitVec 8)} (h : Hsh W b M) (i : Nat) (hi : i < 32) (v : BitVec 8) : Hsh (W.setCell ⟨b, i, none⟩ (.int .u8 (Y v))) b (M.set i v) := by
  refine ⟨by rw [List.length_set]; exact h.1, fun j hj => ?_, h.2.2.set _ _⟩
  by_cases e : i = j
  · subst e
    rw [World.cell?_setCell_same _ _ _ (h.2.1 i hi)]
    simp [List.getD, h.1, hi]
  · have ne : (⟨b, i, none⟩ : Addr) ≠ ⟨b, j, none⟩ := by first | (simp; done) | (simp; omega)
    rw [World.cell?_setCell_other _ _ _ _ ne, h.2.1 j hj]
    simp [List.getD, List.getElem?_set_ne e]
theorem Hsh.range {W : World} {b : Nat} {M : List (BitVec 8)} (h : Hsh W b M) : W.rangeAt b 0 (byts M) := by
  intro j v hv
  unfold byts at hv
  rw [List.getElem?_map] at hv
  obtain ⟨x, hx, rfl⟩ := Option.map_eq_some_iff.1 hv
  have hj : j < M.length := (List.getElem?_eq_some_iff.1 hx).1
  rw [Nat.zero_add, h.2.1 j (by rw [← h.1]; exact hj)]
  simp [List.getD, hx]
theorem Hsh.there {W : World} {b : Nat} {M : List (BitVec 8)} (h : Hsh W b M) : W.there b 0 32 := by
  intro j hj
  rw [Nat.zero_add]
  exact ⟨by rw [h.2.1 j hj]; rfl, h.2.2 j hj⟩
theorem Hsh.new {W : World} {b : Nat} {M : List (BitVec 8)} (hl : M.length = 32) (t : TypeId) (e : b = W.heap.size) : Hsh (W.alloc (.cells (byts M).toArray t)) b M := by
  refine ⟨hl, fun i hi => ?_, Loose.new _ _ _ e⟩
  subst e
  rw [World.cell?_alloc_mark]
  simp [byts, List.getD, show i < M.length by omega]
theorem Hsh.zeros {W : World} {b : Nat} (t : TypeId) (e : b = W.heap.size) : Hsh (W.alloc (.cells #[.int .u8 0, .int .u8 0, .int .u8 0, .int .u8 0, .int .u8 0, .int .u8 0, .int .u8 0, .int .u8 0, .int .u8 0, .int .u8 0, .int .u8 0, .int .u8 0, .int .u8 0, .int .u8 0, .int .u8 0, .int .u8 0, .int .u8 0, .int .u8 0, .int .u8 0, .int .u8 0, .int .u8 0, .int .u8 0, .int .u8 0, .int .u8 0, .int .u8 0, .int .u8 0, .int .u8 0, .int .u8 0, .int .u8 0, .int .u8 0, .int .u8 0, .int .u8 0] t)) b (List.replicate 32 0) := by
  have h : Y 0#8 = 0 := Y_zero
  have z : (byts (List.replicate 32 0)).toArray = #[.int .u8 0, .int .u8 0, .int .u8 0, .int .u8 0, .int .u8 0, .int .u8 0, .int .u8 0, .int .u8 0, .int .u8 0, .int .u8 0, .int .u8 0, .int .u8 0, .int .u8 0, .int .u8 0, .int .u8 0, .int .u8 0, .int .u8 0, .int .u8 0, .int .u8 0, .int .u8 0, .int .u8 0, .int .u8 0, .int .u8 0, .int .u8 0, .int .u8 0, .int .u8 0, .int .u8 0, .int .u8 0, .int .u8 0, .int .u8 0, .int .u8 0, .int .u8 0] := by simp [byts, List.replicate, h]
  rw [← z]
  exact Hsh.new (by simp) _ e
theorem Hsh.stored {W : World} {b : Nat} {M T : List (BitVec 8)} (h : Hsh W b T) (hl : M.length = 32) : Hsh (W.setCells b 0 (byts M)) b M := by
  refine ⟨hl, fun i hi => ?_, h.2.2.setCells _ _ _⟩
  have := World.rangeAt_setCells_same W b 0 (byts M) (by rw [byts_len, hl]; exact h.there) i (.int .u8 (Y (M.getD i 0))) (by simp [byts, List.getD, show i < M.length by omega])
  rwa [Nat.zero_add] at this

/-- The digest that stands in the lanes. -/
def hashL (L : List (BitVec 64)) : List (BitVec 8) := (List.range 32).map fun i => down (L.getD (i / 8) 0) (i % 8 * 8)
theorem hashL_len (L : List (BitVec 64)) : (hashL L).length = 32 := by simp [hashL]
theorem hashL_getD (L : List (BitVec 64)) {i : Nat} (h : i < 32) : (hashL L).getD i 0 = down (L.getD (i / 8) 0) (i % 8 * 8) := by
  simp [hashL, List.getD, List.getElem?_map, List.getElem?_range h]
theorem hash_ext {M : List (BitVec 8)} {L : List (BitVec 64)} (hl : M.length = 32) (h : ∀ i, i < 32 → M.getD i 0 = down (L.getD (i / 8) 0) (i % 8 * 8)) : M = hashL L := by
  apply List.ext_getElem (by rw [hl, hashL_len])
  intro p h1 h2
  have e1 := h p (by omega)
  have e2 := hashL_getD L (i := p) (by omega)
  rw [List.getD, List.getElem?_eq_getElem h1] at e1
  rw [List.getD, List.getElem?_eq_getElem h2] at e2
  simp only [Option.getD_some] at e1 e2
  rw [e1, e2]

set_option maxRecDepth 100000 in
set_option maxHeartbeats 4000000 in
theorem squeeze_any {L : List (BitVec 64)} (hl : L.length = 25) (w : World) :
    Calls Tryd.prog 26 #[.agg (lanes L).toArray] w fun e w' => e = .returned (.agg (byts (hashL L)).toArray) ∧ Below w.heap.size w w' := by
  go_enter Tryd.func26, Tryd.ntmps26
  go_wp2_with fail
  refine wp_world (fun W => Below w.heap.size w W ∧ Arr W w.heap.size L ∧ Hsh W (w.heap.size + 1) (List.replicate 32 0) ∧ Hsh W (w.heap.size + 1 + 1) (List.replicate 32 0)) ⟨?_, ((Arr.new hl _ rfl).alloc _).alloc _, (Hsh.zeros _ (by simp)).alloc _, Hsh.zeros _ (by simp)⟩ ?_
  · repeat (first | with_reducible exact Below.refl _ _ | with_reducible refine Below.alloc ?_ (by first | omega | (simp; done) | (simp; omega)) _)
  rintro W ⟨B, hA, hR, hO⟩
  have NN : Hid (w.heap.size + 1 + 1 ≠ w.heap.size ∧ w.heap.size + 1 + 1 ≠ w.heap.size + 1 ∧ w.heap.size ≤ w.heap.size + 1 + 1 ∧ w.heap.size ≤ w.heap.size + 1) := ⟨by omega, by omega, by omega, by omega⟩
  clear hl
  generalize w.heap.size + 1 + 1 = bo at *
  generalize w.heap.size + 1 = br at *
  go_loopg [5] 32 (fun k iv wr => ∃ (i : Nat) (M : List (BitVec 8)), k = 32 - i ∧ i ≤ 32 ∧ iv = .int .i64 i ∧ (∀ t, t < i → M.getD t 0 = down (L.getD (t / 8) 0) (t % 8 * 8)) ∧ Below w.heap.size w wr ∧ Arr wr w.heap.size L ∧ Hsh wr br (List.replicate 32 0) ∧ Hsh wr bo M)
  case atStart => exact ⟨0, _, rfl, by decide, rfl, fun t h => absurd h (Nat.not_lt_zero _), B, hA, hR, hO⟩
  case round =>
    clear B hA hR hO
    obtain ⟨i, M, hk, hi, rfl, up, hf⟩ := hrel
    have HK : Hid (gk = 32 - i) := hk
    have HF : Hid (Below w.heap.size w wr ∧ Arr wr w.heap.size L ∧ Hsh wr br (List.replicate 32 0) ∧ Hsh wr bo M) := hf
    have UP : Hid (∀ t, t < i → M.getD t 0 = down (L.getD (t / 8) 0) (t % 8 * 8)) := up
    clear hk hf up
    by_cases h8 : i = 32
    · subst h8
      have EL : Hid (M = hashL L) := hash_ext HF.out.2.2.2.1 UP.out
      have rb := HF.out.2.2.2.range
      have sz : ((byts M).toArray).size = 32 := by simp [byts_len, HF.out.2.2.2.1]
      have tr : wr.there br 0 ((byts M).toArray).size := by rw [sz]; exact HF.out.2.2.1.there
      have oc := one_byts M
      generalize hM : byts M = N at *
      have HM : Hid (N.length = 32) := by rw [← hM, byts_len]; exact HF.out.2.2.2.1
      go_wp2_with (first | refine wpList_load_mid rfl 26 _ rfl bo 0 rfl N _ rb Tryd.underlying26 rfl (by rw [HM.out]; kernel_rfl) ?_ | refine wpList_store_mid rfl 26 _ _ rfl br 0 _ rfl rfl tr (by rw [sz]; kernel_rfl) oc ?_)
      have ld := run_loadVar_mid (P := Tryd.prog) (wr.setCells br 0 N) br 0 26 N _ (World.rangeAt_setCells_same _ _ _ _ (by simpa using tr)) Tryd.underlying26 rfl (by rw [HM.out]; kernel_rfl)
      refine bodyPost_ret (v := .agg N.toArray) ?_ rfl ⟨by rw [← hM, EL.out], below_setCells NN.out.2.2.2 N 0 wr HF.out.1⟩
      simp [results, Tryd.results26, Act.put, asAddr, ld]
    · have hi' : (i : Int) < 32 := by omega
      have e1 : ((i : Int) / 8).toNat = i / 8 := by omega
      have e2 : ((i : Int) % 8 * 8).toNat = i % 8 * 8 := by omega
      have g0 := HF.out.2.1.2.1 (i / 8) (by rw [HF.out.2.1.1]; omega)
      have gs := HF.out.2.2.2.2.1 i (by omega)
      have fs := HF.out.2.2.2.2.2 i (by omega)
      have EF : Hid (down (L.getD (i / 8) 0) (i % 8 * 8) = down (L.getD (i / 8) 0) (i % 8 * 8)) := rfl
      obtain ⟨z, kz⟩ : ∃ z, z = L.getD (i / 8) 0 := ⟨_, rfl⟩
      rw [← kz] at g0
      have KZ : Hid (z = L.getD (i / 8) 0) := kz
      clear kz EF
      have v0 := V_lo z; have v1 := V_hi z
      have vd := Y_down z (i % 8 * 8)
      go_wp2
      go_roundg (32 - (i + 1))
      case measure => have := HK.out; omega
      case rel =>
        refine ⟨i + 1, M.set i (down z (i % 8 * 8)), rfl, by omega, by go_num, fun t ht => ?_, HF.out.1.setCell NN.out.2.2.1 _, HF.out.2.1.other NN.out.1 _, HF.out.2.2.1.other NN.out.2.1 _, HF.out.2.2.2.set i (by omega) _⟩
        by_cases e : t = i
        · subst e; rw [← KZ.out]; simp [List.getD, HF.out.2.2.2.1, show t < 32 by omega]
        · rw [← UP.out t (by omega)]; simp [List.getD, List.getElem?_set_ne (Ne.symm e)]

end Go.Proofs.YtcjabligkeaafaaDoor.K
