import Derived.Test.YtncpjgpioajbeaaGreatDoorSSum
namespace Go.Proofs.YtncpjgpioajbeaaGreatDoor.S
open Go.RowKit Go.Sort

theorem zcells : hcells (List.replicate 8 0) (List.replicate 64 0) 0 = (#[.int .u32 0, .int .u32 0, .int .u32 0, .int .u32 0, .int .u32 0, .int .u32 0, .int .u32 0, .int .u32 0, .int .u8 0, .int .u8 0, .int .u8 0, .int .u8 0, .int .u8 0, .int .u8 0, .int .u8 0, .int .u8 0, .int .u8 0, .int .u8 0, .int .u8 0, .int .u8 0, .int .u8 0, .int .u8 0, .int .u8 0, .int .u8 0, .int .u8 0, .int .u8 0, .int .u8 0, .int .u8 0, .int .u8 0, .int .u8 0, .int .u8 0, .int .u8 0, .int .u8 0, .int .u8 0, .int .u8 0, .int .u8 0, .int .u8 0, .int .u8 0, .int .u8 0, .int .u8 0, .int .u8 0, .int .u8 0, .int .u8 0, .int .u8 0, .int .u8 0, .int .u8 0, .int .u8 0, .int .u8 0, .int .u8 0, .int .u8 0, .int .u8 0, .int .u8 0, .int .u8 0, .int .u8 0, .int .u8 0, .int .u8 0, .int .u8 0, .int .u8 0, .int .u8 0, .int .u8 0, .int .u8 0, .int .u8 0, .int .u8 0, .int .u8 0, .int .u8 0, .int .u8 0, .int .u8 0, .int .u8 0, .int .u8 0, .int .u8 0, .int .u8 0, .int .u8 0, .int .i64 0] : Array Value).toList := by
  have h1 : U 0#32 = 0 := U_zero
  have h2 : Y 0#8 = 0 := Y_zero
  simp [hcells, wrds, byts, List.replicate, h1, h2]
theorem Tx.new {W : World} {b : Nat} (t : TypeId) (e : b = W.heap.size) : Tx (W.alloc (.cells #[.int .u32 0, .int .u32 0, .int .u32 0, .int .u32 0, .int .u32 0, .int .u32 0, .int .u32 0, .int .u32 0, .int .u8 0, .int .u8 0, .int .u8 0, .int .u8 0, .int .u8 0, .int .u8 0, .int .u8 0, .int .u8 0, .int .u8 0, .int .u8 0, .int .u8 0, .int .u8 0, .int .u8 0, .int .u8 0, .int .u8 0, .int .u8 0, .int .u8 0, .int .u8 0, .int .u8 0, .int .u8 0, .int .u8 0, .int .u8 0, .int .u8 0, .int .u8 0, .int .u8 0, .int .u8 0, .int .u8 0, .int .u8 0, .int .u8 0, .int .u8 0, .int .u8 0, .int .u8 0, .int .u8 0, .int .u8 0, .int .u8 0, .int .u8 0, .int .u8 0, .int .u8 0, .int .u8 0, .int .u8 0, .int .u8 0, .int .u8 0, .int .u8 0, .int .u8 0, .int .u8 0, .int .u8 0, .int .u8 0, .int .u8 0, .int .u8 0, .int .u8 0, .int .u8 0, .int .u8 0, .int .u8 0, .int .u8 0, .int .u8 0, .int .u8 0, .int .u8 0, .int .u8 0, .int .u8 0, .int .u8 0, .int .u8 0, .int .u8 0, .int .u8 0, .int .u8 0, .int .i64 0] t)) b [] := by
  refine Hs.of_range (by decide) (by decide) ?_ (Loose.new _ _ _ e)
  subst e
  intro j v hv
  rw [Nat.zero_add, World.cell?_alloc_mark]
  have e : hcells (stX []) (bkX []) ([] : List (BitVec 8)).length = (#[.int .u32 0, .int .u32 0, .int .u32 0, .int .u32 0, .int .u32 0, .int .u32 0, .int .u32 0, .int .u32 0, .int .u8 0, .int .u8 0, .int .u8 0, .int .u8 0, .int .u8 0, .int .u8 0, .int .u8 0, .int .u8 0, .int .u8 0, .int .u8 0, .int .u8 0, .int .u8 0, .int .u8 0, .int .u8 0, .int .u8 0, .int .u8 0, .int .u8 0, .int .u8 0, .int .u8 0, .int .u8 0, .int .u8 0, .int .u8 0, .int .u8 0, .int .u8 0, .int .u8 0, .int .u8 0, .int .u8 0, .int .u8 0, .int .u8 0, .int .u8 0, .int .u8 0, .int .u8 0, .int .u8 0, .int .u8 0, .int .u8 0, .int .u8 0, .int .u8 0, .int .u8 0, .int .u8 0, .int .u8 0, .int .u8 0, .int .u8 0, .int .u8 0, .int .u8 0, .int .u8 0, .int .u8 0, .int .u8 0, .int .u8 0, .int .u8 0, .int .u8 0, .int .u8 0, .int .u8 0, .int .u8 0, .int .u8 0, .int .u8 0, .int .u8 0, .int .u8 0, .int .u8 0, .int .u8 0, .int .u8 0, .int .u8 0, .int .u8 0, .int .u8 0, .int .u8 0, .int .i64 0] : Array Value).toList := zcells
  rw [e] at hv
  rw [← hv]
  exact (Array.getElem?_toList).symm
theorem Tx.lt {W : World} {b : Nat} {X : List (BitVec 8)} (h : Tx W b X) : b < W.heap.size := Hs.lt h
set_option maxRecDepth 100000 in
set_option maxHeartbeats 4000000 in
theorem sum_any {a : Option Addr} {bp op cp : Nat} {PS : List Part} (hs : (catX PS).length < 1073740000) (hn : PS.length ≤ 1073741824) (hc : PS.length ≤ cp) (ha : PS = [] ∨ a = some ⟨bp, op, none⟩) (w : World) (hP : Prts w bp op PS) (hf : Wds w 2 0 hN) (hk : Wds w 3 0 kN) :
    Calls Tryz.prog 77 #[.slice a PS.length cp] w fun e w' => e = .returned (.agg (byts (shaL (catX PS))).toArray) ∧ Below w.heap.size w w' := by
  have HH : Hid (Prts w bp op PS ∧ Wds w 2 0 hN ∧ Wds w 3 0 kN) := ⟨hP, hf, hk⟩
  have HC : Hid ((catX PS).length < 1073740000 ∧ PS.length ≤ cp ∧ (PS = [] ∨ a = some ⟨bp, op, none⟩)) := ⟨hs, hc, ha⟩
  clear hP hf hk hs hc ha
  have zh := zeroHs
  go_enter Tryz.func77, Tryz.ntmps77
  have NL : Hid (PS.length ≤ 1073741824) := hn
  go_wp2_with fail
  refine wp_world (fun W => Below w.heap.size w W ∧ Hsh W w.heap.size (List.replicate 32 0) ∧ Tx W (w.heap.size + 1) []) ⟨((Below.refl _ _).alloc (Nat.le_refl _) _).alloc (by simp) _, (Hsh.zeros _ rfl).alloc _, Tx.new _ (by simp)⟩ ?_
  rintro W2 h2
  have HY : Hid (Below w.heap.size w W2 ∧ Hsh W2 w.heap.size (List.replicate 32 0) ∧ Tx W2 (w.heap.size + 1) []) := h2
  clear h2 zh
  have NN : Hid (w.heap.size ≠ w.heap.size + 1 ∧ w.heap.size ≤ w.heap.size + 1) := ⟨by omega, by omega⟩
  have LT : Hid (2 < w.heap.size ∧ 3 < w.heap.size) := ⟨HH.out.2.1.lt (by decide), HH.out.2.2.lt (by decide)⟩
  generalize hbs : w.heap.size + 1 = bs at *
  have BS : Hid (w.heap.size + 1 = bs) := hbs
  clear hbs
  go_loopg [8] PS.length (fun g iv wr => ∃ i : Nat, g = PS.length - i ∧ i ≤ PS.length ∧ iv = .int .i64 i ∧ Below w.heap.size w wr ∧ Hsh wr w.heap.size (List.replicate 32 0) ∧ Tx wr bs (catX (PS.take i)))
  case atStart => exact ⟨0, rfl, Nat.zero_le _, rfl, HY.out⟩
  case round =>
    clear HY
    obtain ⟨i, hk, hi, rfl, hf⟩ := hrel
    have HK : Hid (gk = PS.length - i) := hk
    have HF : Hid (Below w.heap.size w wr ∧ Hsh wr w.heap.size (List.replicate 32 0) ∧ Tx wr bs (catX (PS.take i))) := hf
    clear hk hf
    by_cases h8 : i = PS.length
    · subst h8
      rw [List.take_length] at HF
      go_wp2_with fail
      refine (ssum_any HC.out.1 _ HF.out.2.2 (HH.out.2.1.keep HF.out.1) (HH.out.2.2.keep HF.out.1)).mono ?_
      rintro e w6 ⟨rfl, hb⟩
      have H6 : Hid (Below w.heap.size w w6 ∧ Hsh w6 w.heap.size (List.replicate 32 0)) := ⟨HF.out.1.trans (hb.mono HF.out.1.size), HF.out.2.1.keep hb⟩
      clear hb HF
      have oc := one_byts (shaL (catX PS))
      have lN : (byts (shaL (catX PS))).length = 32 := by rw [byts_len, shaL_len]
      obtain ⟨N, kN⟩ : ∃ N, byts (shaL (catX PS)) = N := ⟨_, rfl⟩
      rw [kN] at oc lN ⊢
      have EN : Hid (byts (shaL (catX PS)) = N) := kN
      have sz : (N.toArray).size = 32 := by simp [lN]
      have tr : w6.there w.heap.size 0 (N.toArray).size := by rw [sz]; exact H6.out.2.there
      have il : (Tryz.prog.info? 26).map (·.size) = some N.length := by rw [lN]; kernel_rfl
      have il3 : (Tryz.prog.info? 26).map (·.size) = some N.toArray.size := by rw [sz]; kernel_rfl
      clear kN lN
      go_wp2_with ((with_reducible refine wpList_store_at (ty := 26) w.heap.size 0 N.toArray tr il3 oc ?_ ?_ ?_); rfl; rfl)
      have ld := run_loadVar_mid (P := Tryz.prog) (w6.setCells w.heap.size 0 N) w.heap.size 0 26 N _ (World.rangeAt_setCells_same _ _ _ _ (by simpa using tr)) Tryz.underlying26 rfl il
      refine bodyPost_ret (v := .agg N.toArray) ?_ rfl ⟨by rw [EN.out], below_setCells (Nat.le_refl _) N 0 w6 H6.out.1⟩
      simp [results, Tryz.results77, Act.put, asAddr, ld]
    · have hlt : i < PS.length := by omega
      have hlt' : (i : Int) < PS.length := by omega
      have ea : a = some ⟨bp, op, none⟩ := by
        rcases HC.out.2.2 with h | h
        · rw [h] at hlt; simp at hlt
        · exact h
      subst ea
      obtain ⟨p, kp⟩ : ∃ p, p = PS.getD i .none := ⟨_, rfl⟩
      have g0 : wr.cell? ⟨bp, op + i, none⟩ = some (.slice p.a p.X.length p.c) := by
        have h := (HH.out.1 i hlt).1
        rw [HF.out.1.cell (p := ⟨bp, op + i, none⟩) (World.block_lt_of_cell? w _ h), h, ← kp]
        rfl
      have OK : Hid (p.ok wr) := by
        have h := (HH.out.1 i hlt).2
        rw [← kp] at h
        exact ⟨h.1, h.2.1, fun j hj => by rw [HF.out.1.cell (p := ⟨p.b, p.o + j, none⟩) (World.block_lt_of_cell? w _ (h.2.2 j hj))]; exact h.2.2 j hj⟩
      have LB : Hid (p.X = [] ∨ p.b < w.heap.size) := by
        by_cases h0 : p.X = []
        · exact .inl h0
        · refine .inr ?_
          have h := (HH.out.1 i hlt).2
          rw [← kp] at h
          exact World.block_lt_of_cell? w _ (h.2.2 0 (List.length_pos_iff.2 h0))
      have NX : Hid (catX (PS.take (i + 1)) = catX (PS.take i) ++ p.X) := by rw [kp]; exact catX_next hlt
      have LN : Hid ((catX (PS.take i)).length + p.X.length < 1073741824) := by
        have h1 := catX_le (PS := PS) (i + 1)
        rw [NX.out, List.length_append] at h1
        have := HC.out.1
        have h : (catX (PS.take i)).length + p.X.length < 1073741824 := by omega
        exact h
      clear kp
      obtain ⟨bd, NB, hAt, hByo⟩ : ∃ bd, Hid (bd ≠ bs) ∧ Hid (At p.a bd p.o p.X) ∧ Hid (Byo wr bd p.o p.X) := by
        rcases LB.out with h | h
        · refine ⟨bs + 1, ?_, .inl h, ?_⟩
          · have h : bs + 1 ≠ bs := by omega
            exact h
          · intro j hj; rw [h] at hj; simp at hj
        · refine ⟨p.b, ?_, OK.out.1, OK.out.2.2⟩
          have h : p.b ≠ bs := by have := BS.out; omega
          exact h
      go_wp2_with fail
      refine (write_any NB.out (by have := BS.out; have := LT.out; omega) (by have := BS.out; have := LT.out; omega) LN.out OK.out.2.1 hAt.out _ HF.out.2.2 hByo.out (HH.out.2.1.keep HF.out.1) (HH.out.2.2.keep HF.out.1)).mono ?_
      rintro e w5 ⟨rfl, hs5, ho5⟩
      have H5 : Hid (Below w.heap.size w w5 ∧ Hsh w5 w.heap.size (List.replicate 32 0) ∧ Tx w5 bs (catX (PS.take (i + 1)))) := by
        rw [NX.out]
        exact ⟨HF.out.1.trans (ho5.below HF.out.1.size NN.out.2), HF.out.2.1.off ho5 NN.out.1, hs5⟩
      clear hs5 ho5 HF OK LB NX LN g0 hAt hByo NB
      go_wp2
      go_roundg (PS.length - (i + 1))
      case measure => have := HK.out; omega
      case rel => exact ⟨i + 1, rfl, by omega, by go_num, H5.out⟩

end Go.Proofs.YtncpjgpioajbeaaGreatDoor.S
