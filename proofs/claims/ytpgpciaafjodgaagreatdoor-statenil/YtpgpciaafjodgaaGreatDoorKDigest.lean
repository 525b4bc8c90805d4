import Derived.Test.YtpgpciaafjodgaaGreatDoorKSum
namespace Go.Proofs.YtpgpciaafjodgaaGreatDoor
open Go.RowKit Go.Sort

/-- A part of a text: a slice of bytes. -/
structure Part where
  a : Option Addr
  b : Nat
  o : Nat
  c : Nat
  X : List (BitVec 8)
def Part.none : Part := ⟨.none, 0, 0, 0, []⟩
def Part.val (p : Part) : Value := .slice p.a p.X.length p.c
def Part.ok (W : World) (p : Part) : Prop := At p.a p.b p.o p.X ∧ p.X.length ≤ p.c ∧ Byo W p.b p.o p.X
/-- Block b holds these slices from offset o on. -/
def Prts (W : World) (b o : Nat) (PS : List Part) : Prop := ∀ i, i < PS.length → W.cell? ⟨b, o + i, none⟩ = some (PS.getD i .none).val ∧ (PS.getD i .none).ok W
def catX (PS : List Part) : List (BitVec 8) := PS.flatMap (·.X)
theorem catX_next {PS : List Part} {i : Nat} (h : i < PS.length) : catX (PS.take (i + 1)) = catX (PS.take i) ++ (PS.getD i .none).X := by
  rw [List.take_add_one, catX, List.flatMap_append, List.getD, List.getElem?_eq_getElem h]
  simp [catX]
theorem catX_le {PS : List Part} (i : Nat) : (catX (PS.take i)).length ≤ (catX PS).length := by
  have h : catX PS = catX (PS.take i) ++ catX (PS.drop i) := by
    rw [catX, catX, catX, ← List.flatMap_append, List.take_append_drop]
  rw [h, List.length_append]
  omega

theorem rep_getD (n i : Nat) : (List.replicate n (0 : BitVec 64)).getD i 0 = 0 := by
  rw [List.getD, List.getElem?_replicate]
  split <;> rfl
theorem Sp.zeros {W : World} {b : Nat} (k : Int) (h : W.there b 0 27) : Sp (W.setCells b 0 [.int .i64 k, .int .u64 0, .int .u64 0, .int .u64 0, .int .u64 0, .int .u64 0, .int .u64 0, .int .u64 0, .int .u64 0, .int .u64 0, .int .u64 0, .int .u64 0, .int .u64 0, .int .u64 0, .int .u64 0, .int .u64 0, .int .u64 0, .int .u64 0, .int .u64 0, .int .u64 0, .int .u64 0, .int .u64 0, .int .u64 0, .int .u64 0, .int .u64 0, .int .u64 0, .int .i64 0]) b k (List.replicate 25 0) 0 := by
  have r := World.rangeAt_setCells_same W b 0 [.int .i64 k, .int .u64 0, .int .u64 0, .int .u64 0, .int .u64 0, .int .u64 0, .int .u64 0, .int .u64 0, .int .u64 0, .int .u64 0, .int .u64 0, .int .u64 0, .int .u64 0, .int .u64 0, .int .u64 0, .int .u64 0, .int .u64 0, .int .u64 0, .int .u64 0, .int .u64 0, .int .u64 0, .int .u64 0, .int .u64 0, .int .u64 0, .int .u64 0, .int .u64 0, .int .i64 0] h
  have z : V 0#64 = 0 := V_zero
  refine ⟨by simp, ?_, fun i hi => ?_, ?_, fun i hi => ?_⟩
  · exact r 0 _ rfl
  · have hi' : i < 25 := by simpa using hi
    rw [rep_getD]
    have e : ([.int .i64 k, .int .u64 0, .int .u64 0, .int .u64 0, .int .u64 0, .int .u64 0, .int .u64 0, .int .u64 0, .int .u64 0, .int .u64 0, .int .u64 0, .int .u64 0, .int .u64 0, .int .u64 0, .int .u64 0, .int .u64 0, .int .u64 0, .int .u64 0, .int .u64 0, .int .u64 0, .int .u64 0, .int .u64 0, .int .u64 0, .int .u64 0, .int .u64 0, .int .u64 0, .int .i64 0] : List Value) = .int .i64 k :: (List.replicate 25 (.int .u64 0) ++ [.int .i64 0]) := rfl
    have := r (1 + i) (.int .u64 0) (by rw [e, Nat.add_comm 1 i, List.getElem?_cons_succ, List.getElem?_append_left (by simpa using hi'), List.getElem?_replicate, if_pos hi'])
    rw [Nat.zero_add] at this
    rw [this]
    exact congrArg (fun z => some (Value.int .u64 z)) z.symm
  · exact r 26 _ rfl
  · rw [World.frozen?_setCells]
    have := (h i hi).2
    rwa [Nat.zero_add] at this

theorem Hsh.off {w w' : World} {a b : Nat} {M : List (BitVec 8)} (h : Hsh w a M) (o : Off b w w') (ne : a ≠ b) : Hsh w' a M :=
  ⟨h.1, fun i hi => o.cell ne (h.2.1 i hi), fun i hi => by rw [World.frozen?_of_block (o.block a h.lt ne)]; exact h.2.2 i hi⟩

/-- A new sponge's block. -/
theorem fresh_sponge {W : World} {b : Nat} (e : b = W.heap.size) : (W.alloc (.cells #[.int .i64 0, .int .u64 0, .int .u64 0, .int .u64 0, .int .u64 0, .int .u64 0, .int .u64 0, .int .u64 0, .int .u64 0, .int .u64 0, .int .u64 0, .int .u64 0, .int .u64 0, .int .u64 0, .int .u64 0, .int .u64 0, .int .u64 0, .int .u64 0, .int .u64 0, .int .u64 0, .int .u64 0, .int .u64 0, .int .u64 0, .int .u64 0, .int .u64 0, .int .u64 0, .int .i64 0] 150)).there b 0 27 := by
  subst e
  intro j hj
  rw [Nat.zero_add, World.cell?_alloc_mark]
  refine ⟨?_, by simp [go_sem]⟩
  have : (#[.int .i64 0, .int .u64 0, .int .u64 0, .int .u64 0, .int .u64 0, .int .u64 0, .int .u64 0, .int .u64 0, .int .u64 0, .int .u64 0, .int .u64 0, .int .u64 0, .int .u64 0, .int .u64 0, .int .u64 0, .int .u64 0, .int .u64 0, .int .u64 0, .int .u64 0, .int .u64 0, .int .u64 0, .int .u64 0, .int .u64 0, .int .u64 0, .int .u64 0, .int .u64 0, .int .i64 0] : Array Value)[j]?.isSome = true := by simp; omega
  exact this
theorem fresh_sponge2 {W : World} {b : Nat} (k : Int) (e : b = W.heap.size) : (W.alloc (.cells #[.int .i64 0, .int .u64 0, .int .u64 0, .int .u64 0, .int .u64 0, .int .u64 0, .int .u64 0, .int .u64 0, .int .u64 0, .int .u64 0, .int .u64 0, .int .u64 0, .int .u64 0, .int .u64 0, .int .u64 0, .int .u64 0, .int .u64 0, .int .u64 0, .int .u64 0, .int .u64 0, .int .u64 0, .int .u64 0, .int .u64 0, .int .u64 0, .int .u64 0, .int .u64 0, .int .i64 0] 150)).there b 0 ([.int .i64 k, .int .u64 0, .int .u64 0, .int .u64 0, .int .u64 0, .int .u64 0, .int .u64 0, .int .u64 0, .int .u64 0, .int .u64 0, .int .u64 0, .int .u64 0, .int .u64 0, .int .u64 0, .int .u64 0, .int .u64 0, .int .u64 0, .int .u64 0, .int .u64 0, .int .u64 0, .int .u64 0, .int .u64 0, .int .u64 0, .int .u64 0, .int .u64 0, .int .u64 0, .int .i64 0] : List Value).toArray.size := fresh_sponge e
theorem sponge_size (k : Int) : (Tryz.prog.info? 150).map (·.size) = some ([.int .i64 k, .int .u64 0, .int .u64 0, .int .u64 0, .int .u64 0, .int .u64 0, .int .u64 0, .int .u64 0, .int .u64 0, .int .u64 0, .int .u64 0, .int .u64 0, .int .u64 0, .int .u64 0, .int .u64 0, .int .u64 0, .int .u64 0, .int .u64 0, .int .u64 0, .int .u64 0, .int .u64 0, .int .u64 0, .int .u64 0, .int .u64 0, .int .u64 0, .int .u64 0, .int .i64 0] : List Value).toArray.size := by
  have : (Tryz.prog.info? 150).map (·.size) = some 27 := by kernel_rfl
  rw [this]
  rfl
theorem sponge_ones (k : Int) : ([.int .i64 k, .int .u64 0, .int .u64 0, .int .u64 0, .int .u64 0, .int .u64 0, .int .u64 0, .int .u64 0, .int .u64 0, .int .u64 0, .int .u64 0, .int .u64 0, .int .u64 0, .int .u64 0, .int .u64 0, .int .u64 0, .int .u64 0, .int .u64 0, .int .u64 0, .int .u64 0, .int .u64 0, .int .u64 0, .int .u64 0, .int .u64 0, .int .u64 0, .int .u64 0, .int .i64 0] : List Value).toArray.all (·.oneCell') = true := all_oneCell_toArray (by
  intro v hv
  simp only [List.mem_cons, List.not_mem_nil, or_false] at hv
  rcases hv with rfl | hv
  · rfl
  · repeat (first | (rcases hv with rfl | hv; rfl) | (subst hv; rfl)))

set_option maxHeartbeats 4000000 in
theorem digest_any {k : Int} {a : Option Addr} {bp op cp : Nat} {PS : List Part} (hs : (catX PS).length < 1073741824) (hn : PS.length ≤ 1073741824) (hc : PS.length ≤ cp) (ha : PS = [] ∨ a = some ⟨bp, op, none⟩) (w : World) (hP : Prts w bp op PS) (ht : Tab w 2 turnsN) (hm : Lns w 1 marksN) :
    Calls Tryz.prog 67 #[.int .i64 k, .slice a PS.length cp] w fun e w' => e = .returned (.agg (byts (hashL (finL k (absb (List.replicate 25 0) 0 (catX PS)) (catX PS).length))).toArray) ∧ Below w.heap.size w w' := by
  have HH : Hid (Prts w bp op PS ∧ Tab w 2 turnsN ∧ Lns w 1 marksN) := ⟨hP, ht, hm⟩
  have HC : Hid ((catX PS).length < 1073741824 ∧ PS.length ≤ cp ∧ (PS = [] ∨ a = some ⟨bp, op, none⟩)) := ⟨hs, hc, ha⟩
  clear hP ht hm hs hc ha
  have oc := sponge_ones k
  go_enter Tryz.func67, Tryz.ntmps67
  have sz := sponge_size k
  have NL : Hid (PS.length ≤ 1073741824) := hn
  go_wp2_with (refine wpList_store_mid rfl 150 _ _ rfl (w.heap.size + 1) 0 ([.int .i64 k, .int .u64 0, .int .u64 0, .int .u64 0, .int .u64 0, .int .u64 0, .int .u64 0, .int .u64 0, .int .u64 0, .int .u64 0, .int .u64 0, .int .u64 0, .int .u64 0, .int .u64 0, .int .u64 0, .int .u64 0, .int .u64 0, .int .u64 0, .int .u64 0, .int .u64 0, .int .u64 0, .int .u64 0, .int .u64 0, .int .u64 0, .int .u64 0, .int .u64 0, .int .i64 0] : List Value).toArray rfl rfl ?th sz oc ?go; exact fresh_sponge2 k (by simp); refine wpList_world (fun W => Below w.heap.size w W ∧ Hsh W w.heap.size (List.replicate 32 0) ∧ Sp W (w.heap.size + 1) k (List.replicate 25 0) 0) ⟨below_setCells (by omega) _ 0 _ (((Below.refl _ _).alloc (Nat.le_refl _) _).alloc (by simp) _), ((Hsh.zeros _ rfl).alloc _).otherCells (by omega) _, Sp.zeros k (fresh_sponge (by simp))⟩ ?_; intro W2 hh; have HY : Hid (Below w.heap.size w W2 ∧ Hsh W2 w.heap.size (List.replicate 32 0) ∧ Sp W2 (w.heap.size + 1) k (List.replicate 25 0) 0) := hh; clear hh)
  have NN : Hid (w.heap.size ≠ w.heap.size + 1 ∧ w.heap.size ≤ w.heap.size + 1) := ⟨by omega, by omega⟩
  have LT : Hid (2 < w.heap.size ∧ 1 < w.heap.size) := ⟨HH.out.2.1.lt (by decide), HH.out.2.2.lt (by decide)⟩
  clear sz oc
  generalize hbs : w.heap.size + 1 = bs at *
  have BS : Hid (w.heap.size + 1 = bs) := hbs
  clear hbs
  go_loopg [12] PS.length (fun g iv wr => ∃ i : Nat, g = PS.length - i ∧ i ≤ PS.length ∧ iv = .int .i64 i ∧ Below w.heap.size w wr ∧ Hsh wr w.heap.size (List.replicate 32 0) ∧ Sp wr bs k (absb (List.replicate 25 0) 0 (catX (PS.take i))) (catX (PS.take i)).length)
  case atStart => exact ⟨0, rfl, Nat.zero_le _, rfl, HY.out⟩
  case round =>
    clear HY
    obtain ⟨i, hk, hi, rfl, hf⟩ := hrel
    have HK : Hid (gk = PS.length - i) := hk
    have HF : Hid (Below w.heap.size w wr ∧ Hsh wr w.heap.size (List.replicate 32 0) ∧ Sp wr bs k (absb (List.replicate 25 0) 0 (catX (PS.take i))) (catX (PS.take i)).length) := hf
    clear hk hf
    by_cases h8 : i = PS.length
    · subst h8
      rw [List.take_length] at HF
      go_wp2_with fail
      refine (ssum_any HC.out.1 _ HF.out.2.2 (HH.out.2.1.keep HF.out.1) (HH.out.2.2.keep HF.out.1)).mono ?_
      rintro e w6 ⟨rfl, hb⟩
      have H6 : Hid (Below w.heap.size w w6 ∧ Hsh w6 w.heap.size (List.replicate 32 0)) := ⟨HF.out.1.trans (hb.mono HF.out.1.size), HF.out.2.1.keep hb⟩
      clear hb HF
      have oc := one_byts (hashL (finL k (absb (List.replicate 25 0) 0 (catX PS)) (catX PS).length))
      have lN : (byts (hashL (finL k (absb (List.replicate 25 0) 0 (catX PS)) (catX PS).length))).length = 32 := by rw [byts_len, hashL_len]
      generalize hN : byts (hashL (finL k (absb (List.replicate 25 0) 0 (catX PS)) (catX PS).length)) = N at *
      have EN : Hid (byts (hashL (finL k (absb (List.replicate 25 0) 0 (catX PS)) (catX PS).length)) = N) := hN
      have sz : (N.toArray).size = 32 := by simp [lN]
      have tr : w6.there w.heap.size 0 (N.toArray).size := by rw [sz]; exact H6.out.2.there
      have HN : Hid (N.length = 32) := lN
      clear lN hN
      go_wp2_with (refine wpList_store_mid rfl 26 _ _ rfl w.heap.size 0 _ rfl rfl tr (by rw [sz]; kernel_rfl) oc ?_)
      have ld := run_loadVar_mid (P := Tryz.prog) (w6.setCells w.heap.size 0 N) w.heap.size 0 26 N _ (World.rangeAt_setCells_same _ _ _ _ (by simpa using tr)) Tryz.underlying26 rfl (by rw [HN.out]; kernel_rfl)
      refine bodyPost_ret (v := .agg N.toArray) ?_ rfl ⟨by rw [EN.out], below_setCells (Nat.le_refl _) N 0 w6 H6.out.1⟩
      simp [results, Tryz.results67, Act.put, asAddr, ld]
    · have hlt : i < PS.length := by omega
      have hlt' : (i : Int) < PS.length := by omega
      have ea : a = some ⟨bp, op, none⟩ := by
        rcases HC.out.2.2 with h | h
        · rw [h] at hlt; simp at hlt
        · exact h
      subst ea
      obtain ⟨p, kp⟩ : ∃ p, p = PS.getD i .none := ⟨_, rfl⟩
      have g0 : wr.cell? ⟨bp, op + i, none⟩ = some (.slice p.a p.X.length p.c) := by
        have h := (HH.out.1 i hlt).1
        rw [HF.out.1.cell (p := ⟨bp, op + i, none⟩) (World.block_lt_of_cell? w _ h), h, ← kp]
        rfl
      have OK : Hid (p.ok wr) := by
        have h := (HH.out.1 i hlt).2
        rw [← kp] at h
        exact ⟨h.1, h.2.1, fun j hj => by rw [HF.out.1.cell (p := ⟨p.b, p.o + j, none⟩) (World.block_lt_of_cell? w _ (h.2.2 j hj))]; exact h.2.2 j hj⟩
      have LB : Hid (p.X = [] ∨ p.b < w.heap.size) := by
        by_cases h0 : p.X = []
        · exact .inl h0
        · refine .inr ?_
          have h := (HH.out.1 i hlt).2
          rw [← kp] at h
          exact World.block_lt_of_cell? w _ (h.2.2 0 (List.length_pos_iff.2 h0))
      have NX : Hid (catX (PS.take (i + 1)) = catX (PS.take i) ++ p.X) := by rw [kp]; exact catX_next hlt
      have LN : Hid ((catX (PS.take i)).length + p.X.length < 1073741824) := by
        have h1 := catX_le (PS := PS) (i + 1)
        rw [NX.out, List.length_append] at h1
        have := HC.out.1
        have h : (catX (PS.take i)).length + p.X.length < 1073741824 := by omega
        exact h
      clear kp
      obtain ⟨bd, NB, hAt, hByo⟩ : ∃ bd, Hid (bd ≠ bs) ∧ Hid (At p.a bd p.o p.X) ∧ Hid (Byo wr bd p.o p.X) := by
        rcases LB.out with h | h
        · refine ⟨bs + 1, ?_, .inl h, ?_⟩
          · have h : bs + 1 ≠ bs := by omega
            exact h
          · intro j hj; rw [h] at hj; simp at hj
        · refine ⟨p.b, ?_, OK.out.1, OK.out.2.2⟩
          have h : p.b ≠ bs := by have := BS.out; omega
          exact h
      go_wp2_with fail
      refine (write_any NB.out (by have := BS.out; have := LT.out; omega) (by have := BS.out; have := LT.out; omega) LN.out OK.out.2.1 hAt.out _ HF.out.2.2 hByo.out (HH.out.2.1.keep HF.out.1) (HH.out.2.2.keep HF.out.1)).mono ?_
      rintro e w5 ⟨rfl, hs5, ho5⟩
      have H5 : Hid (Below w.heap.size w w5 ∧ Hsh w5 w.heap.size (List.replicate 32 0) ∧ Sp w5 bs k (absb (List.replicate 25 0) 0 (catX (PS.take (i + 1)))) (catX (PS.take (i + 1))).length) := by
        rw [NX.out, absb_app, List.length_append, Nat.zero_add]
        exact ⟨HF.out.1.trans (ho5.below HF.out.1.size NN.out.2), HF.out.2.1.off ho5 NN.out.1, hs5⟩
      clear hs5 ho5 HF OK LB NX LN g0 hAt hByo NB
      go_wp2
      go_roundg (PS.length - (i + 1))
      case measure => have := HK.out; omega
      case rel => exact ⟨i + 1, rfl, by omega, by go_num, H5.out⟩

end Go.Proofs.YtpgpciaafjodgaaGreatDoor
