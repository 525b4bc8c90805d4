import Derived.Test.YtndefnomefdhoabDoorBmR
import Derived.Test.YtndefnomefdhoabDoorBmN
import Derived.Test.YtndefnomefdhoabDoorKBigR
import Derived.Test.YtndefnomefdhoabDoorQTail
/- The document's Places, Add, Has. -/
namespace Go.Proofs.YtndefnomefdhoabDoor
open Go.RowKit Go.Sort

/-- The document's tables. -/
def RtB (W : World) : Prop := K.Tab W 2 K.turnsN ∧ K.Lns W 0 K.marksN
theorem RtB.keep {W W' : World} (h : RtB W) (hb : Below W.heap.size W W') : RtB W' := ⟨h.1.keep hb, h.2.keep hb⟩

set_option maxRecDepth 100000 in
set_option maxHeartbeats 8000000 in
theorem rplaces_any {p : Part} (hl : p.X.length < 140737488351233) (hz : p.a = none → p.c = 0) (w : World) (hp : p.ok w) (hk : RtB w) :
    Calls Tryd.prog 19 #[p.val] w fun e w' => e = .returned (.agg (vals (plI p.X 3)).toArray) ∧ Below w.heap.size w w' := by
  have HP : Hid (p.ok w ∧ RtB w ∧ p.X.length < 140737488351233 ∧ (p.a = none → p.c = 0)) := ⟨hp, hk, hl, hz⟩
  clear hp hk hl hz
  rw [Part.val]
  go_enter Tryd.func19, Tryd.ntmps19
  go_wp2_with fail
  refine calls_world (fun W => Below w.heap.size w W ∧ IxR W w.heap.size [0, 0, 0] ∧ K.Prts W (w.heap.size + 1) 0 [kp p]) ⟨((Below.refl _ _).alloc (Nat.le_refl _) _).alloc (by simp) _, (IxR.new [0, 0, 0] _ rfl).alloc (by simp) _, ?_⟩ ?_
  · intro i hi
    obtain rfl : i = 0 := by simpa using hi
    refine ⟨?_, kp_ok (HP.out.1.keep (((Below.refl _ _).alloc (Nat.le_refl _) _).alloc (by simp) _))⟩
    have e : w.heap.size + 1 = (w.alloc (.cells #[Value.int IntKind.i64 0, Value.int IntKind.i64 0, Value.int IntKind.i64 0] 39)).heap.size := by simp
    rw [e, World.cell?_alloc_mark]
    rfl
  rintro W ⟨B, hI, hP⟩
  have gs : w.heap.size < W.heap.size := World.block_lt_of_cell? W _ (hI.cell (i := 0) (by simp))
  have kc := K.rsum_any_big (a := some ⟨w.heap.size + 1, 0, none⟩) (bp := w.heap.size + 1) (op := 0) (cp := 1) (PS := [kp p]) (by simpa [K.catX, kp] using HP.out.2.2.1) (by simp) (.inr rfl) (by simpa [kp] using HP.out.2.2.2) W hP (HP.out.2.1.keep B).1 (HP.out.2.1.keep B).2
  rw [show K.catX [kp p] = p.X by simp [K.catX, kp], digV_hk] at kc
  have S1 : Hid (Below w.heap.size w W ∧ IxR W w.heap.size [0, 0, 0] ∧ w.heap.size < W.heap.size) := ⟨B, hI, gs⟩
  clear B hI hP gs
  refine kc.mono ?_
  clear kc
  rintro e w2 ⟨rfl, hb⟩
  have S2 : Hid (Below w.heap.size w w2 ∧ IxR w2 w.heap.size [0, 0, 0] ∧ w.heap.size < w2.heap.size) := ⟨S1.out.1.trans (hb.mono S1.out.1.size), S1.out.2.1.keep S1.out.2.2 hb, Nat.lt_of_lt_of_le S1.out.2.2 hb.size⟩
  clear hb S1
  have lD := hkL_len p.X
  have PN : Hid (∀ i, plN p.X i = (256 * ((hkL p.X).getD (2 * i) 0).toNat + ((hkL p.X).getD (2 * i + 1) 0).toNat) % 2048) := fun i => rfl
  generalize hkL p.X = D at *
  have oc := one_byts D
  have ia : (Tryd.prog.info? 56).map (·.size) = some (byts D).toArray.size := by rw [List.size_toArray, byts_len, lD]; kernel_rfl
  have sz : (byts D).toArray.size = 32 := by rw [List.size_toArray, byts_len, lD]
  have TH : ∀ t, (w2.alloc (.cells (byts (List.replicate 32 0)).toArray t)).there w2.heap.size 0 (byts D).toArray.size := fun t => by rw [sz]; exact (Hsh.new (by simp) t rfl).there
  have LD : Hid (D.length = 32) := lD
  clear lD
  have W3 : ∀ t, Hid (Below w.heap.size w ((w2.alloc (.cells (byts (List.replicate 32 0)).toArray t)).setCells w2.heap.size 0 (byts D)) ∧ IxR ((w2.alloc (.cells (byts (List.replicate 32 0)).toArray t)).setCells w2.heap.size 0 (byts D)) w.heap.size [0, 0, 0] ∧ Hsh ((w2.alloc (.cells (byts (List.replicate 32 0)).toArray t)).setCells w2.heap.size 0 (byts D)) w2.heap.size D) := fun t => ⟨below_setCells S2.out.1.size _ 0 _ (S2.out.1.alloc S2.out.1.size _), (S2.out.2.1.alloc S2.out.2.2 _).farCells (Nat.ne_of_gt S2.out.2.2) _, (Hsh.new (by simp) t rfl).stored LD.out⟩
  go_wp2_with (first | refine wpList_alloc_zero rfl 56 rfl _ zero_hash ?_ | (refine wpList_store_mid rfl 56 _ _ rfl w2.heap.size 0 _ rfl rfl (TH _) ia oc ?_; refine wpList_world (fun W => Below w.heap.size w W ∧ IxR W w.heap.size [0, 0, 0] ∧ Hsh W w2.heap.size D) (W3 _).out ?_; clear W3 TH; rintro W3 ⟨B3, I3, D3⟩; have S3 : Hid (Below w.heap.size w W3 ∧ IxR W3 w.heap.size [0, 0, 0] ∧ Hsh W3 w2.heap.size D ∧ w.heap.size < w2.heap.size) := ⟨B3, I3, D3, S2.out.2.2⟩; clear B3 I3 D3 S2))
  have gw : w.heap.size < W3.heap.size := Nat.lt_trans S3.out.2.2.2 S3.out.2.2.1.lt
  refine wp_world (fun V => Below w.heap.size w V ∧ IxR V w.heap.size [0, 0, 0] ∧ Hsh V w2.heap.size D ∧ IxR V W3.heap.size [0, 0, 0]) ⟨S3.out.1.alloc S3.out.1.size _, S3.out.2.1.alloc gw _, S3.out.2.2.1.alloc _, IxR.new [0, 0, 0] _ rfl⟩ ?_
  rintro V ⟨B, hR, hD, hP⟩
  have c1 : W3.heap.size ≠ w2.heap.size := Nat.ne_of_gt S3.out.2.2.1.lt
  have c2 : W3.heap.size ≠ w.heap.size := Nat.ne_of_gt gw
  have o1 : w.heap.size ≤ W3.heap.size := Nat.le_of_lt gw
  clear S3 gw ia oc sz
  generalize W3.heap.size = bp at *
  generalize w2.heap.size = bh at *
  go_loopg [5] 3 (fun k iv wr => ∃ i : Nat, k = 3 - i ∧ i ≤ 3 ∧ iv = .int .i64 i ∧ Below w.heap.size w wr ∧ IxR wr w.heap.size [0, 0, 0] ∧ Hsh wr bh D ∧ IxR wr bp (plI p.X i))
  case atStart => exact ⟨0, rfl, by decide, rfl, B, hR, hD, hP⟩
  case round =>
    clear B hR hD hP
    obtain ⟨i, hk, hi, rfl, B, hR, hD, hP⟩ := hrel
    have HK : Hid (gk = 3 - i) := hk
    have SR : Hid (Below w.heap.size w wr ∧ IxR wr w.heap.size [0, 0, 0] ∧ Hsh wr bh D ∧ IxR wr bp (plI p.X i)) := ⟨B, hR, hD, hP⟩
    clear hk B hR hD hP
    by_cases h8 : i = 3
    · subst h8
      obtain ⟨N, hN⟩ : ∃ N, N = vals (plI p.X 3) := ⟨_, rfl⟩
      have rb := SR.out.2.2.2.range
      have oc := one_vals (plI p.X 3)
      rw [← hN] at rb oc
      have HN : Hid (N = vals (plI p.X 3) ∧ N.length = 3) := ⟨hN, by rw [hN, vals_len]; rfl⟩
      have sz : N.toArray.size = 3 := by simp [HN.out.2]
      have tr : wr.there w.heap.size 0 N.toArray.size := by rw [sz]; exact SR.out.2.1.there rfl
      have ic : (Tryd.prog.info? 39).map (·.size) = some N.length := by rw [HN.out.2]; kernel_rfl
      have ia : (Tryd.prog.info? 39).map (·.size) = some N.toArray.size := by rw [sz]; kernel_rfl
      have B' := SR.out.1
      clear SR hN
      go_wp2_with (first | refine wpList_load_mid rfl 39 _ rfl bp 0 rfl N _ rb Tryd.underlying39 rfl ic ?_ | refine wpList_store_mid rfl 39 _ _ rfl w.heap.size 0 _ rfl rfl tr ia oc ?_)
      have ld := run_loadVar_mid (P := Tryd.prog) (wr.setCells w.heap.size 0 N) w.heap.size 0 39 N _ (World.rangeAt_setCells_same _ _ _ _ (by simpa using tr)) Tryd.underlying39 rfl ic
      refine bodyPost_ret (v := .agg N.toArray) ?_ rfl ⟨by rw [HN.out.1], below_setCells (Nat.le_refl _) N 0 wr B'⟩
      simp [results, Tryd.results19, Act.put, asAddr, ld]
    · have hlt : (i : Int) < 3 := by omega
      have e1 : (2 * (i : Int)).toNat = 2 * i := by omega
      have e2 : (2 * (i : Int) + 1).toNat = 2 * i + 1 := by omega
      have g1 := SR.out.2.2.1.2.1 (2 * i) (by omega)
      have g2 := SR.out.2.2.1.2.1 (2 * i + 1) (by omega)
      have gp := SR.out.2.2.2.cell (i := i) (by rw [plI_len]; omega)
      have fp := SR.out.2.2.2.2 i (by rw [plI_len]; omega)
      have pn := PN.out i
      generalize (plI p.X i).getD i 0 = z at *
      generalize D.getD (2 * i) 0 = x at *
      generalize D.getD (2 * i + 1) 0 = y at *
      have xl := Y_lo x
      have xh := Y_hi x
      have yl := Y_lo y
      have yh := Y_hi y
      have HV : Hid ((256 * Y x + Y y) % 2048 = (plN p.X i : Int)) := by
        have : (256 * Y x + Y y) % 2048 = (plN p.X i : Int) := by rw [pn, Y_eq, Y_eq]; omega
        exact this
      clear pn
      generalize Y x = nx at *
      generalize Y y = ny at *
      go_wp2_with fail
      refine region_tail 16 (by kernel_rfl) (by kernel_rfl) ?_
      simp only [List.take_succ_cons, List.take_zero, List.drop_succ_cons, List.drop_zero]
      repeat (first | go_big_quiet_skip | (go_big_quiet_want; go_big_quiet_op; go_big_quiet_on))
      refine wpQuiet_nil ?_
      have NX : Hid (Below w.heap.size w (wr.setCell ⟨bp, i, none⟩ (.int .i64 ((256 * nx + ny) % 2048))).drew ∧ IxR (wr.setCell ⟨bp, i, none⟩ (.int .i64 ((256 * nx + ny) % 2048))).drew w.heap.size [0, 0, 0] ∧ Hsh (wr.setCell ⟨bp, i, none⟩ (.int .i64 ((256 * nx + ny) % 2048))).drew bh D ∧ IxR (wr.setCell ⟨bp, i, none⟩ (.int .i64 ((256 * nx + ny) % 2048))).drew bp (plI p.X (i + 1))) := by
        rw [HV.out]
        refine ⟨(SR.out.1.setCell o1 _).drew, SR.out.2.1.far c2, (SR.out.2.2.1.other c1 _).drew, ?_⟩
        rw [← plI_set p.X (show i < 3 by omega)]
        exact SR.out.2.2.2.set i (by rw [plI_len]; omega) _
      clear SR
      go_wp2
      go_roundg (3 - (i + 1))
      case measure => have := HK.out; omega
      case rel => exact ⟨i + 1, rfl, by omega, by go_num, NX.out⟩
set_option maxRecDepth 100000 in
set_option maxHeartbeats 16000000 in
theorem radd_any {p : Part} {F : List (BitVec 8)} (hF : F.length = 256) (hl : p.X.length < 140737488351233) (hz : p.a = none → p.c = 0) (w : World) (hp : p.ok w) (hk : RtB w) :
    Calls Tryd.prog 14 #[.agg (byts F).toArray, p.val] w fun e w' => e = .returned (.agg (byts (setsF F (plL p.X))).toArray) ∧ Below w.heap.size w w' := by
  have HP : Hid (p.ok w ∧ RtB w ∧ p.X.length < 140737488351233 ∧ (p.a = none → p.c = 0) ∧ F.length = 256) := ⟨hp, hk, hl, hz, hF⟩
  clear hp hk hl hF hz
  rw [Part.val]
  go_enter Tryd.func14, Tryd.ntmps14
  go_wp2_with (refine wpList_alloc_zero rfl 25 rfl _ zero_bloom ?_)
  refine calls_world (fun W => Below w.heap.size w W ∧ Blm W w.heap.size F ∧ Blm W (w.heap.size + 1) zF) ⟨((Below.refl _ _).alloc (Nat.le_refl _) _).alloc (by simp) _, (Blm.new HP.out.2.2.2.2 _ rfl).alloc _, Blm.new zF_len _ (by simp)⟩ ?_
  rintro W ⟨B, hF, hR⟩
  have S1 : Hid (Below w.heap.size w W ∧ Blm W w.heap.size F ∧ Blm W (w.heap.size + 1) zF) := ⟨B, hF, hR⟩
  have pc := rplaces_any HP.out.2.2.1 HP.out.2.2.2.1 W (HP.out.1.keep B) (HP.out.2.1.keep B)
  rw [Part.val, plI_3] at pc
  clear B hF hR
  refine pc.mono ?_
  clear pc
  rintro e w3 ⟨rfl, hb⟩
  have S3 : Hid (Below w.heap.size w w3 ∧ Blm w3 w.heap.size F ∧ Blm w3 (w.heap.size + 1) zF) := ⟨S1.out.1.trans (hb.mono S1.out.1.size), S1.out.2.1.keep hb, S1.out.2.2.keep hb⟩
  have c1 : w.heap.size + 1 ≠ w.heap.size := by omega
  have o1 : w.heap.size ≤ w.heap.size + 1 := by omega
  clear hb S1
  obtain ⟨G, hG⟩ : ∃ G, G = setsF F (plL p.X) := ⟨_, rfl⟩
  have LG : Hid (G = setsF F (plL p.X) ∧ G.length = 256) := ⟨hG, by rw [hG]; exact setsF_len _ HP.out.2.2.2.2⟩
  have P0 := plN_lt p.X 0
  have P1 := plN_lt p.X 1
  have P2 := plN_lt p.X 2
  have eG : setF (setF (setF F (plN p.X 0)) (plN p.X 1)) (plN p.X 2) = G := by rw [hG]; rfl
  generalize plN p.X 0 = p0 at *
  generalize plN p.X 1 = p1 at *
  generalize plN p.X 2 = p2 at *
  have R0 : Hid (∀ W : World, Calls Tryd.prog 20 #[.agg (byts F).toArray, .int .i64 (p0 : Int)] W fun e w' => e = .returned (.agg (byts (setF F p0)).toArray) ∧ Below W.heap.size W w') := fun W => rset_any (x := (p0 : Int)) HP.out.2.2.2.2 (by omega) (by omega) W
  have R1 : Hid (∀ W : World, Calls Tryd.prog 20 #[.agg (byts (setF F p0)).toArray, .int .i64 (p1 : Int)] W fun e w' => e = .returned (.agg (byts (setF (setF F p0) p1)).toArray) ∧ Below W.heap.size W w') := fun W => rset_any (x := (p1 : Int)) (by rw [setF_len]; exact HP.out.2.2.2.2) (by omega) (by omega) W
  have R2 : Hid (∀ W : World, Calls Tryd.prog 20 #[.agg (byts (setF (setF F p0) p1)).toArray, .int .i64 (p2 : Int)] W fun e w' => e = .returned (.agg (byts G).toArray) ∧ Below W.heap.size W w') := fun W => by
    have h := rset_any (F := setF (setF F p0) p1) (x := (p2 : Int)) (by rw [setF_len, setF_len]; exact HP.out.2.2.2.2) (by omega) (by omega) W
    rw [Int.toNat_natCast, eG] at h
    exact h
  clear hG eG P0 P1 P2
  have lV : (vals [(p0 : Int), (p1 : Int), (p2 : Int)]).length = 3 := rfl
  have ov := one_vals [(p0 : Int), (p1 : Int), (p2 : Int)]
  have iv : (Tryd.prog.info? 39).map (·.size) = some (vals [(p0 : Int), (p1 : Int), (p2 : Int)]).toArray.size := by rw [List.size_toArray, lV]; kernel_rfl
  have TV : ∀ t, (w3.alloc (.cells #[.int .i64 0, .int .i64 0, .int .i64 0] t)).there w3.heap.size 0 (vals [(p0 : Int), (p1 : Int), (p2 : Int)]).toArray.size := fun t => (IxR.new [0, 0, 0] t rfl).there rfl
  have W4 : ∀ t, Hid (Below w.heap.size w ((w3.alloc (.cells #[.int .i64 0, .int .i64 0, .int .i64 0] t)).setCells w3.heap.size 0 (vals [(p0 : Int), (p1 : Int), (p2 : Int)])) ∧ Blm ((w3.alloc (.cells #[.int .i64 0, .int .i64 0, .int .i64 0] t)).setCells w3.heap.size 0 (vals [(p0 : Int), (p1 : Int), (p2 : Int)])) w.heap.size F ∧ Blm ((w3.alloc (.cells #[.int .i64 0, .int .i64 0, .int .i64 0] t)).setCells w3.heap.size 0 (vals [(p0 : Int), (p1 : Int), (p2 : Int)])) (w.heap.size + 1) zF ∧ Ixs ((w3.alloc (.cells #[.int .i64 0, .int .i64 0, .int .i64 0] t)).setCells w3.heap.size 0 (vals [(p0 : Int), (p1 : Int), (p2 : Int)])) w3.heap.size 0 [(p0 : Int), (p1 : Int), (p2 : Int)]) := fun t => ⟨below_setCells S3.out.1.size _ 0 _ (S3.out.1.alloc S3.out.1.size _), (S3.out.2.1.alloc _).otherCells (Nat.ne_of_gt S3.out.2.1.lt) _, (S3.out.2.2.alloc _).otherCells (Nat.ne_of_gt S3.out.2.2.lt) _, fun i hi => by
    have h := World.rangeAt_setCells_same (w3.alloc (.cells #[.int .i64 0, .int .i64 0, .int .i64 0] t)) w3.heap.size 0 (vals [(p0 : Int), (p1 : Int), (p2 : Int)]) (by rw [← List.size_toArray]; exact TV t) i (.int .i64 ([(p0 : Int), (p1 : Int), (p2 : Int)].getD i 0)) (by
      rcases (show i = 0 ∨ i = 1 ∨ i = 2 by simp at hi; omega) with rfl | rfl | rfl <;> rfl)
    exact h⟩
  go_wp2_with (refine wpList_store_mid rfl 39 _ _ rfl w3.heap.size 0 _ rfl rfl (TV _) iv ov ?_; refine wpList_world (fun W => Below w.heap.size w W ∧ Blm W w.heap.size F ∧ Blm W (w.heap.size + 1) zF ∧ Ixs W w3.heap.size 0 [(p0 : Int), (p1 : Int), (p2 : Int)]) (W4 _).out ?_; clear W4 TV; rintro W4 ⟨B4, M4, N4, I4⟩; have S4 : Hid (Below w.heap.size w W4 ∧ Blm W4 w.heap.size F ∧ Blm W4 (w.heap.size + 1) zF ∧ Ixs W4 w3.heap.size 0 [(p0 : Int), (p1 : Int), (p2 : Int)]) := ⟨B4, M4, N4, I4⟩; clear B4 M4 N4 I4)
  have GR : Hid (∀ d os, Ixs (grow (redrawn W4 d) os) w3.heap.size 0 [(p0 : Int), (p1 : Int), (p2 : Int)]) := fun d os => S4.out.2.2.2.keep (below_regrown W4 d os)
  have g0 : ∀ d os, (grow (redrawn W4 d) os).cell? ⟨w3.heap.size, 0, none⟩ = some (.int .i64 (p0 : Int)) := fun d os => GR.out d os 0 (by simp)
  have g1 : ∀ d os, (grow (redrawn W4 d) os).cell? ⟨w3.heap.size, 1, none⟩ = some (.int .i64 (p1 : Int)) := fun d os => GR.out d os 1 (by simp)
  have g2 : ∀ d os, (grow (redrawn W4 d) os).cell? ⟨w3.heap.size, 2, none⟩ = some (.int .i64 (p2 : Int)) := fun d os => GR.out d os 2 (by simp)
  have rb : ∀ w', (∃ p : Regrown, w' = grow (redrawn W4 p.d) p.os) → w'.rangeAt w.heap.size 0 (byts F) := by rintro w' ⟨p, rfl⟩; exact (S4.out.2.1.grown _ _).range
  have ic := size_bloom HP.out.2.2.2.2
  generalize w.heap.size + 1 = br at *
  generalize w3.heap.size = bq at *
  simp only [Act.put]
  refine below_tail 10 (by kernel_rfl) (by kernel_rfl) ?_
  simp only [List.take_succ_cons, List.take_zero, List.drop_succ_cons, List.drop_zero]
  repeat
    first
      | go_big_quiet_skip
      | (go_big_quiet_want; go_big_quiet_op; go_big_quiet_on)
      | (go_big_quiet_want; refine quiet_load_mid 25 _ rfl w.heap.size 0 rfl (byts F) _ rb Tryd.underlying25 rfl ic ?_; simp only [Act.put, List.setIfInBounds_toArray, List.set_cons_succ, List.set_cons_zero]; go_big_quiet_on)
      | (go_big_quiet_want
         go_big_quiet_op
         apply Exists.intro
         refine ⟨fun p => ?_, ?_⟩
         · (go_at_call 20; first | with_reducible exact Calls.regrown_of (R0.out (grow (redrawn W4 p.d) p.os)) | with_reducible exact Calls.regrown_of (R1.out (grow (redrawn W4 p.d) p.os)) | with_reducible exact Calls.regrown_of (R2.out (grow (redrawn W4 p.d) p.os)))
         go_big_quiet_on)
  refine wpQuiet_nil ?_
  rintro w5 ⟨p, rfl⟩
  have S5 : Hid (Below w.heap.size w (grow (redrawn W4 p.d) p.os) ∧ Blm (grow (redrawn W4 p.d) p.os) br zF) := ⟨S4.out.1.trans ((below_regrown W4 p.d p.os).mono S4.out.1.size), S4.out.2.2.1.grown _ _⟩
  generalize grow (redrawn W4 p.d) p.os = w5 at *
  clear rb g0 g1 g2 GR R0 R1 R2 ic
  obtain ⟨N, hN⟩ : ∃ N, N = byts G := ⟨_, rfl⟩
  have ic := size_bloom LG.out.2
  have ia := size_bloomA LG.out.2
  have oc := one_byts G
  have FI : Hid (N = byts G ∧ N.length = 256) := ⟨hN, by rw [hN, byts_len]; exact LG.out.2⟩
  rw [← hN] at ic ia oc
  rw [← hN]
  have sz : N.toArray.size = 256 := by simp [FI.out.2]
  have tr : w5.there br 0 N.toArray.size := by rw [sz]; exact S5.out.2.there
  clear hN
  go_wp2_with (refine wpList_store_mid rfl 25 _ _ rfl br 0 _ rfl rfl tr ia oc ?_)
  have ld := run_loadVar_mid (P := Tryd.prog) (w5.setCells br 0 N) br 0 25 N _ (World.rangeAt_setCells_same _ _ _ _ (by simpa using tr)) Tryd.underlying25 rfl ic
  refine bodyPost_ret (v := .agg N.toArray) ?_ rfl ⟨by rw [FI.out.1, LG.out.1], below_setCells o1 N 0 w5 S5.out.1⟩
  simp [results, Tryd.results14, Act.put, asAddr, ld]

end Go.Proofs.YtndefnomefdhoabDoor
