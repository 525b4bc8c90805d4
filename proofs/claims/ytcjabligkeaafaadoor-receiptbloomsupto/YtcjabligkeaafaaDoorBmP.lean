import Derived.Test.YtcjabligkeaafaaDoorBmD
import Derived.Test.YtcjabligkeaafaaDoorBmN
import Derived.Test.YtcjabligkeaafaaDoorKBig
/- A text's places. -/
namespace Go.Proofs.YtcjabligkeaafaaDoor.S
open Go.RowKit Go.Sort

theorem KY_eq : K.Y = Y := funext fun x => by rw [K.Y_eq, Y_eq]
theorem Kbyts_eq (X : List (BitVec 8)) : K.byts X = byts X := by rw [K.byts, byts, KY_eq]
def kp (p : Part) : K.Part := ⟨p.a, p.b, p.o, p.c, p.X⟩
theorem kp_ok {W : World} {p : Part} (h : p.ok W) : (kp p).ok W := ⟨h.1, h.2.1, fun i hi => by rw [KY_eq]; exact h.2.2 i hi⟩
/-- The program's tables. -/
def KtB (W : World) : Prop := K.Tab W 1 K.turnsN ∧ K.Lns W 0 K.marksN
theorem KtB.keep {W W' : World} (h : KtB W) (hb : Below W.heap.size W W') : KtB W' := ⟨h.1.keep hb, h.2.keep hb⟩
/-- The digest of a text. -/
noncomputable def hkL (X : List (BitVec 8)) : List (BitVec 8) := K.hashL (K.finL 0 (K.absb (List.replicate 25 0) 0 X) X.length)
theorem hkL_len (X : List (BitVec 8)) : (hkL X).length = 32 := K.hashL_len _
theorem digV_hk (X : List (BitVec 8)) : K.digV 0 X = .agg (byts (hkL X)).toArray := by rw [K.digV, Kbyts_eq, hkL]
/-- The places that a text selects. -/
noncomputable def plN (X : List (BitVec 8)) (i : Nat) : Nat := (256 * ((hkL X).getD (2 * i) 0).toNat + ((hkL X).getD (2 * i + 1) 0).toNat) % 2048
theorem plN_lt (X : List (BitVec 8)) (i : Nat) : plN X i < 2048 := Nat.mod_lt _ (by decide)
noncomputable def plL (X : List (BitVec 8)) : List Nat := [plN X 0, plN X 1, plN X 2]
theorem Part.ok.keep {W W' : World} {p : Part} (h : p.ok W) (hb : Below W.heap.size W W') : p.ok W' := ⟨h.1, h.2.1, h.2.2.keep hb⟩
theorem IxR.alloc {W : World} {g : Nat} {T : List Int} (h : IxR W g T) (hl : g < W.heap.size) (o : Obj) : IxR (W.alloc o) g T := h.keep hl ((Below.refl _ _).alloc (Nat.le_refl _) o)
theorem IxR.new {W : World} {g : Nat} (T : List Int) (t : TypeId) (e : g = W.heap.size) : IxR (W.alloc (.cells (vals T).toArray t)) g T := by
  subst e
  exact ixR_of (t := t) (heap_new _ _)
theorem IxR.range {W : World} {g : Nat} {T : List Int} (h : IxR W g T) : W.rangeAt g 0 (vals T) := by
  intro j v hv
  unfold vals at hv
  rw [List.getElem?_map] at hv
  obtain ⟨x, hx, rfl⟩ := Option.map_eq_some_iff.1 hv
  have hj : j < T.length := (List.getElem?_eq_some_iff.1 hx).1
  rw [h.1 j hj]
  simp [List.getD, hx]
theorem IxR.there {W : World} {g : Nat} {T : List Int} (h : IxR W g T) {k : Nat} (e : T.length = k) : W.there g 0 k := by
  subst e
  intro j hj
  rw [Nat.zero_add]
  exact ⟨by rw [h.cell hj]; rfl, h.2 j hj⟩
theorem one_vals (T : List Int) : (vals T).toArray.all (·.oneCell') = true := all_oneCell_toArray (by
  intro v hv
  obtain ⟨x, _, rfl⟩ := List.mem_map.1 hv
  rfl)
/-- The places, so far. -/
noncomputable def plI (X : List (BitVec 8)) (i : Nat) : List Int := (List.range 3).map fun k : Nat => if k < i then (plN X k : Int) else 0
theorem plI_len (X : List (BitVec 8)) (i : Nat) : (plI X i).length = 3 := rfl
theorem plI_set (X : List (BitVec 8)) {i : Nat} (h : i < 3) : (plI X i).set i (plN X i : Int) = plI X (i + 1) := by
  match i, h with
  | 0, _ => rfl
  | 1, _ => rfl
  | 2, _ => rfl

theorem zero_hash (w : World) : (zeroValue 26).run Tryd.prog w = .ok (.agg (byts (List.replicate 32 0)).toArray) w := by
  rw [byts, List.map_replicate, Y_zero]
  exact zero_of (by kernel_rfl) w

theorem part_int {T : List Int} {i : Nat} (h : i < T.length) (w : World) : (part 3 (vals T).toArray (i * 1)).run Tryd.prog w = .ok (.int .i64 (T.getD i 0)) w := by
  have ta := Tryd.isAgg3
  have g : (vals T)[i]? = some (.int .i64 (T.getD i 0)) := by simp [vals, List.getD, h]
  simp [Go.part, go_sem, ta, g]
theorem index_places {T : List Int} (hT : T.length = 3) {i : Nat} (hi : i < 3) (w : World) : (Instr.index 43 (.agg (vals T).toArray) (.int .i64 (i : Int))).run Tryd.prog w = .ok (.int .i64 (T.getD i 0)) w := by
  have tz : (sizeOf 3).run Tryd.prog w = .ok 1 w := by have := Tryd.sizeOf3; simp [go_sem, this]
  have pb := part_int (T := T) (i := i) (by omega) w
  have h0 : (0 : Int) ≤ (i : Int) ∧ (i : Int) < ((3 : Nat) : Int) := by omega
  unfold Instr.index
  simp only [Sem.run_bind, asIntOf, Sem.run_pure, Result.andThen_ok, run_underlying Tryd.underlying43]
  rw [if_pos h0]
  simp only [Sem.run_bind, tz, Result.andThen_ok, Int.toNat_natCast]
  exact pb

set_option maxRecDepth 100000 in
set_option maxHeartbeats 8000000 in
theorem places_any {p : Part} (hl : p.X.length < 140737488355328) (w : World) (hp : p.ok w) (hk : KtB w) :
    Calls Tryd.prog 9 #[p.val] w fun e w' => e = .returned (.agg (vals (plI p.X 3)).toArray) ∧ Below w.heap.size w w' := by
  have HP : Hid (p.ok w ∧ KtB w ∧ p.X.length < 140737488355328) := ⟨hp, hk, hl⟩
  clear hp hk hl
  rw [Part.val]
  go_enter Tryd.func9, Tryd.ntmps9
  go_wp2_with fail
  refine calls_world (fun W => Below w.heap.size w W ∧ IxR W w.heap.size [0, 0, 0] ∧ K.Prts W (w.heap.size + 1) 0 [kp p]) ⟨((Below.refl _ _).alloc (Nat.le_refl _) _).alloc (by simp) _, (IxR.new [0, 0, 0] _ rfl).alloc (by simp) _, ?_⟩ ?_
  · intro i hi
    obtain rfl : i = 0 := by simpa using hi
    refine ⟨?_, kp_ok (HP.out.1.keep (((Below.refl _ _).alloc (Nat.le_refl _) _).alloc (by simp) _))⟩
    have e : w.heap.size + 1 = (w.alloc (.cells #[Value.int IntKind.i64 0, Value.int IntKind.i64 0, Value.int IntKind.i64 0] 43)).heap.size := by simp
    rw [e, World.cell?_alloc_mark]
    rfl
  rintro W ⟨B, hI, hP⟩
  have gs : w.heap.size < W.heap.size := World.block_lt_of_cell? W _ (hI.cell (i := 0) (by simp))
  have kc := K.sum_big (a := some ⟨w.heap.size + 1, 0, none⟩) (bp := w.heap.size + 1) (op := 0) (cp := 1) (PS := [kp p]) (by simpa [K.catX, kp] using HP.out.2.2) (by simp) (by simp) (.inr rfl) W hP (HP.out.2.1.keep B).1 (HP.out.2.1.keep B).2
  rw [show K.catX [kp p] = p.X by simp [K.catX, kp], digV_hk] at kc
  have S1 : Hid (Below w.heap.size w W ∧ IxR W w.heap.size [0, 0, 0] ∧ w.heap.size < W.heap.size) := ⟨B, hI, gs⟩
  clear B hI hP gs
  refine kc.mono ?_
  clear kc
  rintro e w2 ⟨rfl, hb⟩
  have S2 : Hid (Below w.heap.size w w2 ∧ IxR w2 w.heap.size [0, 0, 0] ∧ w.heap.size < w2.heap.size) := ⟨S1.out.1.trans (hb.mono S1.out.1.size), S1.out.2.1.keep S1.out.2.2 hb, Nat.lt_of_lt_of_le S1.out.2.2 hb.size⟩
  clear hb S1
  have lD := hkL_len p.X
  have PN : Hid (∀ i, plN p.X i = (256 * ((hkL p.X).getD (2 * i) 0).toNat + ((hkL p.X).getD (2 * i + 1) 0).toNat) % 2048) := fun i => rfl
  generalize hkL p.X = D at *
  have oc := one_byts D
  have ia : (Tryd.prog.info? 26).map (·.size) = some (byts D).toArray.size := by rw [List.size_toArray, byts_len, lD]; kernel_rfl
  have sz : (byts D).toArray.size = 32 := by rw [List.size_toArray, byts_len, lD]
  have TH : ∀ t, (w2.alloc (.cells (byts (List.replicate 32 0)).toArray t)).there w2.heap.size 0 (byts D).toArray.size := fun t => by rw [sz]; exact (Hsh.new (by simp) t rfl).there
  have LD : Hid (D.length = 32) := lD
  clear lD
  have W3 : ∀ t, Hid (Below w.heap.size w ((w2.alloc (.cells (byts (List.replicate 32 0)).toArray t)).setCells w2.heap.size 0 (byts D)) ∧ IxR ((w2.alloc (.cells (byts (List.replicate 32 0)).toArray t)).setCells w2.heap.size 0 (byts D)) w.heap.size [0, 0, 0] ∧ Hsh ((w2.alloc (.cells (byts (List.replicate 32 0)).toArray t)).setCells w2.heap.size 0 (byts D)) w2.heap.size D) := fun t => ⟨below_setCells S2.out.1.size _ 0 _ (S2.out.1.alloc S2.out.1.size _), (S2.out.2.1.alloc S2.out.2.2 _).farCells (Nat.ne_of_gt S2.out.2.2) _, (Hsh.new (by simp) t rfl).stored LD.out⟩
  go_wp2_with (first | refine wpList_alloc_zero rfl 26 rfl _ zero_hash ?_ | (refine wpList_store_mid rfl 26 _ _ rfl w2.heap.size 0 _ rfl rfl (TH _) ia oc ?_; refine wpList_world (fun W => Below w.heap.size w W ∧ IxR W w.heap.size [0, 0, 0] ∧ Hsh W w2.heap.size D) (W3 _).out ?_; clear W3 TH; rintro W3 ⟨B3, I3, D3⟩; have S3 : Hid (Below w.heap.size w W3 ∧ IxR W3 w.heap.size [0, 0, 0] ∧ Hsh W3 w2.heap.size D ∧ w.heap.size < w2.heap.size) := ⟨B3, I3, D3, S2.out.2.2⟩; clear B3 I3 D3 S2))
  have gw : w.heap.size < W3.heap.size := Nat.lt_trans S3.out.2.2.2 S3.out.2.2.1.lt
  refine wp_world (fun V => Below w.heap.size w V ∧ IxR V w.heap.size [0, 0, 0] ∧ Hsh V w2.heap.size D ∧ IxR V W3.heap.size [0, 0, 0]) ⟨S3.out.1.alloc S3.out.1.size _, S3.out.2.1.alloc gw _, S3.out.2.2.1.alloc _, IxR.new [0, 0, 0] _ rfl⟩ ?_
  rintro V ⟨B, hR, hD, hP⟩
  have c1 : W3.heap.size ≠ w2.heap.size := Nat.ne_of_gt S3.out.2.2.1.lt
  have c2 : W3.heap.size ≠ w.heap.size := Nat.ne_of_gt gw
  have o1 : w.heap.size ≤ W3.heap.size := Nat.le_of_lt gw
  clear S3 gw ia oc sz
  generalize W3.heap.size = bp at *
  generalize w2.heap.size = bh at *
  go_loopg [9] 3 (fun k iv wr => ∃ i : Nat, k = 3 - i ∧ i ≤ 3 ∧ iv = .int .i64 i ∧ Below w.heap.size w wr ∧ IxR wr w.heap.size [0, 0, 0] ∧ Hsh wr bh D ∧ IxR wr bp (plI p.X i))
  case atStart => exact ⟨0, rfl, by decide, rfl, B, hR, hD, hP⟩
  case round =>
    clear B hR hD hP
    obtain ⟨i, hk, hi, rfl, B, hR, hD, hP⟩ := hrel
    have HK : Hid (gk = 3 - i) := hk
    have SR : Hid (Below w.heap.size w wr ∧ IxR wr w.heap.size [0, 0, 0] ∧ Hsh wr bh D ∧ IxR wr bp (plI p.X i)) := ⟨B, hR, hD, hP⟩
    clear hk B hR hD hP
    by_cases h8 : i = 3
    · subst h8
      obtain ⟨N, hN⟩ : ∃ N, N = vals (plI p.X 3) := ⟨_, rfl⟩
      have rb := SR.out.2.2.2.range
      have oc := one_vals (plI p.X 3)
      rw [← hN] at rb oc
      have HN : Hid (N = vals (plI p.X 3) ∧ N.length = 3) := ⟨hN, by rw [hN, vals_len]; rfl⟩
      have sz : N.toArray.size = 3 := by simp [HN.out.2]
      have tr : wr.there w.heap.size 0 N.toArray.size := by rw [sz]; exact SR.out.2.1.there rfl
      have ic : (Tryd.prog.info? 43).map (·.size) = some N.length := by rw [HN.out.2]; kernel_rfl
      have ia : (Tryd.prog.info? 43).map (·.size) = some N.toArray.size := by rw [sz]; kernel_rfl
      have B' := SR.out.1
      clear SR hN
      go_wp2_with (first | refine wpList_load_mid rfl 43 _ rfl bp 0 rfl N _ rb Tryd.underlying43 rfl ic ?_ | refine wpList_store_mid rfl 43 _ _ rfl w.heap.size 0 _ rfl rfl tr ia oc ?_)
      have ld := run_loadVar_mid (P := Tryd.prog) (wr.setCells w.heap.size 0 N) w.heap.size 0 43 N _ (World.rangeAt_setCells_same _ _ _ _ (by simpa using tr)) Tryd.underlying43 rfl ic
      refine bodyPost_ret (v := .agg N.toArray) ?_ rfl ⟨by rw [HN.out.1], below_setCells (Nat.le_refl _) N 0 wr B'⟩
      simp [results, Tryd.results9, Act.put, asAddr, ld]
    · have hlt : (i : Int) < 3 := by omega
      have e1 : (2 * (i : Int)).toNat = 2 * i := by omega
      have e2 : (2 * (i : Int) + 1).toNat = 2 * i + 1 := by omega
      have g1 := SR.out.2.2.1.2.1 (2 * i) (by omega)
      have g2 := SR.out.2.2.1.2.1 (2 * i + 1) (by omega)
      have gp := SR.out.2.2.2.cell (i := i) (by rw [plI_len]; omega)
      have fp := SR.out.2.2.2.2 i (by rw [plI_len]; omega)
      have pn := PN.out i
      generalize (plI p.X i).getD i 0 = z at *
      generalize D.getD (2 * i) 0 = x at *
      generalize D.getD (2 * i + 1) 0 = y at *
      have xl := Y_lo x
      have xh := Y_hi x
      have yl := Y_lo y
      have yh := Y_hi y
      have HV : Hid ((256 * Y x + Y y) % 2048 = (plN p.X i : Int)) := by
        have : (256 * Y x + Y y) % 2048 = (plN p.X i : Int) := by rw [pn, Y_eq, Y_eq]; omega
        exact this
      clear pn
      generalize Y x = nx at *
      generalize Y y = ny at *
      go_wp2_with fail
      refine region_tail 16 (by kernel_rfl) (by kernel_rfl) ?_
      simp only [List.take_succ_cons, List.take_zero, List.drop_succ_cons, List.drop_zero]
      repeat (first | go_big_quiet_skip | (go_big_quiet_want; go_big_quiet_op; go_big_quiet_on))
      refine wpQuiet_nil ?_
      have NX : Hid (Below w.heap.size w (wr.setCell ⟨bp, i, none⟩ (.int .i64 ((256 * nx + ny) % 2048))).drew ∧ IxR (wr.setCell ⟨bp, i, none⟩ (.int .i64 ((256 * nx + ny) % 2048))).drew w.heap.size [0, 0, 0] ∧ Hsh (wr.setCell ⟨bp, i, none⟩ (.int .i64 ((256 * nx + ny) % 2048))).drew bh D ∧ IxR (wr.setCell ⟨bp, i, none⟩ (.int .i64 ((256 * nx + ny) % 2048))).drew bp (plI p.X (i + 1))) := by
        rw [HV.out]
        refine ⟨(SR.out.1.setCell o1 _).drew, SR.out.2.1.far c2, (SR.out.2.2.1.other c1 _).drew, ?_⟩
        rw [← plI_set p.X (show i < 3 by omega)]
        exact SR.out.2.2.2.set i (by rw [plI_len]; omega) _
      clear SR
      go_wp2
      go_roundg (3 - (i + 1))
      case measure => have := HK.out; omega
      case rel => exact ⟨i + 1, rfl, by omega, by go_num, NX.out⟩
end Go.Proofs.YtcjabligkeaafaaDoor.S
