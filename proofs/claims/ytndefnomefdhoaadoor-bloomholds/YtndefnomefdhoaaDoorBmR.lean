import Derived.Test.YtndefnomefdhoaaDoorBmQ
import Derived.BigFrame
/- BloomHolds. -/
namespace Go.Proofs.YtndefnomefdhoaaDoor
open Go.RowKit Go.Sort

theorem wpList_load_wantM {P : Program} {ops : Array Oper} {rest : List Oper} {a : Act} {w : World} {Q : Exit → Act → World → Prop} {n gi : Nat} {gb : Bool} {ty tt : TypeId} {x : Operand} {pos : String} {after : Array Edge} (b o : Nat) (cs : List Value) (d : TypeDesc) (hc : w.rangeAt b o cs)
    (hu : P.underlying ty = some d) (hd : d.isRow = true) (hi : (P.info? ty).map (·.size) = some cs.length) (hx : a.eval x = .pointer (some ⟨b, o, none⟩)) (hw : Region.wanted ⟨some n, .load ty x, tt, pos, after, some (gi, gb)⟩ (yielded ops a.tmps) = true)
    (h : wpList P ops Q rest (a.put (some n) (.agg cs.toArray)) w) : wpList P ops Q (⟨some n, .load ty x, tt, pos, after, some (gi, gb)⟩ :: rest) a w :=
  BigFrame.wpList_want hw fun _ hK => wp_load_mid ty x rfl b o hx cs d hc hu hd hi (hK _ _ h)
theorem wpList_build_wantM {P : Program} {ops : Array Oper} {rest : List Oper} {a : Act} {w : World} {Q : Exit → Act → World → Prop} {n gi : Nat} {gb : Bool} {ty tt : TypeId} {pos : String} {after : Array Edge} (cs : Array Value)
    (hb : P.built ty [] = some cs) (hw : Region.wanted ⟨some n, .build ty #[], tt, pos, after, some (gi, gb)⟩ (yielded ops a.tmps) = true)
    (h : wpList P ops Q rest (a.put (some n) (.agg cs)) w) : wpList P ops Q (⟨some n, .build ty #[], tt, pos, after, some (gi, gb)⟩ :: rest) a w :=
  BigFrame.wpList_want hw fun _ hK => wp_build ty #[] rfl (by simp [hb]) (by simpa [hb] using hK _ _ h)
theorem bit_byte (x : BitVec 8) {k : Nat} (hk : k < 8) : (bits .and .u8 (Y x / 2 ^ k) 1 == 1) = x.getLsbD k := by
  have h : ∀ n : Fin 256, ∀ k : Fin 8, (bits .and .u8 (((n.val : Nat) : Int) / 2 ^ k.val) 1 == 1) = (BitVec.ofNat 8 n.val).getLsbD k.val := by decide +kernel
  have := h ⟨x.toNat, x.isLt⟩ ⟨k, hk⟩
  rw [Y_eq, this]
  simp

set_option maxRecDepth 100000 in
set_option maxHeartbeats 4000000 in
theorem bit_any {F : List (BitVec 8)} {x : Int} (hF : F.length = 256) (h0 : 0 ≤ x) (h1 : x < 2048) (w : World) :
    Calls Tryd.prog 8 #[.agg (byts F).toArray, .int .i64 x] w fun e w' => e = .returned (.bool (tF F x.toNat)) ∧ Below w.heap.size w w' := by
  obtain ⟨j, rfl⟩ := Int.eq_ofNat_of_zero_le h0
  rw [Int.toNat_natCast]
  have HJ : Hid (j < 2048 ∧ F.length = 256) := ⟨show j < 2048 by omega, hF⟩
  have hj1 : (j : Int) < 2048 := h1
  have e0 : (255 - (j : Int) / 8).toNat = atF j := by rw [atF]; omega
  have l1 : ((atF j : Nat) : Int) < 256 := by have := atF_lt j; omega
  have BB : Hid ((bits .and .u8 (Y (F.getD (atF j) 0) / 2 ^ (j % 8)) 1 == 1) = tF F j) := bit_byte _ (by omega)
  clear h0 h1 hF
  go_enter Tryd.func8, Tryd.ntmps8
  have gx : ∀ t, (w.alloc (.cells (byts F).toArray t)).cell? ⟨w.heap.size, atF j, none⟩ = some (.int .u8 (Y (F.getD (atF j) 0))) := fun t => (Blm.new HJ.out.2 t rfl).2.1 (atF j) (atF_lt j)
  generalize Y (F.getD (atF j) 0) = y at *
  go_wp2
  rw [BB.out]
  simp [bodyPost, results, Tryd.results8, go_sem]
  exact (Below.refl _ _).alloc (Nat.le_refl _) _

theorem tF_of {XS : List (List (BitVec 8))} {j : Nat} (hj : j < 2048) : tF (ofF XS) j = decide (j ∈ XS.flatMap plL) := by
  rw [ofF, tF_sets _ zF_len (fun x hx => by obtain ⟨X, _, h⟩ := List.mem_flatMap.1 hx; exact plL_lt h) j hj, tF_zero, Bool.false_or]
theorem mem_next {PS : List Part} {i : Nat} (h : i < PS.length) (j : Nat) : (j ∈ ((PS.take (i + 1)).map (·.X)).flatMap plL) ↔ (j ∈ ((PS.take i).map (·.X)).flatMap plL ∨ plN (PS.getD i .none).X 0 = j ∨ plN (PS.getD i .none).X 1 = j ∨ plN (PS.getD i .none).X 2 = j) := by
  have e : PS.take (i + 1) = PS.take i ++ [PS.getD i .none] := by rw [List.take_add_one, List.getElem?_eq_getElem h, List.getD, List.getElem?_eq_getElem h]; rfl
  rw [e, List.map_append, List.flatMap_append, List.mem_append]
  simp [plL, eq_comm]
noncomputable def hasF (PS : List Part) (i j : Nat) : Bool := decide (j ∈ ((PS.take i).map (·.X)).flatMap plL)
theorem hasF_next {PS : List Part} {i : Nat} (h : i < PS.length) (j : Nat) : hasF PS (i + 1) j = (hasF PS i j || decide (plN (PS.getD i .none).X 0 = j) || decide (plN (PS.getD i .none).X 1 = j) || decide (plN (PS.getD i .none).X 2 = j)) := by
  have hm := mem_next h j
  unfold hasF
  by_cases c1 : j ∈ ((PS.take i).map (·.X)).flatMap plL <;> by_cases c2 : plN (PS.getD i .none).X 0 = j <;> by_cases c3 : plN (PS.getD i .none).X 1 = j <;> by_cases c4 : plN (PS.getD i .none).X 2 = j <;> simp only [c1, c2, c3, c4, hm] <;> decide
theorem hasF_all (PS : List Part) {j : Nat} (hj : j < 2048) : hasF PS PS.length j = tF (ofF (PS.map (·.X))) j := by
  rw [hasF, List.take_length, tF_of hj]
theorem mem_all {PS : List Part} {i : Nat} (h : i < PS.length) {k : Nat} (hk : k ∈ plL (PS.getD i .none).X) : k ∈ (PS.map (·.X)).flatMap plL :=
  List.mem_flatMap.2 ⟨_, List.mem_map.2 ⟨_, by rw [List.getD, List.getElem?_eq_getElem h]; exact List.getElem_mem h, rfl⟩, hk⟩

set_option maxRecDepth 100000 in
set_option maxHeartbeats 16000000 in
theorem holds_any {a : Option Addr} {bp op cp : Nat} {PS : List Part} {x : Int} (hs : ∀ p ∈ PS, p.X.length < 140737488355328) (hn : PS.length < 140737488355328) (ha : PS = [] ∨ a = some ⟨bp, op, none⟩) (w : World) (hP : Prts w bp op PS) (hk : KtB w) :
    Calls Tryd.prog 3 #[.slice a PS.length cp, .int .i64 x] w fun e w' => e = .returned (.bool true) ∧ Below w.heap.size w w' := by
  have HH : Hid ((∀ p ∈ PS, p.X.length < 140737488355328) ∧ (PS = [] ∨ a = some ⟨bp, op, none⟩) ∧ KtB w ∧ PS.length < 140737488355328) := ⟨hs, ha, hk, hn⟩
  have PK : Hid (∀ W, Below w.heap.size w W → Prts W bp op PS) := fun W B i hi => by
    obtain ⟨h1, h2, h3, h4⟩ := hP i hi
    exact ⟨cell_keep B h1, h2, h3, h4.keep B⟩
  have n1 : (PS.length : Int) < 140737488355328 := by omega
  clear hs ha hk hP hn
  go_enter Tryd.func3, Tryd.ntmps3
  go_wp2_with fail
  refine (of_any HH.out.1 HH.out.2.2.2 HH.out.2.1 w (PK.out w (Below.refl _ _)) HH.out.2.2.1).mono ?_
  rintro e w1 ⟨rfl, hb⟩
  have S1 : Hid (Below w.heap.size w w1) := hb
  obtain ⟨F, hF⟩ : ∃ F, F = ofF (PS.map (·.X)) := ⟨_, rfl⟩
  have LF : Hid (F = ofF (PS.map (·.X)) ∧ F.length = 256) := ⟨hF, by rw [hF]; exact ofF_len _⟩
  rw [← hF]
  clear hF hb
  have ic := size_bloom LF.out.2
  have ia := size_bloomA LF.out.2
  have oc := one_byts F
  have sz : (byts F).toArray.size = 256 := by rw [List.size_toArray, byts_len, LF.out.2]
  have TH : ∀ W : World, ∀ t, (W.alloc (.cells (byts zF).toArray t)).there W.heap.size 0 (byts F).toArray.size := fun W t => by rw [sz]; exact (Blm.new zF_len t rfl).there
  have W2 : ∀ t, Hid (Below w.heap.size w ((w1.alloc (.cells (byts zF).toArray t)).setCells w1.heap.size 0 (byts F)) ∧ Blm ((w1.alloc (.cells (byts zF).toArray t)).setCells w1.heap.size 0 (byts F)) w1.heap.size F) := fun t => ⟨below_setCells S1.out.size _ 0 _ (S1.out.alloc S1.out.size _), (Blm.new zF_len t rfl).stored LF.out.2⟩
  by_cases hx : 0 ≤ x ∧ x < 2048
  · obtain ⟨j, rfl⟩ := Int.eq_ofNat_of_zero_le hx.1
    have HJ : Hid (j < 2048) := show j < 2048 by omega
    have d1 : ¬ ((j : Int) < 0) := by omega
    have d2 : ¬ (2047 < (j : Int)) := by omega
    have e1 : decide ((j : Int) < 0) = false := decide_eq_false d1
    have e2 : decide (2047 < (j : Int)) = false := decide_eq_false d2
    clear hx
    go_wp2_with (first | refine wpList_alloc_zero rfl 24 rfl _ zero_bloom ?_ | (refine wpList_store_mid rfl 24 _ _ rfl w1.heap.size 0 _ rfl rfl (TH _ _) ia oc ?_; refine wpList_world (fun W => Below w.heap.size w W ∧ Blm W w1.heap.size F) (W2 _).out ?_; clear W2; rintro W2 ⟨B2, M2⟩))
    have S2 : Hid (Below w.heap.size w W2 ∧ Blm W2 w1.heap.size F ∧ w.heap.size ≤ w1.heap.size) := ⟨B2, M2, S1.out.size⟩
    clear B2 M2 S1 ia oc TH
    generalize w1.heap.size = bb at *
    go_loopg [6, 7] PS.length (fun k wv iv wr => ∃ i : Nat, k = PS.length - i ∧ i ≤ PS.length ∧ wv = .bool (hasF PS i j) ∧ iv = .int .i64 i ∧ Below w.heap.size w wr ∧ Blm wr bb F)
    case atStart => exact ⟨0, rfl, Nat.zero_le _, by simp [hasF], rfl, S2.out.1, S2.out.2.1⟩
    case round =>
      have O2 : Hid (w.heap.size ≤ bb) := S2.out.2.2
      clear S2
      obtain ⟨i, hk, hi, rfl, rfl, B, hF⟩ := hrel
      have HK : Hid (gk = PS.length - i) := hk
      have SR : Hid (Below w.heap.size w wr ∧ Blm wr bb F) := ⟨B, hF⟩
      clear hk B hF
      by_cases h8 : i = PS.length
      · subst h8
        have tb := hasF_all PS HJ.out
        rw [← LF.out.1] at tb
        rw [tb]
        clear tb
        generalize hwv : tF F j = wv at *
        have bitF := bit_any (F := F) (x := (j : Int)) LF.out.2 (by omega) (by have := HJ.out; omega)
        rw [Int.toNat_natCast, hwv] at bitF
        obtain ⟨G, hG⟩ : ∃ G, G = setsF zF [j] := ⟨_, rfl⟩
        have lG : G.length = 256 := by rw [hG]; exact setsF_len _ zF_len
        have tG : tF G j = true := by rw [hG, tF_sets _ zF_len (by simpa using HJ.out) j HJ.out]; simp
        have bitG := bit_any (F := G) (x := (j : Int)) lG (by omega) (by have := HJ.out; omega)
        rw [Int.toNat_natCast, tG] at bitG
        have MK : Hid (∀ (W : World) (g : Nat), Ixs W g 0 [(j : Int)] → Calls Tryd.prog 9 #[.slice (some ⟨g, 0, none⟩) 1 1] W fun e w' => e = .returned (.tuple #[.agg (byts G).toArray, .int .i64 0]) ∧ Below W.heap.size W w') := fun W g h => by
          have m := make_any (a := some ⟨g, 0, none⟩) (bp := g) (op := 0) (cp := 1) (L := [(j : Int)]) (by simp) (.inr rfl) W h
          rw [show [(j : Int)] = [j].map (fun n : Nat => (n : Int)) from rfl, mkF_sets [j] (by simpa using HJ.out), ← hG] at m
          exact m
        have LG : Hid (G.length = 256) := lG
        have BF : Hid (∀ W : World, Calls Tryd.prog 8 #[.agg (byts F).toArray, .int .i64 (j : Int)] W fun e w' => e = .returned (.bool wv) ∧ Below W.heap.size W w') := bitF
        have BG : Hid (∀ W : World, Calls Tryd.prog 8 #[.agg (byts G).toArray, .int .i64 (j : Int)] W fun e w' => e = .returned (.bool true) ∧ Below W.heap.size W w') := bitG
        clear bitF bitG hG tG lG hwv
        go_wp2_with fail
        refine calls_world (fun W => Below w.heap.size w W ∧ Blm W bb F ∧ Ixs W wr.heap.size 0 [(j : Int)]) ⟨SR.out.1.alloc SR.out.1.size _, SR.out.2.alloc _, (IxR.new [(j : Int)] _ rfl).1⟩ ?_
        rintro W ⟨B, hF, hI⟩
        have S4 : Hid (Below w.heap.size w W ∧ Blm W bb F) := ⟨B, hF⟩
        clear B hF SR
        refine (MK.out W _ hI).mono ?_
        clear MK hI
        rintro e w5 ⟨rfl, hb⟩
        have S5 : Hid (Below w.heap.size w w5 ∧ Blm w5 bb F) := ⟨S4.out.1.trans (hb.mono S4.out.1.size), S4.out.2.keep hb⟩
        clear hb S4
        have ig := size_bloom LG.out
        have ja := size_bloomA LG.out
        have og := one_byts G
        have szG : (byts G).toArray.size = 256 := by rw [List.size_toArray, byts_len, LG.out]
        have TG : ∀ W : World, ∀ t, (W.alloc (.cells (byts zF).toArray t)).there W.heap.size 0 (byts G).toArray.size := fun W t => by rw [szG]; exact (Blm.new zF_len t rfl).there
        have W6 : ∀ t, Hid (Below w.heap.size w ((w5.alloc (.cells (byts zF).toArray t)).setCells w5.heap.size 0 (byts G)) ∧ Blm ((w5.alloc (.cells (byts zF).toArray t)).setCells w5.heap.size 0 (byts G)) w5.heap.size G ∧ Blm ((w5.alloc (.cells (byts zF).toArray t)).setCells w5.heap.size 0 (byts G)) bb F) := fun t => ⟨below_setCells S5.out.1.size _ 0 _ (S5.out.1.alloc S5.out.1.size _), (Blm.new zF_len t rfl).stored LG.out, (S5.out.2.alloc _).otherCells (Nat.ne_of_gt S5.out.2.lt) _⟩
        go_wp2_with (first | refine wpList_alloc_zero rfl 24 rfl _ zero_bloom ?_ | (refine wpList_store_mid rfl 24 _ _ rfl w5.heap.size 0 _ rfl rfl (TG _ _) ja og ?_; refine wpList_world (fun W => Below w.heap.size w W ∧ Blm W w5.heap.size G ∧ Blm W bb F) (W6 _).out ?_; clear W6 TG; rintro W6 ⟨B6, M6, N6⟩; have S6 : Hid (Below w.heap.size w W6 ∧ Blm W6 w5.heap.size G ∧ Blm W6 bb F) := ⟨B6, M6, N6⟩; have r6 := N6.range; clear B6 M6 N6 S5) | refine wpList_load_mid rfl 24 _ rfl bb 0 rfl (byts F) _ r6 Tryd.underlying24 rfl ic ?_)
        refine (BF.out W6).mono ?_
        clear r6
        rintro e w7 ⟨rfl, hb⟩
        have S7 : Hid (Below w.heap.size w w7 ∧ Blm w7 w5.heap.size G) := ⟨S6.out.1.trans (hb.mono S6.out.1.size), S6.out.2.1.keep hb⟩
        have r7 := S7.out.2.range
        have ww : (wv == wv) = true := beq_self_eq_true _
        clear hb S6 BF
        generalize w5.heap.size = bg at *
        go_wp2_with ((with_reducible refine wpList_load_wantM (ty := 24) bg 0 (byts G) _ r7 Tryd.underlying24 ?_ ig ?_ ?_ ?_); rfl; rfl; rfl; simp only [Act.put, List.setIfInBounds_toArray, List.set_cons_succ, List.set_cons_zero])
        refine (BG.out w7).mono ?_
        rintro e w8 ⟨rfl, hb⟩
        have S8 : Hid (Below w.heap.size w w8) := S7.out.1.trans (hb.mono S7.out.1.size)
        clear hb S7 r7 BG
        go_wp2
        simp [bodyPost, results, Tryd.results3, go_sem]
        exact S8.out
      · have hlt : i < PS.length := by omega
        have hlt' : (i : Int) < (PS.length : Int) := by omega
        obtain rfl : a = some ⟨bp, op, none⟩ := by
          rcases HH.out.2.1 with e | e
          · rw [e] at hlt; simp at hlt
          · exact e
        obtain ⟨q1, q2⟩ := PK.out wr SR.out.1 i hlt
        have pm : PS.getD i .none ∈ PS := by rw [List.getD, List.getElem?_eq_getElem hlt]; exact List.getElem_mem hlt
        have pl := places_any (p := PS.getD i .none) (HH.out.1 _ pm) wr q2 (HH.out.2.2.1.keep SR.out.1)
        have MN : Hid (hasF PS (i + 1) j = (hasF PS i j || decide (plN (PS.getD i .none).X 0 = j) || decide (plN (PS.getD i .none).X 1 = j) || decide (plN (PS.getD i .none).X 2 = j))) := hasF_next hlt j
        have BT : Hid (∀ k, k < 3 → ∀ W : World, Calls Tryd.prog 8 #[.agg (byts F).toArray, .int .i64 (plN (PS.getD i .none).X k : Int)] W fun e w' => e = .returned (.bool true) ∧ Below W.heap.size W w') := fun k hk3 W => by
          have hl := plN_lt (PS.getD i .none).X k
          have h := bit_any (F := F) (x := (plN (PS.getD i .none).X k : Int)) LF.out.2 (by omega) (by omega) W
          have ht : tF F (plN (PS.getD i .none).X k) = true := by
            rw [LF.out.1, tF_of hl]
            refine decide_eq_true (mem_all hlt ?_)
            match k, hk3 with
            | 0, _ => simp [plL]
            | 1, _ => simp [plL]
            | 2, _ => simp [plL]
          rw [Int.toNat_natCast, ht] at h
          exact h
        have PB : Hid (∀ k, plN (PS.getD i .none).X k < 2048) := fun k => plN_lt _ k
        rw [Part.val] at q1 pl
        rw [plI_3] at pl
        clear q2 pm
        generalize PS.getD i .none = p at *
        go_wp2_with fail
        refine pl.mono ?_
        clear pl q1
        rintro e w3 ⟨rfl, hb⟩
        have S3 : Hid (Below w.heap.size w w3 ∧ Blm w3 bb F) := ⟨SR.out.1.trans (hb.mono SR.out.1.size), SR.out.2.keep hb⟩
        clear hb SR
        have b0 := PB.out 0
        have b1 := PB.out 1
        have b2 := PB.out 2
        have T0 := BT.out 0 (by decide)
        have T1 := BT.out 1 (by decide)
        have T2 := BT.out 2 (by decide)
        clear BT PB
        generalize plN p.X 0 = p0 at *
        generalize plN p.X 1 = p1 at *
        generalize plN p.X 2 = p2 at *
        have B0 : Hid (p0 < 2048 ∧ p1 < 2048 ∧ p2 < 2048) := ⟨b0, b1, b2⟩
        have t0 : Hid (∀ W : World, Calls Tryd.prog 8 #[.agg (byts F).toArray, .int .i64 (p0 : Int)] W fun e w' => e = .returned (.bool true) ∧ Below W.heap.size W w') := T0
        have t1 : Hid (∀ W : World, Calls Tryd.prog 8 #[.agg (byts F).toArray, .int .i64 (p1 : Int)] W fun e w' => e = .returned (.bool true) ∧ Below W.heap.size W w') := T1
        have t2 : Hid (∀ W : World, Calls Tryd.prog 8 #[.agg (byts F).toArray, .int .i64 (p2 : Int)] W fun e w' => e = .returned (.bool true) ∧ Below W.heap.size W w') := T2
        clear b0 b1 b2 T0 T1 T2
        have lV : (vals [(p0 : Int), (p1 : Int), (p2 : Int)]).length = 3 := rfl
        have ov := one_vals [(p0 : Int), (p1 : Int), (p2 : Int)]
        have iv : (Tryd.prog.info? 26).map (·.size) = some (vals [(p0 : Int), (p1 : Int), (p2 : Int)]).toArray.size := by rw [List.size_toArray, lV]; kernel_rfl
        have TV : ∀ t, (w3.alloc (.cells #[.int .i64 0, .int .i64 0, .int .i64 0] t)).there w3.heap.size 0 (vals [(p0 : Int), (p1 : Int), (p2 : Int)]).toArray.size := fun t => (IxR.new [0, 0, 0] t rfl).there rfl
        have W4 : ∀ t, Hid (Below w.heap.size w ((w3.alloc (.cells #[.int .i64 0, .int .i64 0, .int .i64 0] t)).setCells w3.heap.size 0 (vals [(p0 : Int), (p1 : Int), (p2 : Int)])) ∧ Blm ((w3.alloc (.cells #[.int .i64 0, .int .i64 0, .int .i64 0] t)).setCells w3.heap.size 0 (vals [(p0 : Int), (p1 : Int), (p2 : Int)])) bb F ∧ Ixs ((w3.alloc (.cells #[.int .i64 0, .int .i64 0, .int .i64 0] t)).setCells w3.heap.size 0 (vals [(p0 : Int), (p1 : Int), (p2 : Int)])) w3.heap.size 0 [(p0 : Int), (p1 : Int), (p2 : Int)]) := fun t => ⟨below_setCells S3.out.1.size _ 0 _ (S3.out.1.alloc S3.out.1.size _), (S3.out.2.alloc _).otherCells (Nat.ne_of_gt S3.out.2.lt) _, fun i hi => by
          have h := World.rangeAt_setCells_same (w3.alloc (.cells #[.int .i64 0, .int .i64 0, .int .i64 0] t)) w3.heap.size 0 (vals [(p0 : Int), (p1 : Int), (p2 : Int)]) (by rw [← List.size_toArray]; exact TV t) i (.int .i64 ([(p0 : Int), (p1 : Int), (p2 : Int)].getD i 0)) (by
            rcases (show i = 0 ∨ i = 1 ∨ i = 2 by simp at hi; omega) with rfl | rfl | rfl <;> rfl)
          exact h⟩
        generalize hasF PS i j = wv at *
        obtain ⟨x0, hx0⟩ : ∃ x0, x0 = ((p0 : Int) == (j : Int)) := ⟨_, rfl⟩
        obtain ⟨x1, hx1⟩ : ∃ x1, x1 = ((p1 : Int) == (j : Int)) := ⟨_, rfl⟩
        obtain ⟨x2, hx2⟩ : ∃ x2, x2 = ((p2 : Int) == (j : Int)) := ⟨_, rfl⟩
        have WX : Hid (hasF PS (i + 1) j = (wv || x0 || x1 || x2)) := by
          have d : ∀ p : Nat, ((p : Int) == (j : Int)) = decide (p = j) := fun p => by
            by_cases c : p = j
            · subst c; simp
            · have : ¬ ((p : Int) = (j : Int)) := by omega
              simp [c, this]
          have h := MN.out
          rw [← d, ← d, ← d, ← hx0, ← hx1, ← hx2] at h
          exact h
        clear MN
        have m1 : ¬ ((p0 : Int) < 0) := by omega
        have m2 : ¬ (2047 < (p0 : Int)) := by have := B0.out.1; omega
        have m3 : ¬ ((p1 : Int) < 0) := by omega
        have m4 : ¬ (2047 < (p1 : Int)) := by have := B0.out.2.1; omega
        have m5 : ¬ ((p2 : Int) < 0) := by omega
        have m6 : ¬ (2047 < (p2 : Int)) := by have := B0.out.2.2; omega
        have k1 := decide_eq_false m1
        have k2 := decide_eq_false m2
        have k3 := decide_eq_false m3
        have k4 := decide_eq_false m4
        have k5 := decide_eq_false m5
        have k6 := decide_eq_false m6
        have eqn : ∀ p : Nat, true = ((p : Int) == (j : Int)) → p = j := fun p h => by
          have := eq_of_beq h.symm
          omega
        have nen : ∀ p : Nat, false = ((p : Int) == (j : Int)) → ¬ ((p : Int) = (j : Int)) := fun p h e => by
          rw [e, beq_self_eq_true] at h
          cases h
        have EQN : Hid (∀ p : Nat, true = ((p : Int) == (j : Int)) → p = j) := eqn
        have NEN : Hid (∀ p : Nat, false = ((p : Int) == (j : Int)) → ¬ ((p : Int) = (j : Int))) := nen
        clear eqn nen
        rcases (show wv = true ∨ (wv = false ∧ x0 = true) ∨ (wv = false ∧ x0 = false ∧ x1 = true) ∨ (wv = false ∧ x0 = false ∧ x1 = false) by cases wv <;> cases x0 <;> cases x1 <;> simp) with rfl | ⟨rfl, rfl⟩ | ⟨rfl, rfl, rfl⟩ | ⟨rfl, rfl, rfl⟩
        · clear hx0 hx1 hx2
          go_wp2_with (first
            | (refine wpList_store_mid rfl 26 _ _ rfl w3.heap.size 0 _ rfl rfl (TV _) iv ov ?_; refine wpList_world (fun W => Below w.heap.size w W ∧ Blm W bb F ∧ Ixs W w3.heap.size 0 [(p0 : Int), (p1 : Int), (p2 : Int)]) (W4 _).out ?_; clear W4 TV; rintro W4 ⟨B4, M4, I4⟩; have S4 : Hid (Below w.heap.size w W4 ∧ Blm W4 bb F) := ⟨B4, M4⟩; have r4 := M4.range; have g0 : W4.cell? ⟨w3.heap.size, 0, none⟩ = some (.int .i64 (p0 : Int)) := I4 0 (by simp); have g1 : W4.cell? ⟨w3.heap.size, 1, none⟩ = some (.int .i64 (p1 : Int)) := I4 1 (by simp); have g2 : W4.cell? ⟨w3.heap.size, 2, none⟩ = some (.int .i64 (p2 : Int)) := I4 2 (by simp); clear B4 M4 I4)
            | ((with_reducible refine wpList_load_wantM (ty := 24) bb 0 (byts F) _ r4 Tryd.underlying24 ?_ ic ?_ ?_ ?_); rfl; rfl; rfl; simp only [Act.put, List.setIfInBounds_toArray, List.set_cons_succ, List.set_cons_zero])
            | ((with_reducible refine (t0.out _).mono ?_); rintro e w5 ⟨rfl, hb⟩; replace S4 : Hid (Below w.heap.size w w5 ∧ Blm w5 bb F) := ⟨S4.out.1.trans (hb.mono S4.out.1.size), S4.out.2.keep hb⟩; replace r4 := S4.out.2.range; replace g1 := cell_keep hb g1; replace g2 := cell_keep hb g2; clear hb g0 t0)
            | ((with_reducible refine (t1.out _).mono ?_); rintro e w6 ⟨rfl, hb⟩; replace S4 : Hid (Below w.heap.size w w6 ∧ Blm w6 bb F) := ⟨S4.out.1.trans (hb.mono S4.out.1.size), S4.out.2.keep hb⟩; replace r4 := S4.out.2.range; replace g2 := cell_keep hb g2; clear hb g1 t1)
            | ((with_reducible refine (t2.out _).mono ?_); rintro e w7 ⟨rfl, hb⟩; replace S4 : Hid (Below w.heap.size w w7 ∧ Blm w7 bb F) := ⟨S4.out.1.trans (hb.mono S4.out.1.size), S4.out.2.keep hb⟩; clear hb g2 t2 r4))
          go_roundg (PS.length - (i + 1))
          case measure => have := HK.out; omega
          case rel => exact ⟨i + 1, rfl, by omega, by rw [WX.out]; simp, by go_num, S4.out⟩
        · have h := EQN.out _ hx0
          subst h
          clear hx0 hx1 hx2
          go_wp2_with (first
            | (refine wpList_store_mid rfl 26 _ _ rfl w3.heap.size 0 _ rfl rfl (TV _) iv ov ?_; refine wpList_world (fun W => Below w.heap.size w W ∧ Blm W bb F ∧ Ixs W w3.heap.size 0 [(p0 : Int), (p1 : Int), (p2 : Int)]) (W4 _).out ?_; clear W4 TV; rintro W4 ⟨B4, M4, I4⟩; have S4 : Hid (Below w.heap.size w W4 ∧ Blm W4 bb F) := ⟨B4, M4⟩; have r4 := M4.range; have g0 : W4.cell? ⟨w3.heap.size, 0, none⟩ = some (.int .i64 (p0 : Int)) := I4 0 (by simp); have g1 : W4.cell? ⟨w3.heap.size, 1, none⟩ = some (.int .i64 (p1 : Int)) := I4 1 (by simp); have g2 : W4.cell? ⟨w3.heap.size, 2, none⟩ = some (.int .i64 (p2 : Int)) := I4 2 (by simp); clear B4 M4 I4)
            | ((with_reducible refine wpList_load_wantM (ty := 24) bb 0 (byts F) _ r4 Tryd.underlying24 ?_ ic ?_ ?_ ?_); rfl; rfl; rfl; simp only [Act.put, List.setIfInBounds_toArray, List.set_cons_succ, List.set_cons_zero])
            | ((with_reducible refine (t0.out _).mono ?_); rintro e w5 ⟨rfl, hb⟩; replace S4 : Hid (Below w.heap.size w w5 ∧ Blm w5 bb F) := ⟨S4.out.1.trans (hb.mono S4.out.1.size), S4.out.2.keep hb⟩; replace r4 := S4.out.2.range; replace g1 := cell_keep hb g1; replace g2 := cell_keep hb g2; clear hb g0 t0)
            | ((with_reducible refine (t1.out _).mono ?_); rintro e w6 ⟨rfl, hb⟩; replace S4 : Hid (Below w.heap.size w w6 ∧ Blm w6 bb F) := ⟨S4.out.1.trans (hb.mono S4.out.1.size), S4.out.2.keep hb⟩; replace r4 := S4.out.2.range; replace g2 := cell_keep hb g2; clear hb g1 t1)
            | ((with_reducible refine (t2.out _).mono ?_); rintro e w7 ⟨rfl, hb⟩; replace S4 : Hid (Below w.heap.size w w7 ∧ Blm w7 bb F) := ⟨S4.out.1.trans (hb.mono S4.out.1.size), S4.out.2.keep hb⟩; clear hb g2 t2 r4))
          go_roundg (PS.length - (i + 1))
          case measure => have := HK.out; omega
          case rel => exact ⟨i + 1, rfl, by omega, by rw [WX.out]; simp, by go_num, S4.out⟩
        · have h := EQN.out _ hx1
          subst h
          have h0 := NEN.out _ hx0
          have h0' := hx0.symm
          clear hx0 hx1 hx2
          go_wp2_with (first
            | (refine wpList_store_mid rfl 26 _ _ rfl w3.heap.size 0 _ rfl rfl (TV _) iv ov ?_; refine wpList_world (fun W => Below w.heap.size w W ∧ Blm W bb F ∧ Ixs W w3.heap.size 0 [(p0 : Int), (p1 : Int), (p2 : Int)]) (W4 _).out ?_; clear W4 TV; rintro W4 ⟨B4, M4, I4⟩; have S4 : Hid (Below w.heap.size w W4 ∧ Blm W4 bb F) := ⟨B4, M4⟩; have r4 := M4.range; have g0 : W4.cell? ⟨w3.heap.size, 0, none⟩ = some (.int .i64 (p0 : Int)) := I4 0 (by simp); have g1 : W4.cell? ⟨w3.heap.size, 1, none⟩ = some (.int .i64 (p1 : Int)) := I4 1 (by simp); have g2 : W4.cell? ⟨w3.heap.size, 2, none⟩ = some (.int .i64 (p2 : Int)) := I4 2 (by simp); clear B4 M4 I4)
            | ((with_reducible refine wpList_load_wantM (ty := 24) bb 0 (byts F) _ r4 Tryd.underlying24 ?_ ic ?_ ?_ ?_); rfl; rfl; rfl; simp only [Act.put, List.setIfInBounds_toArray, List.set_cons_succ, List.set_cons_zero])
            | ((with_reducible refine (t0.out _).mono ?_); rintro e w5 ⟨rfl, hb⟩; replace S4 : Hid (Below w.heap.size w w5 ∧ Blm w5 bb F) := ⟨S4.out.1.trans (hb.mono S4.out.1.size), S4.out.2.keep hb⟩; replace r4 := S4.out.2.range; replace g1 := cell_keep hb g1; replace g2 := cell_keep hb g2; clear hb g0 t0)
            | ((with_reducible refine (t1.out _).mono ?_); rintro e w6 ⟨rfl, hb⟩; replace S4 : Hid (Below w.heap.size w w6 ∧ Blm w6 bb F) := ⟨S4.out.1.trans (hb.mono S4.out.1.size), S4.out.2.keep hb⟩; replace r4 := S4.out.2.range; replace g2 := cell_keep hb g2; clear hb g1 t1)
            | ((with_reducible refine (t2.out _).mono ?_); rintro e w7 ⟨rfl, hb⟩; replace S4 : Hid (Below w.heap.size w w7 ∧ Blm w7 bb F) := ⟨S4.out.1.trans (hb.mono S4.out.1.size), S4.out.2.keep hb⟩; clear hb g2 t2 r4))
          go_roundg (PS.length - (i + 1))
          case measure => have := HK.out; omega
          case rel => exact ⟨i + 1, rfl, by omega, by rw [WX.out]; simp, by go_num, S4.out⟩
        · have h0 := NEN.out _ hx0
          have h1 := NEN.out _ hx1
          have h0' := hx0.symm
          have h1' := hx1.symm
          have HX : Hid (x2 = ((p2 : Int) == (j : Int))) := hx2
          clear hx0 hx1 hx2
          go_wp2_with (first
            | (refine wpList_store_mid rfl 26 _ _ rfl w3.heap.size 0 _ rfl rfl (TV _) iv ov ?_; refine wpList_world (fun W => Below w.heap.size w W ∧ Blm W bb F ∧ Ixs W w3.heap.size 0 [(p0 : Int), (p1 : Int), (p2 : Int)]) (W4 _).out ?_; clear W4 TV; rintro W4 ⟨B4, M4, I4⟩; have S4 : Hid (Below w.heap.size w W4 ∧ Blm W4 bb F) := ⟨B4, M4⟩; have r4 := M4.range; have g0 : W4.cell? ⟨w3.heap.size, 0, none⟩ = some (.int .i64 (p0 : Int)) := I4 0 (by simp); have g1 : W4.cell? ⟨w3.heap.size, 1, none⟩ = some (.int .i64 (p1 : Int)) := I4 1 (by simp); have g2 : W4.cell? ⟨w3.heap.size, 2, none⟩ = some (.int .i64 (p2 : Int)) := I4 2 (by simp); clear B4 M4 I4)
            | ((with_reducible refine wpList_load_wantM (ty := 24) bb 0 (byts F) _ r4 Tryd.underlying24 ?_ ic ?_ ?_ ?_); rfl; rfl; rfl; simp only [Act.put, List.setIfInBounds_toArray, List.set_cons_succ, List.set_cons_zero])
            | ((with_reducible refine (t0.out _).mono ?_); rintro e w5 ⟨rfl, hb⟩; replace S4 : Hid (Below w.heap.size w w5 ∧ Blm w5 bb F) := ⟨S4.out.1.trans (hb.mono S4.out.1.size), S4.out.2.keep hb⟩; replace r4 := S4.out.2.range; replace g1 := cell_keep hb g1; replace g2 := cell_keep hb g2; clear hb g0 t0)
            | ((with_reducible refine (t1.out _).mono ?_); rintro e w6 ⟨rfl, hb⟩; replace S4 : Hid (Below w.heap.size w w6 ∧ Blm w6 bb F) := ⟨S4.out.1.trans (hb.mono S4.out.1.size), S4.out.2.keep hb⟩; replace r4 := S4.out.2.range; replace g2 := cell_keep hb g2; clear hb g1 t1)
            | ((with_reducible refine (t2.out _).mono ?_); rintro e w7 ⟨rfl, hb⟩; replace S4 : Hid (Below w.heap.size w w7 ∧ Blm w7 bb F) := ⟨S4.out.1.trans (hb.mono S4.out.1.size), S4.out.2.keep hb⟩; clear hb g2 t2 r4))
          go_roundg (PS.length - (i + 1))
          case measure => have := HK.out; omega
          case rel => exact ⟨i + 1, rfl, by omega, by rw [WX.out]; simp [HX.out], by go_num, S4.out⟩
  · have fin : ∀ W : World, Below w.heap.size w W → Hid (Below w.heap.size w W) := fun _ h => h
    by_cases h0 : PS = []
    · have eF : F = zF := by rw [LF.out.1, h0]; rfl
      have l0 : PS.length = 0 := by rw [h0]; rfl
      have EF : Hid (F = zF) := eF
      have eqb := fun w => eq_bloom LF.out.2 zF_len w
      rw [decide_eq_true EF.out] at eqb
      have bz := built_bloom
      clear eF h0 HH PK
      rw [l0]
      rcases (show x < 0 ∨ (¬ x < 0 ∧ 2047 < x) by omega) with h | ⟨h, h'⟩
      · go_wp2_with (first | refine wpList_alloc_zero rfl 24 rfl _ zero_bloom ?_ | (refine wpList_store_mid rfl 24 _ _ rfl w1.heap.size 0 _ rfl rfl (TH _ _) ia oc ?_; refine wpList_world (fun W => Below w.heap.size w W ∧ Blm W w1.heap.size F) (W2 _).out ?_; clear W2; rintro W2 ⟨B2, M2⟩; have r2 := M2.range; replace B2 := fin _ B2; clear M2) | ((with_reducible refine wpList_load_wantM (ty := 24) w1.heap.size 0 (byts F) _ r2 Tryd.underlying24 ?_ ic ?_ ?_ ?_); rfl; rfl; rfl; simp only [Act.put, List.setIfInBounds_toArray, List.set_cons_succ, List.set_cons_zero]) | ((with_reducible refine wpList_build_wantM (ty := 24) _ bz ?_ ?_); rfl; simp only [Act.put, List.setIfInBounds_toArray, List.set_cons_succ, List.set_cons_zero]))
        simp [bodyPost, results, Tryd.results3, go_sem]
        exact B2.out
      · have e1 : decide (x < 0) = false := decide_eq_false h
        have e2 : decide (2047 < x) = true := decide_eq_true h'
        go_wp2_with (first | refine wpList_alloc_zero rfl 24 rfl _ zero_bloom ?_ | (refine wpList_store_mid rfl 24 _ _ rfl w1.heap.size 0 _ rfl rfl (TH _ _) ia oc ?_; refine wpList_world (fun W => Below w.heap.size w W ∧ Blm W w1.heap.size F) (W2 _).out ?_; clear W2; rintro W2 ⟨B2, M2⟩; have r2 := M2.range; replace B2 := fin _ B2; clear M2) | ((with_reducible refine wpList_load_wantM (ty := 24) w1.heap.size 0 (byts F) _ r2 Tryd.underlying24 ?_ ic ?_ ?_ ?_); rfl; rfl; rfl; simp only [Act.put, List.setIfInBounds_toArray, List.set_cons_succ, List.set_cons_zero]) | ((with_reducible refine wpList_build_wantM (ty := 24) _ bz ?_ ?_); rfl; simp only [Act.put, List.setIfInBounds_toArray, List.set_cons_succ, List.set_cons_zero]))
        simp [bodyPost, results, Tryd.results3, go_sem]
        exact B2.out
    · have l0 : (0 : Int) < (PS.length : Int) := by
        have : PS.length ≠ 0 := fun e => h0 (List.eq_nil_of_length_eq_zero e)
        omega
      have l1 : decide ((0 : Int) < (PS.length : Int)) = true := decide_eq_true l0
      have l2 : 0 < PS.length := by omega
      have l3 : decide (0 < PS.length) = true := decide_eq_true l2
      clear h0
      rcases (show x < 0 ∨ (¬ x < 0 ∧ 2047 < x) by omega) with h | ⟨h, h'⟩
      · go_wp2_with (first | refine wpList_alloc_zero rfl 24 rfl _ zero_bloom ?_ | (refine wpList_store_mid rfl 24 _ _ rfl w1.heap.size 0 _ rfl rfl (TH _ _) ia oc ?_; refine wpList_world (fun W => Below w.heap.size w W ∧ Blm W w1.heap.size F) (W2 _).out ?_; clear W2; rintro W2 ⟨B2, M2⟩; replace B2 := fin _ B2; clear M2))
        simp [bodyPost, results, Tryd.results3, go_sem]
        exact B2.out
      · have e1 : decide (x < 0) = false := decide_eq_false h
        have e2 : decide (2047 < x) = true := decide_eq_true h'
        go_wp2_with (first | refine wpList_alloc_zero rfl 24 rfl _ zero_bloom ?_ | (refine wpList_store_mid rfl 24 _ _ rfl w1.heap.size 0 _ rfl rfl (TH _ _) ia oc ?_; refine wpList_world (fun W => Below w.heap.size w W ∧ Blm W w1.heap.size F) (W2 _).out ?_; clear W2; rintro W2 ⟨B2, M2⟩; replace B2 := fin _ B2; clear M2))
        simp [bodyPost, results, Tryd.results3, go_sem]
        exact B2.out
end Go.Proofs.YtndefnomefdhoaaDoor
