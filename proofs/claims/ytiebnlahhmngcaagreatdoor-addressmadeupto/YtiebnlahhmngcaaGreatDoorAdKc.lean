import Derived.Test.YtiebnlahhmngcaaGreatDoorAdLast
import Derived.Test.YtiebnlahhmngcaaGreatDoorKLent
import Derived.Maps.AppendAt
import Derived.Test.YtiebnlahhmngcaaGreatDoorRyC
import Derived.Test.YtiebnlahhmngcaaGreatDoorUbA
/- Layer 9: the digest of bytes, of one part and of four. -/
namespace Go.Proofs.YtiebnlahhmngcaaGreatDoor
open Go.RowKit Go.Sort
def KtC (W : World) : Prop := K.Tab W 3 K.turnsN ∧ K.Lns W 1 K.marksN
theorem KtC.keep {W w1 : World} (h : KtC W) (hb : Below W.heap.size W w1) : KtC w1 := ⟨h.1.keep hb, h.2.keep hb⟩
theorem KtC.alloc {W : World} (h : KtC W) (o : Obj) : KtC (W.alloc o) := ⟨h.1.alloc o, h.2.alloc o⟩
def bvC (l : List Int) : List (BitVec 8) := l.map (BitVec.ofInt 8)
theorem bvC_len (l : List Int) : (bvC l).length = l.length := by simp [bvC]
theorem Y_ofC {z : Int} (h0 : 0 ≤ z) (h1 : z < 256) : K.Y (BitVec.ofInt 8 z) = z := by
  rw [K.Y_eq, BitVec.toNat_ofInt]
  omega
theorem bvC_Y {l : List Int} (h : Bys l) {i : Nat} (hi : i < l.length) : K.Y ((bvC l).getD i 0) = l.getD i 0 := by
  have hm := h (l[i]) (List.getElem_mem hi)
  rw [bvC, List.getD, List.getElem?_map, List.getElem?_eq_getElem hi, List.getD, List.getElem?_eq_getElem hi]
  exact Y_ofC hm.1 hm.2
theorem bvC_app (a b : List Int) : bvC (a ++ b) = bvC a ++ bvC b := by simp [bvC]
/-- The digest of bytes. -/
noncomputable def kecC (l : List Int) : List Int := (K.hashL (K.finL 0 (K.absb (List.replicate 25 0) 0 (bvC l)) l.length)).map K.Y
theorem kecC_len (l : List Int) : (kecC l).length = 32 := by simp [kecC, K.hashL]
theorem Y_rng (b : BitVec 8) : 0 ≤ K.Y b ∧ K.Y b < 256 := by rw [K.Y_eq]; have := b.isLt; omega
theorem kecC_bys (l : List Int) : Bys (kecC l) := fun x hx => by
  obtain ⟨b, _, rfl⟩ := List.mem_map.1 hx
  exact Y_rng b
theorem digC (l : List Int) : K.digV 0 (bvC l) = .agg ((kecC l).map (Value.int .u8)).toArray := by
  rw [K.digV, kecC, bvC_len, List.map_map]
  rfl
/-- A part, by its numbers. -/
structure PtC where
  a : Option Addr
  b : Nat
  o : Nat
  c : Nat
  X : List Int
def PtC.k (p : PtC) : K.Part := ⟨p.a, p.b, p.o, p.c, bvC p.X⟩
def PtC.ok (W : World) (p : PtC) : Prop := Az p.a p.b p.o p.X ∧ p.X.length ≤ p.c ∧ Bys p.X ∧ Bz W p.b p.o p.X
def PtC.val (p : PtC) : Value := .slice p.a p.X.length p.c
theorem PtC.kval (p : PtC) : p.k.val = p.val := by rw [K.Part.val, PtC.val, PtC.k, bvC_len]
theorem PtC.kok {W : World} {p : PtC} (h : p.ok W) : p.k.ok W := by
  obtain ⟨h1, h2, h3, h4⟩ := h
  refine ⟨?_, by rw [PtC.k, bvC_len]; exact h2, fun i hi => ?_⟩
  · rcases h1 with e | e
    · left; show bvC p.X = []; rw [e]; rfl
    · exact .inr e
  · have hi' : i < p.X.length := by rw [← bvC_len p.X]; exact hi
    show W.cell? ⟨p.b, p.o + i, none⟩ = some (.int .u8 (K.Y ((bvC p.X).getD i 0)))
    rw [bvC_Y h3 hi']; exact h4 i hi'
def PtsC (W : World) (b o : Nat) : List PtC → Prop
  | [] => True
  | p :: ps => (W.cell? ⟨b, o, none⟩ = some p.val ∧ p.ok W) ∧ PtsC W b (o + 1) ps
theorem PtsC.at {W : World} {b : Nat} : ∀ {o : Nat} {ps : List PtC}, PtsC W b o ps → K.Prts W b o (ps.map PtC.k)
  | _, [], _ => fun i hi => absurd hi (Nat.not_lt_zero _)
  | o, p :: ps, h => fun i hi => by
    rw [PtsC] at h
    rcases i with _ | i
    · exact ⟨by show W.cell? ⟨b, o + 0, none⟩ = some p.k.val; rw [PtC.kval]; exact h.1.1, PtC.kok h.1.2⟩
    · have := PtsC.at h.2 i (by simpa using hi)
      rw [Nat.add_right_comm, Nat.add_assoc] at this
      simpa using this
theorem PtC.ok.keep {W W' : World} {p : PtC} (h : p.ok W) (B : Below W.heap.size W W') : p.ok W' := ⟨h.1, h.2.1, h.2.2.1, h.2.2.2.keep B⟩
theorem ptsC_one {W : World} {p : PtC} {ty : TypeId} (h : p.ok W) : PtsC (W.alloc (.cells #[p.val] ty)) W.heap.size 0 [p] := by
  rw [PtsC, PtsC]
  exact ⟨⟨rangeBox (W := W) (M := [p.val]) (t := ty) 0 _ rfl, h.keep ((Below.refl _ _).alloc (Nat.le_refl _) _)⟩, trivial⟩
theorem ptsC_four {W : World} {p q r s : PtC} {ty : TypeId} (h1 : p.ok W) (h2 : q.ok W) (h3 : r.ok W) (h4 : s.ok W) : PtsC (W.alloc (.cells #[p.val, q.val, r.val, s.val] ty)) W.heap.size 0 [p, q, r, s] := by
  have B : Below W.heap.size W (W.alloc (.cells #[p.val, q.val, r.val, s.val] ty)) := (Below.refl _ _).alloc (Nat.le_refl _) _
  have R := rangeBox (W := W) (M := [p.val, q.val, r.val, s.val]) (t := ty)
  rw [PtsC, PtsC, PtsC, PtsC, PtsC]
  exact ⟨⟨R 0 _ rfl, h1.keep B⟩, ⟨R 1 _ rfl, h2.keep B⟩, ⟨R 2 _ rfl, h3.keep B⟩, ⟨R 3 _ rfl, h4.keep B⟩, trivial⟩
def allC (ps : List PtC) : List Int := ps.flatMap (·.X)
theorem allC_cat : ∀ ps : List PtC, K.catX (ps.map PtC.k) = bvC (allC ps)
  | [] => rfl
  | p :: ps => by
    have h := allC_cat ps
    unfold K.catX allC at h ⊢
    rw [List.map_cons, List.flatMap_cons, List.flatMap_cons, h, bvC_app]
    rfl
theorem ksumC {ps : List PtC} {b o n c : Nat} (e : n = ps.length) (hl : (allC ps).length < 1073741824) (hn : ps.length ≤ 1000) (hc : ps.length ≤ c) (w : World) (hb : PtsC w b o ps) (hk : KtC w) :
    Calls Tryz.prog 11 #[.slice (some ⟨b, o, none⟩) n c] w fun e w' => e = .returned (.agg ((kecC (allC ps)).map (Value.int .u8)).toArray) ∧ Below w.heap.size w w' := by
  have h := K.sum_any (PS := ps.map PtC.k) (a := some ⟨b, o, none⟩) (bp := b) (op := o) (cp := c) (by rw [allC_cat, bvC_len]; exact hl) (by rw [List.length_map]; omega) (by rw [List.length_map]; exact hc) (.inr rfl) w hb.at hk.1 hk.2
  rw [List.length_map, allC_cat, digC] at h
  rw [e]; exact h
end Go.Proofs.YtiebnlahhmngcaaGreatDoor

/- Layer 9: Create of the program. -/
namespace Go.Proofs.YtiebnlahhmngcaaGreatDoor
open Go.RowKit Go.Sort
/-- The text of a sender and a nonce. -/
def creX (A : List Int) (n : Int) : List Int := encT (creT A (stripL (putL n)))
noncomputable def adrC (X : List Int) : List Int := (kecC X).drop 12
theorem allC_one (p : PtC) : allC [p] = p.X := by simp [allC]
theorem adrC_len (X : List Int) : (adrC X).length = 20 := by rw [adrC, List.length_drop, kecC_len]
theorem creX_len {A : List Int} {n : Int} (hA : A.length = 20) : wtT (creT A (stripL (putL n))) ≤ 55 := by
  have h := strip_len (putL n) (k := 32) (by rw [putL_len]; exact Nat.le_refl _)
  rw [creT_wt]; omega
theorem its2 {W : World} {t0 t1 : Tr} {d0 q0 d1 q1 : Value} {ty : TypeId} (h0 : It W t0 d0 q0) (h1 : It W t1 d1 q1) : Its (W.alloc (.cells #[.bool t0.l, d0, q0, .bool t1.l, d1, q1] ty)) W.heap.size 0 [t0, t1] := by
  have B : Below W.heap.size W (W.alloc (.cells #[.bool t0.l, d0, q0, .bool t1.l, d1, q1] ty)) := (Below.refl _ _).alloc (Nat.le_refl _) _
  have r := rangeBox (W := W) (M := [.bool t0.l, d0, q0, .bool t1.l, d1, q1]) (t := ty)
  rw [Its, Its, Its]
  refine ⟨⟨d0, q0, fun j v hv => ?_, It.keep B _ h0⟩, ⟨d1, q1, fun j v hv => ?_, It.keep B _ h1⟩, trivial⟩
  · match j, hv with
    | 0, hv => exact r 0 v hv
    | 1, hv => exact r 1 v hv
    | 2, hv => exact r 2 v hv
    | j + 3, hv => simp at hv
  · match j, hv with
    | 0, hv => exact r 3 v hv
    | 1, hv => exact r 4 v hv
    | 2, hv => exact r 5 v hv
    | j + 3, hv => simp at hv
theorem putL_byC (n : Int) : Bys (putL n) := fun z hz => by
  obtain ⟨t, _, rfl⟩ := List.mem_map.1 hz
  exact ⟨Int.emod_nonneg _ (by decide), Int.emod_lt_of_pos _ (by decide)⟩
theorem Bys.strip : ∀ {l : List Int}, Bys l → Bys (stripL l)
  | [], h => h
  | x :: xs, h => by
    rw [stripL]
    split
    · exact Bys.strip fun y hy => h y (List.mem_cons_of_mem _ hy)
    · exact h
theorem encZ_cre {A N : List Int} : encZ (creT A N) = encT (creT A N) := by rw [encZ, if_pos creT_err]
theorem creX_wt {A : List Int} {n : Int} (hA : A.length = 20) : (creX A n).length ≤ 1000 := by
  have h := creX_len (n := n) hA
  have h2 := encT_len (creT A (stripL (putL n)))
  rw [creX]; omega
theorem creX_by {A : List Int} {n : Int} (hA : A.length = 20) (hB : Bys A) : Bys (creX A n) := encT_bys _ (creT_by hB ((putL_byC n).strip)) (by have := creX_len (n := n) hA; omega)
set_option maxRecDepth 100000 in
set_option maxHeartbeats 8000000 in
theorem create_any {A : List Int} {n : Int} {D : List Value} (hA : A.length = 20) (hB : Bys A) (hn : Word n) (eD : Hid (D = (adrC (creX A n)).map (Value.int .u8))) (w : World) (hk : KtC w) :
    Calls Tryz.prog 9 #[.agg (A.map (Value.int .u8)).toArray, .int .u64 n] w fun e w' => e = .returned (.agg D.toArray) ∧ Below w.heap.size w w' := by
  have AL : Hid (A.length = 20 ∧ Bys A) := ⟨hA, hB⟩
  have C1 : Hid (∀ W g, Bts W g A → Calls Tryz.prog 6 #[.slice (some ⟨g, 0, none⟩) 20 20] W fun e w' => ∃ d q, e = .returned (.agg #[.bool false, d, q]) ∧ It w' (.mk false A []) d q ∧ Below W.heap.size W w') := fun W g h => (text_any hA.symm (by omega) (.inr rfl) W (fun i hi => by rw [Nat.zero_add]; exact h.1 i hi)).mono fun e w' ⟨d, q, h1, h2, h3⟩ => ⟨d, q, h1, Ot.it _ h2, h3⟩
  have C2 : Hid (∀ W, Calls Tryz.prog 23 #[.int .u64 n] W fun e w' => ∃ d q, e = .returned (.agg #[.bool false, d, q]) ∧ It w' (.mk false (stripL (putL n)) []) d q ∧ Below W.heap.size W w') := fun W => (small_any hn W).mono fun e w' ⟨d, q, h1, h2, h3⟩ => ⟨d, q, h1, Ot.it _ h2, h3⟩
  have C3 : Hid (∀ W g, Its W g 0 [.mk false A [], .mk false (stripL (putL n)) []] → Calls Tryz.prog 5 #[.slice (some ⟨g, 0, none⟩) 2 2] W fun e w' => ∃ d q, e = .returned (.agg #[.bool true, d, q]) ∧ It w' (creT A (stripL (putL n))) d q ∧ Below W.heap.size W w') := fun W g h => (list_any (ts := [.mk false A [], .mk false (stripL (putL n)) []]) (by have h := creX_len (n := n) hA; rw [creT, wtT] at h; omega) (.inr rfl) W h).mono fun e w' ⟨d, q, h1, h2, h3⟩ => ⟨d, q, h1, Ot.it _ h2, h3⟩
  have C4 : Hid (∀ W d q, It W (creT A (stripL (putL n))) d q → Calls Tryz.prog 4 #[.agg #[.bool true, d, q]] W fun e w' => ∃ a g c, e = .returned (.tuple #[.slice a (creX A n).length c, .int .i64 0]) ∧ (PtC.ok w' ⟨a, g, 0, c, creX A n⟩ ∧ (a = none → c = 0)) ∧ Below W.heap.size W w') := fun W d q h => by
    refine (Encode_any (by have := creX_len (n := n) hA; omega) W h).mono ?_
    rintro e w' ⟨v, rfl, h2, h3⟩
    rw [encZ_cre, creT_err] at *
    obtain ⟨a, g, c, rfl, h5, h6, h7, _, _, h8⟩ := h2.lies
    exact ⟨a, g, c, rfl, ⟨⟨h6, h5, creX_by hA hB, h7⟩, h8⟩, h3⟩
  have XL : Hid ((creX A n).length ≤ 1000) := creX_wt hA
  generalize creX A n = X at *
  go_enter Tryz.func9, Tryz.ntmps9
  go_wp2_with fail
  refine calls_world (fun W => Below w.heap.size w W ∧ KtC W ∧ Bts W (w.heap.size + 1) (List.replicate 20 0) ∧ Bts W w.heap.size A) ⟨by repeat (first | with_reducible exact Below.refl _ _ | with_reducible refine Below.alloc ?_ (by first | omega | (simp; done) | (simp; omega)) _), (hk.alloc _).alloc _, Bts.new (List.replicate 20 0) _ (by simp), (Bts.new A _ rfl).alloc (by omega) _⟩ ?_
  rintro W ⟨B, hT, hR, hS⟩
  with_reducible refine (C1.out W _ hS).mono ?_
  rintro e w1 ⟨d0, q0, rfl, hO0, hb⟩
  replace B := B.trans (hb.mono B.size)
  replace hT := hT.keep hb
  replace hR := hR.keep (by simp) hb
  have o1 : w.heap.size ≤ w.heap.size + 1 := by omega
  generalize w.heap.size + 1 = br at *
  clear hb W hS C1 hk
  go_wp2_with fail
  with_reducible refine (C2.out w1).mono ?_
  rintro e w2 ⟨d1, q1, rfl, hO1, hb⟩
  replace B := B.trans (hb.mono B.size)
  replace hT := hT.keep hb
  replace hR := hR.keep (by simp) hb
  replace hO0 := It.keep hb _ hO0
  clear hb C2 hn
  go_wp2_with fail
  refine calls_world (fun W => Below w.heap.size w W ∧ KtC W ∧ Bts W br (List.replicate 20 0) ∧ Its W w2.heap.size 0 [.mk false A [], .mk false (stripL (putL n)) []]) ⟨B.alloc B.size _, hT.alloc _, hR.alloc (by simp) _, its2 hO0 hO1⟩ ?_
  clear B hT hR hO0 hO1
  rintro W ⟨B, hT, hR, hI⟩
  generalize w2.heap.size = bi at *
  clear w2 w1
  with_reducible refine (C3.out W _ hI).mono ?_
  rintro e w1 ⟨d, q, rfl, hO, hb⟩
  replace B := B.trans (hb.mono B.size)
  replace hT := hT.keep hb
  replace hR := hR.keep (by simp) hb
  clear hb C3 hI W
  go_wp2_with fail
  with_reducible refine (C4.out w1 _ _ hO).mono ?_
  rintro e w2 ⟨a, g, c, rfl, hP, hb⟩
  replace B := B.trans (hb.mono B.size)
  replace hT := hT.keep hb
  replace hR := hR.keep (by simp) hb
  clear hb C4 hO w1
  go_wp2_with fail
  refine calls_world (fun W => Below w.heap.size w W ∧ KtC W ∧ Bts W br (List.replicate 20 0) ∧ PtsC W w2.heap.size 0 [⟨a, g, 0, c, X⟩]) ⟨B.alloc B.size _, hT.alloc _, hR.alloc (by simp) _, ptsC_one hP.1⟩ ?_
  clear B hT hR hP
  rintro W ⟨B, hT, hR, hP⟩
  generalize w2.heap.size = bs at *
  clear w2
  refine (ksumC (ps := [⟨a, g, 0, c, X⟩]) rfl (by rw [allC_one]; show X.length < _; have := XL.out; omega) (by show 1 ≤ 1000; decide) (Nat.le_refl _) W hP hT).mono ?_
  rw [allC_one]
  rintro e w2 ⟨rfl, hb⟩
  replace B := B.trans (hb.mono B.size)
  replace hR := hR.keep (by simp) hb
  clear hb W hT hP XL
  have mk : ((kecC X).map (Value.int .u8)).length = 32 := by rw [List.length_map, kecC_len]
  have mo : ∀ v ∈ (kecC X).map (Value.int .u8), v.oneCell' = true := fun v hv => by obtain ⟨z, _, rfl⟩ := List.mem_map.1 hv; rfl
  have eD' : D = ((kecC X).map (Value.int .u8)).drop 12 := by rw [eD.out, adrC, List.map_drop]
  have ED : Hid (D = ((kecC X).map (Value.int .u8)).drop 12) := eD'
  generalize (kecC X).map (Value.int .u8) = M at *
  clear eD' eD
  have MM : Hid (M.length = 32 ∧ ∀ v ∈ M, v.oneCell' = true) := ⟨mk, mo⟩
  clear mk mo
  go_wp2_with fail
  refine (last20_any MM.out.1 MM.out.2 _).mono ?_
  rw [← ED.out]
  rintro e w3 ⟨rfl, hb⟩
  replace B := B.trans (hb.mono B.size)
  replace hR := hR.keep (by simp) hb
  clear hb w2
  have kD : D.length = 20 := by rw [ED.out, List.length_drop, MM.out.1]
  have oc : D.toArray.all (·.oneCell') = true := all_oneCell_toArray fun v hv => MM.out.2 v (by rw [ED.out] at hv; exact List.mem_of_mem_drop hv)
  have KD : Hid (D.length = 20) := kD
  have sz : D.toArray.size = 20 := by simp [kD]
  have tr := hR.there (k := D.toArray.size) (by rw [sz]; rfl)
  clear kD
  go_wp2_with ((refine wpList_store_mid rfl 26 _ _ rfl br 0 D.toArray rfl rfl tr (by rw [sz]; kernel_rfl) oc ?_); (refine wpList_worldA (fun W => Below w.heap.size w W ∧ W.rangeAt br 0 D) (laid_in B o1 (by simpa using tr)) ?_); (rintro W ⟨B', hD⟩))
  have ld := run_loadVar_mid (P := Tryz.prog) W br 0 26 D _ hD Tryz.underlying26 rfl (by rw [KD.out]; kernel_rfl)
  refine bodyPost_ret (v := .agg D.toArray) ?_ rfl ⟨rfl, B'⟩
  simp [results, Tryz.results9, Act.put, asAddr, ld]
end Go.Proofs.YtiebnlahhmngcaaGreatDoor

/- Layer 9: Create2 of the program. -/
namespace Go.Proofs.YtiebnlahhmngcaaGreatDoor
open Go.RowKit Go.Sort
/-- The text of a maker, a salt and code. -/
noncomputable def cr2X (A S X : List Int) : List Int := 255 :: (A ++ (S ++ kecC X))
theorem Bts.pt {W : World} {g : Nat} {L : List Int} (h : Bts W g L) (hy : Bys L) : PtC.ok W ⟨some ⟨g, 0, none⟩, g, 0, L.length, L⟩ := ⟨.inr rfl, Nat.le_refl _, hy, fun i hi => by show W.cell? ⟨g, 0 + i, none⟩ = _; rw [Nat.zero_add]; exact h.1 i hi⟩
theorem kworld {K : Act → World → Prop} {a : Act} {w : World} (I : World → Prop) (h : I w) (k : ∀ V, I V → K a V) : K a w := k w h
theorem bys255 : Bys [255] := fun x hx => by simp at hx; omega
theorem allC_four (p q r s : PtC) : allC [p, q, r, s] = p.X ++ (q.X ++ (r.X ++ s.X)) := by simp [allC]
theorem ptsC_oneE {W : World} {p : PtC} {v : Value} {g : Nat} {ty : TypeId} (e : g = W.heap.size) (ev : v = p.val) (h : p.ok W) : PtsC (W.alloc (.cells #[v] ty)) g 0 [p] := by subst e; subst ev; exact ptsC_one h
theorem ptsC_fourE {W : World} {p q r s : PtC} {v1 v2 v3 v4 : Value} {g : Nat} {ty : TypeId} (e : g = W.heap.size) (e1 : v1 = p.val) (e2 : v2 = q.val) (e3 : v3 = r.val) (e4 : v4 = s.val) (h1 : p.ok W) (h2 : q.ok W) (h3 : r.ok W) (h4 : s.ok W) : PtsC (W.alloc (.cells #[v1, v2, v3, v4] ty)) g 0 [p, q, r, s] := by subst e; subst e1; subst e2; subst e3; subst e4; exact ptsC_four h1 h2 h3 h4
set_option maxRecDepth 100000 in
set_option maxHeartbeats 8000000 in
theorem create2_any {A S X : List Int} {a : Option Addr} {b o c m : Nat} {D : List Value} (em : m = X.length) (hA : A.length = 20) (hB : Bys A) (hS : S.length = 32) (hSB : Bys S) (hX : X.length < 1073741824) (eD : Hid (D = (adrC (cr2X A S X)).map (Value.int .u8))) (w : World) (hp : PtC.ok w ⟨a, b, o, c, X⟩) (hk : KtC w) :
    Calls Tryz.prog 12 #[.agg (A.map (Value.int .u8)).toArray, .agg (S.map (Value.int .u8)).toArray, .slice a m c] w fun e w' => e = .returned (.agg D.toArray) ∧ Below w.heap.size w w' := by
  have AL : Hid (A.length = 20 ∧ Bys A ∧ S.length = 32 ∧ Bys S ∧ X.length < 1073741824) := ⟨hA, hB, hS, hSB, hX⟩
  have EM : Hid (m = X.length) := em
  clear em
  go_enter Tryz.func12, Tryz.ntmps12
  go_wp2_with fail
  refine calls_world (fun W => Below w.heap.size w W ∧ KtC W ∧ Bts W (w.heap.size + 1 + 1) (List.replicate 20 0) ∧ (Bts W w.heap.size A ∧ Bts W (w.heap.size + 1) S) ∧ PtsC W (w.heap.size + 1 + 1 + 1) 0 [⟨a, b, o, c, X⟩]) ⟨by repeat (first | with_reducible exact Below.refl _ _ | with_reducible refine Below.alloc ?_ (by first | omega | (simp; done) | (simp; omega)) _), (((hk.alloc _).alloc _).alloc _).alloc _, (Bts.new (List.replicate 20 0) _ (by simp)).alloc (by simp) _, ⟨(((Bts.new A _ rfl).alloc (by omega) _).alloc (by omega) _).alloc (by omega) _, ((Bts.new S _ (by simp)).alloc (by omega) _).alloc (by omega) _⟩, ptsC_oneE (by simp) (by rw [EM.out]; rfl) (hp.keep (by repeat (first | with_reducible exact Below.refl _ _ | with_reducible refine Below.alloc ?_ (by first | omega | (simp; done) | (simp; omega)) _)))⟩ ?_
  rintro W ⟨B, hT, hR, ⟨h1, h2⟩, hP⟩
  have o1 : w.heap.size ≤ w.heap.size + 1 + 1 := by omega
  have n1 : w.heap.size + 1 + 1 ≠ w.heap.size := by omega
  generalize w.heap.size + 1 + 1 + 1 = bq at *
  generalize w.heap.size + 1 + 1 = br at *
  generalize w.heap.size + 1 = bs at *
  clear hp hk
  refine (ksumC (ps := [⟨a, b, o, c, X⟩]) rfl (by rw [allC_one]; exact AL.out.2.2.2.2) (by show 1 ≤ 1000; decide) (Nat.le_refl _) W hP hT).mono ?_
  rw [allC_one]
  rintro e w1 ⟨rfl, hb⟩
  replace B := B.trans (hb.mono B.size)
  replace hT := hT.keep hb
  replace hR := hR.keep (by simp) hb
  replace h1 := h1.keep (by omega) hb
  replace h2 := h2.keep (by omega) hb
  clear hb W hP EM
  obtain ⟨N, eN⟩ : ∃ N, N = kecC X := ⟨_, rfl⟩
  rw [← eN]
  have hN : N.length = 32 := by rw [eN, kecC_len]
  have NB : Hid (N.length = 32 ∧ Bys N ∧ D = (adrC (255 :: (A ++ (S ++ N)))).map (Value.int .u8)) := ⟨hN, by rw [eN]; exact kecC_bys X, by rw [eN]; exact eD.out⟩
  obtain ⟨M, eM⟩ : ∃ M, M = N.map (Value.int .u8) := ⟨_, rfl⟩
  rw [← eM]
  have sz : M.toArray.size = 32 := by rw [eM]; simp [hN]
  have oc : M.toArray.all (·.oneCell') = true := by rw [eM]; exact one_cells N
  have FF : ∀ t, Hid (Below w.heap.size w ((w1.alloc (.cells ((List.replicate 32 (0 : Int)).map (Value.int .u8)).toArray t)).setCells w1.heap.size 0 M) ∧ KtC ((w1.alloc (.cells ((List.replicate 32 (0 : Int)).map (Value.int .u8)).toArray t)).setCells w1.heap.size 0 M) ∧ Bts ((w1.alloc (.cells ((List.replicate 32 (0 : Int)).map (Value.int .u8)).toArray t)).setCells w1.heap.size 0 M) br (List.replicate 20 0) ∧ (Bts ((w1.alloc (.cells ((List.replicate 32 (0 : Int)).map (Value.int .u8)).toArray t)).setCells w1.heap.size 0 M) w.heap.size A ∧ Bts ((w1.alloc (.cells ((List.replicate 32 (0 : Int)).map (Value.int .u8)).toArray t)).setCells w1.heap.size 0 M) bs S) ∧ Bts ((w1.alloc (.cells ((List.replicate 32 (0 : Int)).map (Value.int .u8)).toArray t)).setCells w1.heap.size 0 M) w1.heap.size N) := fun t => by
    have B0 : Below w1.heap.size w1 ((w1.alloc (.cells ((List.replicate 32 (0 : Int)).map (Value.int .u8)).toArray t)).setCells w1.heap.size 0 M) := below_setCells (Nat.le_refl _) M 0 _ ((Below.refl _ _).alloc (Nat.le_refl _) _)
    exact ⟨B.trans (B0.mono B.size), hT.keep B0, hR.keep (by simp) B0, ⟨h1.keep (by omega) B0, h2.keep (by omega) B0⟩, by rw [eM]; exact (Bts.new (List.replicate 32 0) t rfl).storedA (by simp [hN])⟩
  clear B hT hR h1 h2 eM eN eD
  go_wp2_with ((refine wpList_store_mid rfl 28 _ _ rfl w1.heap.size 0 M.toArray rfl rfl (there_new rfl (by rw [sz]; rfl)) (by rw [sz]; kernel_rfl) oc ?_); (refine wpList_worldA (fun W => Below w.heap.size w W ∧ KtC W ∧ Bts W br (List.replicate 20 0) ∧ (Bts W w.heap.size A ∧ Bts W bs S) ∧ Bts W w1.heap.size N) (FF _).out ?_); (rintro W ⟨B, hT, hR, ⟨h1, h2⟩, h3⟩); (clear FF oc sz))
  have HH : Hid (Below w.heap.size w W ∧ KtC W ∧ Bts W br (List.replicate 20 0) ∧ (Bts W w.heap.size A ∧ Bts W bs S) ∧ Bts W w1.heap.size N) := ⟨B, hT, hR, ⟨h1, h2⟩, h3⟩
  clear B hT hR h1 h2 h3
  generalize w1.heap.size = b3 at *
  clear w1
  simp only [Act.put]
  refine wp_region_held_drew (S := fun w' => Below w.heap.size w w') (by kernel_rfl) (HH.out.1.drew) (fun hHeld => ?_)
  refine wpAnyH_takeD (i := 1) (oi := _) (v := .slice (some ⟨w.heap.size, 0, none⟩) 20 20) 12 rfl (by kernel_rfl) (by kernel_rfl) (by kernel_rfl) (by kernel_rfl) (fun _ _ _ h => h) (Or.inl ⟨by kernel_rfl, ?_⟩) (by assumption) ?_
  · intro wq hSw
    have _ := hSw
    go_simp
  simp only [Act.put, List.setIfInBounds_toArray, List.set_cons_succ, List.set_cons_zero]
  refine wpAnyH_takeD (i := 2) (oi := _) (v := .slice (some ⟨bs, 0, none⟩) 32 32) 13 rfl (by kernel_rfl) (by kernel_rfl) (by kernel_rfl) (by kernel_rfl) (fun _ _ _ h => h) (Or.inl ⟨by kernel_rfl, ?_⟩) (by assumption) ?_
  · intro wq hSw
    have _ := hSw
    go_simp
  simp only [Act.put, List.setIfInBounds_toArray, List.set_cons_succ, List.set_cons_zero]
  refine wpAnyH_takeD (i := 3) (oi := _) (v := .slice (some ⟨b3, 0, none⟩) 32 32) 14 rfl (by kernel_rfl) (by kernel_rfl) (by kernel_rfl) (by kernel_rfl) (fun _ _ _ h => h) (Or.inl ⟨by kernel_rfl, ?_⟩) (by assumption) ?_
  · intro wq hSw
    have _ := hSw
    go_simp
  simp only [Act.put, List.setIfInBounds_toArray, List.set_cons_succ, List.set_cons_zero]
  refine wpAnyH_ready (rs := [0]) (by kernel_rfl) (by simp) ?_
  refine AllReadyH.cons rfl (fun K hK => ?_) AllReadyH.nil
  go_simp
  go_wp2_with fail
  refine kworld (fun V => Below W.heap.size W V ∧ PtC.ok V ⟨some ⟨W.heap.size, 0, none⟩, W.heap.size, 0, 1, [255]⟩) ⟨((Below.refl _ _).alloc (Nat.le_refl _) _).drew, ((Bts.new (W := W) [255] _ rfl).pt bys255).keep ((Below.refl _ _).drew)⟩ ?_
  rintro V ⟨BV, hP0⟩
  refine hK.out _ _ (HH.out.1.trans (BV.mono HH.out.1.size)) (fun hHeld => ?_)
  clear hK K hHeld
  refine wpAnyH_ready (rs := [4]) (by kernel_rfl) (by simp) ?_
  refine AllReadyH.cons rfl (fun K hK => ?_) AllReadyH.nil
  go_simp
  go_wp2_with fail
  refine kworld (fun U => Below W.heap.size W U ∧ PtsC U V.heap.size 0 [⟨some ⟨W.heap.size, 0, none⟩, W.heap.size, 0, 1, [255]⟩, ⟨some ⟨w.heap.size, 0, none⟩, w.heap.size, 0, A.length, A⟩, ⟨some ⟨bs, 0, none⟩, bs, 0, S.length, S⟩, ⟨some ⟨b3, 0, none⟩, b3, 0, N.length, N⟩]) ⟨BV.alloc BV.size _, ptsC_fourE rfl rfl (by rw [PtC.val]; show _ = Value.slice _ A.length A.length; rw [AL.out.1]) (by rw [PtC.val]; show _ = Value.slice _ S.length S.length; rw [AL.out.2.2.1]) (by rw [PtC.val]; show _ = Value.slice _ N.length N.length; rw [NB.out.1]) hP0 ((HH.out.2.2.2.1.1.pt AL.out.2.1).keep BV) ((HH.out.2.2.2.1.2.pt AL.out.2.2.2.1).keep BV) ((HH.out.2.2.2.2.pt NB.out.2.1).keep BV)⟩ ?_
  clear hP0
  rintro U ⟨BU, hP⟩
  refine hK.out _ _ (HH.out.1.trans (BU.mono HH.out.1.size)) (fun hHeld => ?_)
  clear hK K hHeld BV
  generalize V.heap.size = b4 at *
  clear V
  refine wpAnyH_ready (rs := [5]) (by kernel_rfl) (by simp) ?_
  refine AllReadyH.cons rfl (fun K hK => ?_) AllReadyH.nil
  go_simp
  have SM := ksumC (ps := [⟨some ⟨W.heap.size, 0, none⟩, W.heap.size, 0, 1, [255]⟩, ⟨some ⟨w.heap.size, 0, none⟩, w.heap.size, 0, A.length, A⟩, ⟨some ⟨bs, 0, none⟩, bs, 0, S.length, S⟩, ⟨some ⟨b3, 0, none⟩, b3, 0, N.length, N⟩]) (n := 4) (c := 4) rfl (by rw [allC_four]; simp only [List.length_append, List.length_cons, List.length_nil]; have := AL.out; have := NB.out; omega) (by show 4 ≤ 1000; decide) (Nat.le_refl 4) U hP (HH.out.2.1.keep BU)
  rw [allC_four] at SM
  simp only [List.cons_append, List.nil_append] at SM
  have ED : Hid (D = ((kecC (255 :: (A ++ (S ++ N)))).map (Value.int .u8)).drop 12) := by rw [← List.map_drop]; exact NB.out.2.2
  have mk : ((kecC (255 :: (A ++ (S ++ N)))).map (Value.int .u8)).length = 32 := by rw [List.length_map, kecC_len]
  have mo : ∀ v ∈ (kecC (255 :: (A ++ (S ++ N)))).map (Value.int .u8), v.oneCell' = true := fun v hv => by obtain ⟨z, _, rfl⟩ := List.mem_map.1 hv; rfl
  clear hP
  have SM' : Hid (∀ _ : Nat, Calls Tryz.prog 11 #[.slice (some ⟨b4, 0, none⟩) 4 4] U fun e w' => e = .returned (.agg ((kecC (255 :: (A ++ (S ++ N)))).map (Value.int .u8)).toArray) ∧ Below U.heap.size U w') := fun _ => SM
  clear SM
  generalize (kecC (255 :: (A ++ (S ++ N)))).map (Value.int .u8) = M5 at *
  have MM : Hid (M5.length = 32 ∧ ∀ v ∈ M5, v.oneCell' = true) := ⟨mk, mo⟩
  clear mk mo
  go_wp2_with (go_at_call 11; refine (SM'.out 0).mono ?_; rintro e y1 ⟨rfl, hbx⟩)
  have BY := BU.trans (hbx.mono BU.size)
  refine hK.out _ _ (HH.out.1.trans (BY.mono HH.out.1.size)) (fun hHeld => ?_)
  clear hK K BU hbx SM' U hHeld
  refine wpAnyH_ready (rs := [6]) (by kernel_rfl) (by simp) ?_
  refine AllReadyH.cons rfl (fun K hK => ?_) AllReadyH.nil
  go_simp
  go_wp2_with (go_at_call 24; refine (last20_any MM.out.1 MM.out.2 _).mono ?_; rw [← ED.out]; rintro e y2 ⟨rfl, hbx⟩)
  have BZ := BY.trans (hbx.mono BY.size)
  refine hK.out _ _ (HH.out.1.trans (BZ.mono HH.out.1.size)) (fun hHeld => ?_)
  clear hK K hbx hHeld BY y1
  have kD : D.length = 20 := by rw [ED.out, List.length_drop, MM.out.1]
  have oc : D.toArray.all (·.oneCell') = true := all_oneCell_toArray fun v hv => MM.out.2 v (by rw [ED.out] at hv; exact List.mem_of_mem_drop hv)
  have KD : Hid (D.length = 20) := kD
  have sz : D.toArray.size = 20 := by simp [kD]
  have B9 := HH.out.1.trans (BZ.mono HH.out.1.size)
  have tr := (HH.out.2.2.1.keep (by simp) BZ).there (k := D.toArray.size) (by rw [sz]; rfl)
  clear kD ED MM
  refine wpAnyH_ready (rs := [7]) (by kernel_rfl) (by simp) ?_
  refine AllReadyH.cons rfl (fun K hK => ?_) AllReadyH.nil
  refine (if_pos (by kernel_rfl)).mpr ?_
  refine wp_store_mid 26 _ _ rfl br 0 D.toArray rfl rfl tr (by rw [sz]; kernel_rfl) oc ?_
  have LI := laid_in B9 o1 (by simpa using tr)
  refine kworld (fun V => Below w.heap.size w V ∧ V.rangeAt br 0 D) LI ?_
  clear LI tr BZ B9
  rintro V ⟨B', hD⟩
  refine hK.out _ _ B' (fun hHeld => ?_)
  clear hK K hHeld
  refine wpAnyH_done (by kernel_rfl) ?_ _
  go_wp2_with fail
  have ld := run_loadVar_mid (P := Tryz.prog) V br 0 26 D _ hD Tryz.underlying26 rfl (by rw [KD.out]; kernel_rfl)
  refine bodyPost_ret (v := .agg D.toArray) ?_ rfl ⟨rfl, B'⟩
  simp [results, Tryz.results12, Act.put, asAddr, ld]
end Go.Proofs.YtiebnlahhmngcaaGreatDoor
