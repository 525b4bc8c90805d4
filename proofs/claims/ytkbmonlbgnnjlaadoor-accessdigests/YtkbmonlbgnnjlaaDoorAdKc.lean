import Derived.Test.YtkbmonlbgnnjlaaDoorAdLast
import Derived.Test.YtkbmonlbgnnjlaaDoorKRDigest
import Derived.Test.YtkbmonlbgnnjlaaDoorRyC
import Derived.Test.YtkbmonlbgnnjlaaDoorRxQ
/- Layer 9: the digest of bytes, of one part and of four. -/
namespace Go.Proofs.YtkbmonlbgnnjlaaDoor
open Go.RowKit Go.Sort
def KtC (W : World) : Prop := K.Tab W 3 K.turnsN ∧ K.Lns W 1 K.marksN
theorem KtC.keep {W w1 : World} (h : KtC W) (hb : Below W.heap.size W w1) : KtC w1 := ⟨h.1.keep hb, h.2.keep hb⟩
theorem KtC.alloc {W : World} (h : KtC W) (o : Obj) : KtC (W.alloc o) := ⟨h.1.alloc o, h.2.alloc o⟩
def RtC (W : World) : Prop := K.Tab W 2 K.turnsN ∧ K.Lns W 0 K.marksN
theorem RtC.keep {W w1 : World} (h : RtC W) (hb : Below W.heap.size W w1) : RtC w1 := ⟨h.1.keep hb, h.2.keep hb⟩
theorem RtC.alloc {W : World} (h : RtC W) (o : Obj) : RtC (W.alloc o) := ⟨h.1.alloc o, h.2.alloc o⟩
def bvC (l : List Int) : List (BitVec 8) := l.map (BitVec.ofInt 8)
theorem bvC_len (l : List Int) : (bvC l).length = l.length := by simp [bvC]
theorem Y_ofC {z : Int} (h0 : 0 ≤ z) (h1 : z < 256) : K.Y (BitVec.ofInt 8 z) = z := by
  rw [K.Y_eq, BitVec.toNat_ofInt]
  omega
theorem bvC_Y {l : List Int} (h : Bys l) {i : Nat} (hi : i < l.length) : K.Y ((bvC l).getD i 0) = l.getD i 0 := by
  have hm := h (l[i]) (List.getElem_mem hi)
  rw [bvC, List.getD, List.getElem?_map, List.getElem?_eq_getElem hi, List.getD, List.getElem?_eq_getElem hi]
  exact Y_ofC hm.1 hm.2
theorem bvC_app (a b : List Int) : bvC (a ++ b) = bvC a ++ bvC b := by simp [bvC]
/-- The digest of bytes. -/
noncomputable def kecC (l : List Int) : List Int := (K.hashL (K.finL 0 (K.absb (List.replicate 25 0) 0 (bvC l)) l.length)).map K.Y
theorem kecC_len (l : List Int) : (kecC l).length = 32 := by simp [kecC, K.hashL]
theorem digC (l : List Int) : K.digV 0 (bvC l) = .agg ((kecC l).map (Value.int .u8)).toArray := by
  rw [K.digV, kecC, bvC_len, List.map_map]
  rfl
/-- A part, by its numbers. -/
structure PtC where
  a : Option Addr
  b : Nat
  o : Nat
  c : Nat
  X : List Int
def PtC.k (p : PtC) : K.Part := ⟨p.a, p.b, p.o, p.c, bvC p.X⟩
def PtC.ok (W : World) (p : PtC) : Prop := Az p.a p.b p.o p.X ∧ p.X.length ≤ p.c ∧ Bys p.X ∧ Bz W p.b p.o p.X
def PtC.val (p : PtC) : Value := .slice p.a p.X.length p.c
theorem PtC.kval (p : PtC) : p.k.val = p.val := by rw [K.Part.val, PtC.val, PtC.k, bvC_len]
theorem PtC.kok {W : World} {p : PtC} (h : p.ok W) : p.k.ok W := by
  obtain ⟨h1, h2, h3, h4⟩ := h
  refine ⟨?_, by rw [PtC.k, bvC_len]; exact h2, fun i hi => ?_⟩
  · rcases h1 with e | e
    · left; show bvC p.X = []; rw [e]; rfl
    · exact .inr e
  · have hi' : i < p.X.length := by rw [← bvC_len p.X]; exact hi
    show W.cell? ⟨p.b, p.o + i, none⟩ = some (.int .u8 (K.Y ((bvC p.X).getD i 0)))
    rw [bvC_Y h3 hi']; exact h4 i hi'
def PtsC (W : World) (b o : Nat) : List PtC → Prop
  | [] => True
  | p :: ps => (W.cell? ⟨b, o, none⟩ = some p.val ∧ p.ok W) ∧ PtsC W b (o + 1) ps
theorem PtsC.at {W : World} {b : Nat} : ∀ {o : Nat} {ps : List PtC}, PtsC W b o ps → K.Prts W b o (ps.map PtC.k)
  | _, [], _ => fun i hi => absurd hi (Nat.not_lt_zero _)
  | o, p :: ps, h => fun i hi => by
    rw [PtsC] at h
    rcases i with _ | i
    · exact ⟨by show W.cell? ⟨b, o + 0, none⟩ = some p.k.val; rw [PtC.kval]; exact h.1.1, PtC.kok h.1.2⟩
    · have := PtsC.at h.2 i (by simpa using hi)
      rw [Nat.add_right_comm, Nat.add_assoc] at this
      simpa using this
theorem PtC.ok.keep {W W' : World} {p : PtC} (h : p.ok W) (B : Below W.heap.size W W') : p.ok W' := ⟨h.1, h.2.1, h.2.2.1, h.2.2.2.keep B⟩
def allC (ps : List PtC) : List Int := ps.flatMap (·.X)
theorem allC_cat : ∀ ps : List PtC, K.catX (ps.map PtC.k) = bvC (allC ps)
  | [] => rfl
  | p :: ps => by
    have h := allC_cat ps
    unfold K.catX allC at h ⊢
    rw [List.map_cons, List.flatMap_cons, List.flatMap_cons, h, bvC_app]
    rfl
theorem ksumC {ps : List PtC} {b o n c : Nat} (e : n = ps.length) (hl : (allC ps).length < 1073741824) (hn : ps.length ≤ 1000) (hc : ps.length ≤ c) (w : World) (hb : PtsC w b o ps) (hk : KtC w) :
    Calls Tryd.prog 11 #[.slice (some ⟨b, o, none⟩) n c] w fun e w' => e = .returned (.agg ((kecC (allC ps)).map (Value.int .u8)).toArray) ∧ Below w.heap.size w w' := by
  have h := K.sum_any (PS := ps.map PtC.k) (a := some ⟨b, o, none⟩) (bp := b) (op := o) (cp := c) (by rw [allC_cat, bvC_len]; exact hl) (by rw [List.length_map]; omega) (by rw [List.length_map]; exact hc) (.inr rfl) w hb.at hk.1 hk.2
  rw [List.length_map, allC_cat, digC] at h
  rw [e]; exact h
theorem rsumC {ps : List PtC} {b o n c : Nat} (e : n = ps.length) (hl : (allC ps).length < 1073741824) (hn : ps.length ≤ 1000) (hz : ∀ p ∈ ps, p.a = none → p.c = 0) (w : World) (hb : PtsC w b o ps) (hk : RtC w) :
    Calls Tryd.prog 16 #[.slice (some ⟨b, o, none⟩) n c] w fun e w' => e = .returned (.agg ((kecC (allC ps)).map (Value.int .u8)).toArray) ∧ Below w.heap.size w w' := by
  have h := K.rsum_any (PS := ps.map PtC.k) (a := some ⟨b, o, none⟩) (bp := b) (op := o) (cp := c) (by rw [allC_cat, bvC_len]; exact hl) (by rw [List.length_map]; omega) (.inr rfl) (fun p hp => by
    obtain ⟨q, hq, rfl⟩ := List.mem_map.1 hp
    exact hz q hq) w hb.at hk.1 hk.2
  rw [List.length_map, allC_cat, digC] at h
  rw [e]; exact h
end Go.Proofs.YtkbmonlbgnnjlaaDoor

/- Layer 14: what is signed of an authorization, as numbers. -/
namespace Go.Proofs.YtkbmonlbgnnjlaaDoor
open Go.RowKit Go.Sort
def autT (C A N : List Int) : Tr := .mk true [] [.mk false C [], .mk false A [], .mk false N []]
theorem autT_err {C A N : List Int} : errT (autT C A N) = 0 := by
  unfold errT autT
  rw [oddT, oddS, oddS, oddS, oddS, oddT, oddT, oddT, oddS, dpT, dpS, dpS, dpS, dpS, dpT, dpT, dpT]
  simp [odd1]
theorem autT_wt {C A N : List Int} : wtT (autT C A N) = 4 + C.length + A.length + N.length := by
  unfold autT
  rw [wtT, wtS, wtS, wtS, wtS, wtT, wtT, wtT, wtS]
  simp; omega
theorem autT_by {C A N : List Int} (hC : Bys C) (hA : Bys A) (hN : Bys N) : ByT (autT C A N) := by
  unfold autT
  rw [ByT, ByS, ByS, ByS, ByS, ByT, ByT, ByT, ByS]
  exact ⟨fun x hx => (by simp at hx), ⟨hC, trivial⟩, ⟨hA, trivial⟩, ⟨hN, trivial⟩, trivial⟩
theorem putL_byX (n : Int) : Bys (putL n) := fun z hz => by
  obtain ⟨t, _, rfl⟩ := List.mem_map.1 hz
  exact ⟨Int.emod_nonneg _ (by decide), Int.emod_lt_of_pos _ (by decide)⟩
theorem Bys.stripX : ∀ {l : List Int}, Bys l → Bys (stripL l)
  | [], h => h
  | x :: xs, h => by
    rw [stripL]
    split
    · exact Bys.stripX fun y hy => h y (List.mem_cons_of_mem _ hy)
    · exact h
/-- The text of an authorization's chain, address and nonce. -/
def autX (c : Int) (A : List Int) (n : Int) : List Int := encT (autT (stripL (putL c)) A (stripL (putL n)))
theorem autX_len {c : Int} {A : List Int} {n : Int} (hA : A.length = 20) : wtT (autT (stripL (putL c)) A (stripL (putL n))) ≤ 88 := by
  have h := strip_len (putL n) (k := 32) (by rw [putL_len]; exact Nat.le_refl _)
  have h2 := strip_len (putL c) (k := 32) (by rw [putL_len]; exact Nat.le_refl _)
  rw [autT_wt]; omega
theorem encZ_aut {C A N : List Int} : encZ (autT C A N) = encT (autT C A N) := by rw [encZ, if_pos autT_err]
theorem autX_wt {c : Int} {A : List Int} {n : Int} (hA : A.length = 20) : (autX c A n).length ≤ 1000 := by
  have h := autX_len (c := c) (n := n) hA
  have h2 := encT_len (autT (stripL (putL c)) A (stripL (putL n)))
  rw [autX]; omega
theorem autX_by {c : Int} {A : List Int} {n : Int} (hA : A.length = 20) (hB : Bys A) : Bys (autX c A n) := encT_bys _ (autT_by (putL_byX c).stripX hB ((putL_byX n).stripX)) (by have := autX_len (c := c) (n := n) hA; omega)
theorem its3 {W : World} {t0 t1 t2 : Tr} {d0 q0 d1 q1 d2 q2 : Value} {ty : TypeId} (h0 : It W t0 d0 q0) (h1 : It W t1 d1 q1) (h2 : It W t2 d2 q2) : Its (W.alloc (.cells #[.bool t0.l, d0, q0, .bool t1.l, d1, q1, .bool t2.l, d2, q2] ty)) W.heap.size 0 [t0, t1, t2] := by
  have B : Below W.heap.size W (W.alloc (.cells #[.bool t0.l, d0, q0, .bool t1.l, d1, q1, .bool t2.l, d2, q2] ty)) := (Below.refl _ _).alloc (Nat.le_refl _) _
  have r := rangeBox (W := W) (M := [.bool t0.l, d0, q0, .bool t1.l, d1, q1, .bool t2.l, d2, q2]) (t := ty)
  rw [Its, Its, Its, Its]
  refine ⟨⟨d0, q0, fun j v hv => ?_, It.keep B _ h0⟩, ⟨d1, q1, fun j v hv => ?_, It.keep B _ h1⟩, ⟨d2, q2, fun j v hv => ?_, It.keep B _ h2⟩, trivial⟩
  · match j, hv with
    | 0, hv => exact r 0 v hv
    | 1, hv => exact r 1 v hv
    | 2, hv => exact r 2 v hv
    | j + 3, hv => simp at hv
  · match j, hv with
    | 0, hv => exact r 3 v hv
    | 1, hv => exact r 4 v hv
    | 2, hv => exact r 5 v hv
    | j + 3, hv => simp at hv
  · match j, hv with
    | 0, hv => exact r 6 v hv
    | 1, hv => exact r 7 v hv
    | 2, hv => exact r 8 v hv
    | j + 3, hv => simp at hv
/-- An authorization's cells: chain, address, nonce, parity and the two numbers of the signature. -/
def auM (c : Int) (A : List Int) (n p r s : Int) : List Value :=
  [.int .u64 (l0 c), .int .u64 (l1 c), .int .u64 (l2 c), .int .u64 (l3 c)] ++ (A.map (Value.int .u8) ++ [.int .u64 n, .int .u64 p, .int .u64 (l0 r), .int .u64 (l1 r), .int .u64 (l2 r), .int .u64 (l3 r), .int .u64 (l0 s), .int .u64 (l1 s), .int .u64 (l2 s), .int .u64 (l3 s)])
theorem auM_len {c : Int} {A : List Int} {n p r s : Int} (hA : A.length = 20) : (auM c A n p r s).length = 34 := by simp [auM, hA]
/-- An authorization in a block. -/
structure Au (W : World) (b : Nat) (c : Int) (A : List Int) (n : Int) : Prop where
  num : W.cell? ⟨b, 0, none⟩ = some (.int .u64 (l0 c)) ∧ W.cell? ⟨b, 1, none⟩ = some (.int .u64 (l1 c)) ∧ W.cell? ⟨b, 2, none⟩ = some (.int .u64 (l2 c)) ∧ W.cell? ⟨b, 3, none⟩ = some (.int .u64 (l3 c))
  adr : Bz W b 4 A
  non : W.cell? ⟨b, 24, none⟩ = some (.int .u64 n)
theorem Au.of {W : World} {b : Nat} {c : Int} {A : List Int} {n p r s : Int} (hA : A.length = 20) (h : W.rangeAt b 0 (auM c A n p r s)) : Au W b c A n := by
  refine ⟨⟨?_, ?_, ?_, ?_⟩, fun i hi => ?_, ?_⟩
  · simpa using h 0 _ (by simp [auM])
  · simpa using h 1 _ (by simp [auM])
  · simpa using h 2 _ (by simp [auM])
  · simpa using h 3 _ (by simp [auM])
  · have := h (4 + i) (.int .u8 (A.getD i 0)) (by
      unfold auM
      rw [List.getElem?_append_right (by simp)]
      simp only [List.length_cons, List.length_nil]
      rw [show 4 + i - (0 + 1 + 1 + 1 + 1) = i by omega, List.getElem?_append_left (by simp; exact hi), List.getElem?_map, List.getElem?_eq_getElem hi]
      simp [List.getD, hi])
    simpa using this
  · have := h 24 (.int .u64 n) (by
      unfold auM
      rw [List.getElem?_append_right (by simp)]
      simp only [List.length_cons, List.length_nil]
      rw [List.getElem?_append_right (by simp [hA])]
      simp [hA])
    simpa using this
theorem Au.keep {W W' : World} {b : Nat} {c : Int} {A : List Int} {n : Int} (h : Au W b c A n) (B : Below W.heap.size W W') : Au W' b c A n :=
  ⟨⟨cell_keep B h.num.1, cell_keep B h.num.2.1, cell_keep B h.num.2.2.1, cell_keep B h.num.2.2.2⟩, h.adr.keep B, cell_keep B h.non⟩
end Go.Proofs.YtkbmonlbgnnjlaaDoor
