import Derived.Test.YtmhcgjkemlcgoaaDoorAdLast
import Derived.Test.YtmhcgjkemlcgoaaDoorKBigR
import Derived.Test.YtmhcgjkemlcgoaaDoorUbA
/- The digest of bytes, of any parts, of great texts too. -/
namespace Go.Proofs.YtmhcgjkemlcgoaaDoor
open Go.RowKit Go.Sort
def KtC (W : World) : Prop := K.Tab W 6 K.turnsN ∧ K.Lns W 2 K.marksN
theorem KtC.keep {W w1 : World} (h : KtC W) (hb : Below W.heap.size W w1) : KtC w1 := ⟨h.1.keep hb, h.2.keep hb⟩
theorem KtC.alloc {W : World} (h : KtC W) (o : Obj) : KtC (W.alloc o) := ⟨h.1.alloc o, h.2.alloc o⟩
def RtC (W : World) : Prop := K.Tab W 3 K.turnsN ∧ K.Lns W 0 K.marksN
theorem RtC.keep {W w1 : World} (h : RtC W) (hb : Below W.heap.size W w1) : RtC w1 := ⟨h.1.keep hb, h.2.keep hb⟩
theorem RtC.alloc {W : World} (h : RtC W) (o : Obj) : RtC (W.alloc o) := ⟨h.1.alloc o, h.2.alloc o⟩
def bvC (l : List Int) : List (BitVec 8) := l.map (BitVec.ofInt 8)
theorem bvC_len (l : List Int) : (bvC l).length = l.length := by simp [bvC]
theorem Y_ofC {z : Int} (h0 : 0 ≤ z) (h1 : z < 256) : K.Y (BitVec.ofInt 8 z) = z := by
  rw [K.Y_eq, BitVec.toNat_ofInt]
  omega
theorem bvC_Y {l : List Int} (h : Bys l) {i : Nat} (hi : i < l.length) : K.Y ((bvC l).getD i 0) = l.getD i 0 := by
  have hm := h (l[i]) (List.getElem_mem hi)
  rw [bvC, List.getD, List.getElem?_map, List.getElem?_eq_getElem hi, List.getD, List.getElem?_eq_getElem hi]
  exact Y_ofC hm.1 hm.2
theorem bvC_app (a b : List Int) : bvC (a ++ b) = bvC a ++ bvC b := by simp [bvC]
/-- The digest of bytes. -/
noncomputable def kecC (l : List Int) : List Int := (K.hashL (K.finL 0 (K.absb (List.replicate 25 0) 0 (bvC l)) l.length)).map K.Y
theorem kecC_len (l : List Int) : (kecC l).length = 32 := by simp [kecC, K.hashL]
theorem digC (l : List Int) : K.digV 0 (bvC l) = .agg ((kecC l).map (Value.int .u8)).toArray := by
  rw [K.digV, kecC, bvC_len, List.map_map]
  rfl
/-- A part, by its numbers. -/
structure PtC where
  a : Option Addr
  b : Nat
  o : Nat
  c : Nat
  X : List Int
def PtC.k (p : PtC) : K.Part := ⟨p.a, p.b, p.o, p.c, bvC p.X⟩
def PtC.ok (W : World) (p : PtC) : Prop := Az p.a p.b p.o p.X ∧ p.X.length ≤ p.c ∧ Bys p.X ∧ Bz W p.b p.o p.X
def PtC.val (p : PtC) : Value := .slice p.a p.X.length p.c
theorem PtC.kval (p : PtC) : p.k.val = p.val := by rw [K.Part.val, PtC.val, PtC.k, bvC_len]
theorem PtC.kok {W : World} {p : PtC} (h : p.ok W) : p.k.ok W := by
  obtain ⟨h1, h2, h3, h4⟩ := h
  refine ⟨?_, by rw [PtC.k, bvC_len]; exact h2, fun i hi => ?_⟩
  · rcases h1 with e | e
    · left; show bvC p.X = []; rw [e]; rfl
    · exact .inr e
  · have hi' : i < p.X.length := by rw [← bvC_len p.X]; exact hi
    show W.cell? ⟨p.b, p.o + i, none⟩ = some (.int .u8 (K.Y ((bvC p.X).getD i 0)))
    rw [bvC_Y h3 hi']; exact h4 i hi'
def PtsC (W : World) (b o : Nat) : List PtC → Prop
  | [] => True
  | p :: ps => (W.cell? ⟨b, o, none⟩ = some p.val ∧ p.ok W) ∧ PtsC W b (o + 1) ps
theorem PtsC.at {W : World} {b : Nat} : ∀ {o : Nat} {ps : List PtC}, PtsC W b o ps → K.Prts W b o (ps.map PtC.k)
  | _, [], _ => fun i hi => absurd hi (Nat.not_lt_zero _)
  | o, p :: ps, h => fun i hi => by
    rw [PtsC] at h
    rcases i with _ | i
    · exact ⟨by show W.cell? ⟨b, o + 0, none⟩ = some p.k.val; rw [PtC.kval]; exact h.1.1, PtC.kok h.1.2⟩
    · have := PtsC.at h.2 i (by simpa using hi)
      rw [Nat.add_right_comm, Nat.add_assoc] at this
      simpa using this
theorem PtC.ok.keep {W W' : World} {p : PtC} (h : p.ok W) (B : Below W.heap.size W W') : p.ok W' := ⟨h.1, h.2.1, h.2.2.1, h.2.2.2.keep B⟩
theorem ptsC_four {W : World} {p q r s : PtC} {ty : TypeId} (h1 : p.ok W) (h2 : q.ok W) (h3 : r.ok W) (h4 : s.ok W) : PtsC (W.alloc (.cells #[p.val, q.val, r.val, s.val] ty)) W.heap.size 0 [p, q, r, s] := by
  have B : Below W.heap.size W (W.alloc (.cells #[p.val, q.val, r.val, s.val] ty)) := (Below.refl _ _).alloc (Nat.le_refl _) _
  have R := rangeBox (W := W) (M := [p.val, q.val, r.val, s.val]) (t := ty)
  rw [PtsC, PtsC, PtsC, PtsC, PtsC]
  exact ⟨⟨R 0 _ rfl, h1.keep B⟩, ⟨R 1 _ rfl, h2.keep B⟩, ⟨R 2 _ rfl, h3.keep B⟩, ⟨R 3 _ rfl, h4.keep B⟩, trivial⟩
def allC (ps : List PtC) : List Int := ps.flatMap (·.X)
theorem allC_cat : ∀ ps : List PtC, K.catX (ps.map PtC.k) = bvC (allC ps)
  | [] => rfl
  | p :: ps => by
    have h := allC_cat ps
    unfold K.catX allC at h ⊢
    rw [List.map_cons, List.flatMap_cons, List.flatMap_cons, h, bvC_app]
    rfl
theorem ksumC {ps : List PtC} {b o n c : Nat} (e : n = ps.length) (hl : (allC ps).length < 140737488355328) (hn : ps.length ≤ 1000) (hc : ps.length ≤ c) (w : World) (hb : PtsC w b o ps) (hk : KtC w) :
    Calls Tryd.prog 12 #[.slice (some ⟨b, o, none⟩) n c] w fun e w' => e = .returned (.agg ((kecC (allC ps)).map (Value.int .u8)).toArray) ∧ Below w.heap.size w w' := by
  have h := K.sum_big (PS := ps.map PtC.k) (a := some ⟨b, o, none⟩) (bp := b) (op := o) (cp := c) (by rw [allC_cat, bvC_len]; exact hl) (by rw [List.length_map]; omega) (by rw [List.length_map]; exact hc) (.inr rfl) w hb.at hk.1 hk.2
  rw [List.length_map, allC_cat, digC] at h
  rw [e]; exact h
theorem rsumC {ps : List PtC} {b o n c : Nat} (e : n = ps.length) (hl : (allC ps).length < 140737488353001) (hn : ps.length ≤ 1000) (hz : ∀ p ∈ ps, p.a = none → p.c = 0) (w : World) (hb : PtsC w b o ps) (hk : RtC w) :
    Calls Tryd.prog 15 #[.slice (some ⟨b, o, none⟩) n c] w fun e w' => e = .returned (.agg ((kecC (allC ps)).map (Value.int .u8)).toArray) ∧ Below w.heap.size w w' := by
  have h := K.rsum_any_big (PS := ps.map PtC.k) (a := some ⟨b, o, none⟩) (bp := b) (op := o) (cp := c) (by rw [allC_cat, bvC_len]; exact hl) (by rw [List.length_map]; omega) (.inr rfl) (fun p hp => by
    obtain ⟨q, hq, rfl⟩ := List.mem_map.1 hp
    exact hz q hq) w hb.at hk.1 hk.2
  rw [List.length_map, allC_cat, digC] at h
  rw [e]; exact h
end Go.Proofs.YtmhcgjkemlcgoaaDoor
