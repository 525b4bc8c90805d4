import Derived.Test.YtahekhamhdfkdaaRsE
import Derived.Test.YtahekhamhdfkdaaUbA
import Derived.Deep.RegionHeld
/- Layer 7: firstHead. -/
namespace Go.Proofs.Ytahekhamhdfkdaa
open Go.RowKit Go.Sort
set_option maxRecDepth 100000 in
set_option maxHeartbeats 8000000 in
theorem fh_long {a : Option Addr} {m c : Nat} (hm : 16777216 < m) (w : World) :
    Calls Try.prog 37 #[.slice a m c] w fun e w' => e = .returned (.tuple #[.agg #[.bool false, .int .i64 0, .int .i64 0], .int .i64 2]) ∧ Below w.heap.size w w' := by
  have h1 : (16777216 : Int) < (m : Int) := by omega
  go_enter Try.func37, Try.ntmps37
  refine wp_seq_k fun K h => ?_
  have H : Hid _ := h
  clear h
  go_wp2_with fail
  refine H.out _ _ ?_
  clear H K
  refine wp_world (fun W => Below w.heap.size w W ∧ Hb W w.heap.size false 0 0 ∧ Fr3 W w.heap.size) ⟨(Below.refl _ _).alloc (Nat.le_refl _) _, Hb.new, Fr3.new⟩ ?_
  rintro W ⟨B, hR, hF⟩
  obtain ⟨r0, r1, r2⟩ := id hR
  obtain ⟨z0, z1, z2⟩ := id hF
  have o3 : w.heap.size ≤ w.heap.size := Nat.le_refl _
  go_wp2
  all_goals simp [bodyPost, results, Try.results37, go_sem, *]
  all_goals repeat (first | with_reducible exact B | with_reducible refine Below.setCell ?_ o3 _)
set_option maxRecDepth 100000 in
set_option maxHeartbeats 8000000 in
theorem fh_short {a : Option Addr} {m c : Nat} {l : Bool} {s h e0 : Int} (hm : m ≤ 16777216) (w : World)
    (RH : Hid (∀ w1, Below w.heap.size w w1 → Calls Try.prog 32 #[.slice a m c] w1 fun e w' => e = .returned (.tuple #[.agg #[.bool l, .int .i64 s, .int .i64 h], .int .i64 e0]) ∧ Below w1.heap.size w1 w')) :
    Calls Try.prog 37 #[.slice a m c] w fun e w' => e = .returned (.tuple #[.agg #[.bool l, .int .i64 s, .int .i64 h], .int .i64 e0]) ∧ Below w.heap.size w w' := by
  have h1 : ¬ (16777216 : Int) < (m : Int) := by omega
  go_enter Try.func37, Try.ntmps37
  refine wp_seq_k fun K h => ?_
  have H : Hid _ := h
  clear h
  go_wp2_with fail
  refine H.out _ _ ?_
  clear H K
  refine wp_world (fun W => Below w.heap.size w W ∧ Hb W w.heap.size false 0 0 ∧ Fr3 W w.heap.size) ⟨(Below.refl _ _).alloc (Nat.le_refl _) _, Hb.new, Fr3.new⟩ ?_
  rintro W ⟨B, hR, hF⟩
  refine wp_seq_k fun K h => ?_
  have H : Hid _ := h
  clear h
  go_wp2_with fail
  refine H.out _ _ ?_
  clear H K
  go_wp2_with fail
  with_reducible refine (RH.out W B).mono ?_
  rintro e w1 ⟨rfl, hb⟩
  replace B := B.trans (hb.mono B.size)
  replace hF := hF.keep hR.lt hb
  replace hR := hR.keep hb
  clear hb RH
  obtain ⟨r0, r1, r2⟩ := id hR
  obtain ⟨z0, z1, z2⟩ := id hF
  have o3 : w.heap.size ≤ w.heap.size := Nat.le_refl _
  go_wp2
  all_goals simp [bodyPost, results, Try.results37, go_sem, *]
  all_goals repeat (first | with_reducible exact B | with_reducible refine Below.setCell ?_ o3 _)
end Go.Proofs.Ytahekhamhdfkdaa

/- Layer 7: bytes.Clone. -/
namespace Go.Proofs.Ytahekhamhdfkdaa
open Go.RowKit Go.Sort
set_option maxRecDepth 100000 in
set_option maxHeartbeats 4000000 in
theorem bclone_any {b o c : Nat} {X : List Int} (hl : X.length < 140737488355000) (w : World) (hz : Bz w b o X) :
    Calls Try.prog 33 #[.slice (some ⟨b, o, none⟩) X.length c] w fun e w' => ∃ v, e = .returned v ∧ OwnB w.heap.size w' v X ∧ v ≠ .slice none 0 0 ∧ Below w.heap.size w w' := by
  obtain ⟨i0, hi, hz0, hz1, hz2⟩ := info_parts info_byte
  have sl := sl_some
  have HA : Hid (X.length < 140737488355000 ∧ Bz w b o X) := ⟨hl, hz⟩
  obtain ⟨n, en⟩ : ∃ n, n = X.length := ⟨_, rfl⟩
  rw [← en]
  have EN : Hid (X.length = n) := en.symm
  clear en hl hz
  go_enter Try.func33, Try.ntmps33
  go_wp2_with (at_builtin; go_loud (refine wpList_append_own_at _ rfl _ _ 22 rfl w.heap.size 5 i0 (.int .u8 0) 1 1 Try.underlying22 hi hz0 hz1 hz2 rfl (by decide) _ 0 [] rfl (own_mt _ _ (Nat.le_refl _)).row ⟨b, o, none⟩ n c (X.map (Value.int .u8)) rfl (by rw [List.length_map, EN.out, Nat.mul_one]) (fun j u hu => src_bz (HA.out.2.keep ((Below.refl _ _).alloc (Nat.le_refl _) _)) j u hu) (fun u hu => by obtain ⟨y, _, rfl⟩ := List.mem_map.1 hu; rfl) (by unfold maxLen; have := HA.out.1; have := EN.out; omega) (by have := HA.out.1; have := EN.out; omega) (by simp) ?_); intro v' w3 hown' hgrow3 hnil3 hblk)
  go_ret
  refine ⟨_, rfl, ?_, ?_, ((Below.refl _ _).alloc (Nat.le_refl _) _).grown hgrow3 (by simp) (fun k hk => by have e : w.heap.size = k := Option.some.inj hk; omega)⟩
  · rw [OwnB, EN.out]
    simpa using hown'
  · intro e
    have q : Value.slice (some ⟨w.heap.size, 0, none⟩) 0 0 = Value.slice none 0 0 := (hnil3.1 e).1
    cases q
end Go.Proofs.Ytahekhamhdfkdaa

/- Layer 7: Split. -/
namespace Go.Proofs.Ytahekhamhdfkdaa
open Go.RowKit Go.Sort
/-- Where a slice of a slice begins: at the end of its room it stays where it was. -/
def atO (o c p : Nat) : Nat := if c = p then o else o + p
end Go.Proofs.Ytahekhamhdfkdaa

/- Layer 1: Get of the document and roomy, of any list. -/
namespace Go.Proofs.Ytahekhamhdfkdaa
open Go.RowKit Go.Sort

end Go.Proofs.Ytahekhamhdfkdaa

/- Layer 1: Get, Strict of any list; '==' of 32 bytes. -/
namespace Go.Proofs.Ytahekhamhdfkdaa
open Go.RowKit Go.Sort

def gv (X : List Int) : Int := if X.length ≤ 32 then sufN X X.length else 0
def sv (X : List Int) : Int := if X.length ≤ 32 then (if X ≠ [] ∧ X.getD 0 0 = 0 then 0 else sufN X X.length) else 0
theorem Bts.bz {W : World} {b : Nat} {l : List Int} (h : Bts W b l) : Bz W b 0 l := fun i hi => by rw [Nat.zero_add]; exact h.1 i hi
end Go.Proofs.Ytahekhamhdfkdaa

/- Layer 7: Split of a head that is taken. -/
namespace Go.Proofs.Ytahekhamhdfkdaa
open Go.RowKit Go.Sort
theorem wpAnyH_takeD {P : Program} {md : Region.Mode} {ops : Array Oper} {Q : Exit → Act → World → Prop} {S : World → Prop} {i : Nat} {oi : Oper} {v : Value} {fuel : Nat} {listed : Array Bool} {a : Act} {w : World} (d : Nat) (hi : ops[i]? = some oi) (hd : oi.dst = some d)
    (hs : Region.noSelect ops = true) (hf : Region.free md ops listed i = true) (hr : (Region.ready md ops listed).contains i = true)
    (hQ : ∀ c a w, Q (.panic c) (a.put oi.dst v) w → Q (.panic c) a w) (hy : YieldsIf P ops S oi v a) (hS : S w)
    (h : wpAnyH P md ops Q S fuel (listed.setIfInBounds i true) (a.put (some d) v) w) : wpAnyH P md ops Q S (fuel + 1) listed a w :=
  wpAnyH_take hi hs hf hr hQ hy hS (by rw [hd]; exact h)
theorem bz_part {w : World} {b o : Nat} {A : List Int} (h : Bz w b o A) {c p q : Nat} (hq : p + q ≤ A.length) (hc : A.length ≤ c) : Bz w b (atO o c p) ((A.drop p).take q) := by
  unfold atO
  by_cases k : c = p
  · intro i hi
    rw [List.length_take, List.length_drop] at hi
    omega
  · rw [if_neg k]
    intro i hi
    rw [List.length_take, List.length_drop] at hi
    have e : ((A.drop p).take q).getD i 0 = A.getD (p + i) 0 := by
      rw [List.getD, List.getElem?_take, if_pos (by omega), List.getElem?_drop]; rfl
    rw [e, Nat.add_assoc]
    exact h (p + i) (by omega)
theorem bz_rest {w : World} {b o : Nat} {A : List Int} (h : Bz w b o A) {c p : Nat} (hq : p ≤ A.length) (hc : A.length ≤ c) : Bz w b (atO o c p) (A.drop p) := by
  have r := bz_part h (p := p) (q := A.length - p) (by omega) hc
  have e : (A.drop p).take (A.length - p) = A.drop p := List.take_of_length_le (by rw [List.length_drop]; exact Nat.le_refl _)
  rwa [e] at r
end Go.Proofs.Ytahekhamhdfkdaa

/- Layer 7: Split of any bytes. -/
namespace Go.Proofs.Ytahekhamhdfkdaa
open Go.RowKit Go.Sort
theorem fin7_fits {A : List Int} {l : Bool} {s h : Nat} (e : (fin7 A l s h).2.2.2 = 0) : fin7 A l s h = (l, s, h, 0) ∧ s + h ≤ A.length := by
  unfold fin7 at e ⊢
  by_cases k : A.length < s + h
  · rw [if_pos k] at e; simp at e
  · rw [if_neg k] at e ⊢
    by_cases k2 : l = false ∧ bareB ((A.drop s).take h) = true
    · rw [if_pos k2] at e; simp at e
    · rw [if_neg k2]; exact ⟨rfl, by omega⟩
theorem hdP_fits {A : List Int} (e : (hdP A).2.2.2 = 0) : 1 ≤ A.length ∧ (hdP A).2.1 + (hdP A).2.2.1 ≤ A.length ∧ 1 ≤ (hdP A).2.1 + (hdP A).2.2.1 := by
  unfold hdP at e ⊢
  by_cases k0 : A.length = 0
  · rw [if_pos k0] at e; simp at e
  rw [if_neg k0] at e ⊢
  by_cases k1 : A.getD 0 0 < 128
  · rw [if_pos k1]; simp; omega
  rw [if_neg k1] at e ⊢
  by_cases k2 : A.getD 0 0 % 64 ≤ 55
  · rw [if_pos k2] at e ⊢
    obtain ⟨q, r⟩ := fin7_fits e
    rw [q]; exact ⟨by omega, r, by show 1 ≤ 1 + _; omega⟩
  rw [if_neg k2] at e ⊢
  by_cases k3 : A.length - 1 < (A.getD 0 0 % 64).toNat - 55
  · rw [if_pos k3] at e; simp at e
  rw [if_neg k3] at e ⊢
  by_cases k4 : (A.drop 1).getD 0 0 = 0 ∨ lenQ (A.drop 1) ((A.getD 0 0 % 64).toNat - 55) ≤ 55
  · rw [if_pos k4] at e; simp at e
  rw [if_neg k4] at e ⊢
  obtain ⟨q, r⟩ := fin7_fits e
  rw [q]; exact ⟨by omega, r, by show 1 ≤ 1 + _ + _; omega⟩
theorem fh_all {A : List Int} {a : Option Addr} {b o c : Nat} (hA : Byts A) (hl : A.length ≤ 16777216) (hc : A.length ≤ c) (ha : Az a b o A) (w : World) (h : Bz w b o A) :
    Calls Try.prog 37 #[.slice a A.length c] w fun e w' => e = .returned (.tuple #[.agg #[.bool (hdP A).1, .int .i64 ((hdP A).2.1 : Int), .int .i64 ((hdP A).2.2.1 : Int)], .int .i64 (hdP A).2.2.2]) ∧ Below w.heap.size w w' :=
  fh_short hl w (fun w1 B => rh_all hA hl hc ha w1 (h.keep B))
end Go.Proofs.Ytahekhamhdfkdaa
