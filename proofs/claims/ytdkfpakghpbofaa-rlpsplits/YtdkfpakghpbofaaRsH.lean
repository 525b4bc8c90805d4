import Derived.Test.YtdkfpakghpbofaaRsG
import Derived.Test.YtdkfpakghpbofaaUbD
/- Layer 7: bytes.Clone. -/
namespace Go.Proofs.Ytdkfpakghpbofaa
open Go.RowKit Go.Sort
set_option maxRecDepth 100000 in
set_option maxHeartbeats 4000000 in
theorem bclone_any {b o c : Nat} {X : List Int} (hl : X.length < 140737488355000) (w : World) (hz : Bz w b o X) :
    Calls Try.prog 14 #[.slice (some ⟨b, o, none⟩) X.length c] w fun e w' => ∃ v, e = .returned v ∧ OwnB w.heap.size w' v X ∧ v ≠ .slice none 0 0 ∧ Below w.heap.size w w' := by
  obtain ⟨i0, hi, hz0, hz1, hz2⟩ := info_parts info_byte
  have sl := sl_some
  have HA : Hid (X.length < 140737488355000 ∧ Bz w b o X) := ⟨hl, hz⟩
  obtain ⟨n, en⟩ : ∃ n, n = X.length := ⟨_, rfl⟩
  rw [← en]
  have EN : Hid (X.length = n) := en.symm
  clear en hl hz
  go_enter Try.func14, Try.ntmps14
  go_wp2_with (at_builtin; go_loud (refine wpList_append_own_at _ rfl _ _ 22 rfl w.heap.size 5 i0 (.int .u8 0) 1 1 Try.underlying22 hi hz0 hz1 hz2 rfl (by decide) _ 0 [] rfl (own_mt _ _ (Nat.le_refl _)).row ⟨b, o, none⟩ n c (X.map (Value.int .u8)) rfl (by rw [List.length_map, EN.out, Nat.mul_one]) (fun j u hu => src_bz (HA.out.2.keep ((Below.refl _ _).alloc (Nat.le_refl _) _)) j u hu) (fun u hu => by obtain ⟨y, _, rfl⟩ := List.mem_map.1 hu; rfl) (by unfold maxLen; have := HA.out.1; have := EN.out; omega) (by have := HA.out.1; have := EN.out; omega) (by simp) ?_); intro v' w3 hown' hgrow3 hnil3 hblk)
  go_ret
  refine ⟨_, rfl, ?_, ?_, ((Below.refl _ _).alloc (Nat.le_refl _) _).grown hgrow3 (by simp) (fun k hk => by have e : w.heap.size = k := Option.some.inj hk; omega)⟩
  · rw [OwnB, EN.out]
    simpa using hown'
  · intro e
    have q : Value.slice (some ⟨w.heap.size, 0, none⟩) 0 0 = Value.slice none 0 0 := (hnil3.1 e).1
    cases q
end Go.Proofs.Ytdkfpakghpbofaa

/- Layer 7: Split. -/
namespace Go.Proofs.Ytdkfpakghpbofaa
open Go.RowKit Go.Sort
set_option maxRecDepth 100000 in
set_option maxHeartbeats 4000000 in
theorem split_err {a : Option Addr} {m c : Nat} {l : Bool} {s h e0 : Int} (he : e0 ≠ 0) (w : World)
    (FH : Hid (∀ w1, Below w.heap.size w w1 → Calls Try.prog 13 #[.slice a m c] w1 fun e w' => e = .returned (.tuple #[.agg #[.bool l, .int .i64 s, .int .i64 h], .int .i64 e0]) ∧ Below w1.heap.size w1 w')) :
    Calls Try.prog 5 #[.slice a m c] w fun e w' => e = .returned (.tuple #[.bool false, .slice none 0 0, .slice none 0 0, .int .i64 e0]) ∧ Below w.heap.size w w' := by
  have b6 : (e0 == 0) = false := beq_false_of_ne he
  have b7 : (e0 != 0) = true := bne_iff_ne.2 he
  go_enter Try.func5, Try.ntmps5
  go_wp2_with fail
  with_reducible refine (FH.out w (Below.refl _ _)).mono ?_
  rintro e w1 ⟨rfl, B⟩
  clear FH
  go_wp2
  simp [bodyPost, results, Try.results5, go_sem]
  exact B.alloc B.size _
/-- Where a slice of a slice begins: at the end of its room it stays where it was. -/
def atO (o c p : Nat) : Nat := if c = p then o else o + p
end Go.Proofs.Ytdkfpakghpbofaa

/- Layer 1: Get, Strict of any list; '==' of 32 bytes. -/
namespace Go.Proofs.Ytdkfpakghpbofaa
open Go.RowKit Go.Sort

def gv (X : List Int) : Int := if X.length ≤ 32 then sufN X X.length else 0
def se (X : List Int) : Int := if X.length ≤ 32 then (if X ≠ [] ∧ X.getD 0 0 = 0 then 13 else 0) else 11
theorem Bts.bz {W : World} {b : Nat} {l : List Int} (h : Bts W b l) : Bz W b 0 l := fun i hi => by rw [Nat.zero_add]; exact h.1 i hi
end Go.Proofs.Ytdkfpakghpbofaa
