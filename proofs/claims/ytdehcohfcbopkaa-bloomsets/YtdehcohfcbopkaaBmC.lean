import Derived.Test.YtdehcohfcbopkaaBmB
/- BloomMakes. -/
namespace Go.Proofs.Ytdehcohfcbopkaa
open Go.RowKit Go.Sort

/-- '==' of two filters. -/
theorem eq_bloom {X Zs : List (BitVec 8)} (hx : X.length = 256) (hy : Zs.length = 256) (w : World) : (Op.equalIn 10000 24 (.agg (byts X).toArray) (.agg (byts Zs).toArray)).run Try.prog w = .ok (decide (X = Zs)) w := by
  rw [show (10000 : Nat) = 9999 + 1 from rfl, Op.equalIn]
  have tz : (sizeOf 5).run Try.prog w = .ok 1 w := by have := Try.sizeOf5; simp [go_sem, this]
  simp only [Sem.run_bind, run_underlying Try.underlying24, Result.andThen_ok, tz]
  simp only [Std.Legacy.Range.forIn_eq_forIn_range', Std.Legacy.Range.size, Nat.sub_zero, Nat.add_sub_cancel, Nat.div_one]
  have h := eq_loop8 (X := X) (Zs := Zs) w 256 0 (by omega) (by omega)
  rw [h, same8_iff hx hy]
  by_cases e : X = Zs <;> simp [e]

set_option maxRecDepth 100000 in
set_option maxHeartbeats 4000000 in
theorem equal_yes {a a' : Option Addr} {b o c b' o' c' : Nat} {L : List Int} (hn : L.length < 70368744177664) (ha : AtI a b o L) (ha' : AtI a' b' o' L) (w : World) (hL : Ixs w b o L) (hL' : Ixs w b' o' L) :
    Calls Try.prog 12 #[.slice a L.length c, .slice a' L.length c'] w fun e w' => e = .returned (.bool true) ∧ Below w.heap.size w w' := by
  have HH : Hid (AtI a b o L ∧ AtI a' b' o' L) := ⟨ha, ha'⟩
  have KL : Hid (∀ W, Below w.heap.size w W → Ixs W b o L ∧ Ixs W b' o' L) := fun W B => ⟨hL.keep B, hL'.keep B⟩
  have n1 : (L.length : Int) < 70368744177664 := by omega
  clear hn ha ha' hL hL'
  go_enter Try.func12, Try.ntmps12
  go_wp2_with fail
  go_loopg [5] L.length (fun k iv wr => ∃ i : Nat, k = L.length - i ∧ i ≤ L.length ∧ iv = .int .i64 i ∧ Below w.heap.size w wr)
  case atStart => exact ⟨0, rfl, Nat.zero_le _, rfl, Below.refl _ _⟩
  case round =>
    obtain ⟨i, hk, hi, rfl, B⟩ := hrel
    have HK : Hid (gk = L.length - i) := hk
    clear hk
    by_cases h8 : i = L.length
    · subst h8
      go_wp2
      simp [bodyPost, results, Try.results12, go_sem]
      exact B
    · have hlt : i < L.length := by omega
      have hlt' : (i : Int) < (L.length : Int) := by omega
      obtain ⟨g1, g2⟩ := KL.out wr B
      have c1 := g1 i hlt
      have c2 := g2 i hlt
      obtain rfl : a = some ⟨b, o, none⟩ := by
        rcases HH.out.1 with e | e
        · rw [e] at hlt; simp at hlt
        · exact e
      obtain rfl : a' = some ⟨b', o', none⟩ := by
        rcases HH.out.2 with e | e
        · rw [e] at hlt; simp at hlt
        · exact e
      clear g1 g2
      generalize L.getD i 0 = x at *
      have c1' : ∀ n, (wr.drewN n).cell? ⟨b, o + i, none⟩ = some (.int .i64 x) := fun _ => c1
      have c2' : ∀ n, (wr.drewN n).cell? ⟨b', o' + i, none⟩ = some (.int .i64 x) := fun _ => c2
      go_wp2_with fail
      refine wp_region_quiet_lit (by kernel_rfl) (by kernel_rfl) ?_
      repeat (first | go_big_quiet_skip | (go_big_quiet_want; go_big_quiet_op; go_big_quiet_on))
      refine wpQuiet_nil ?_
      rintro w' ⟨n, rfl⟩
      have BN : Hid (Below w.heap.size w (wr.drewN n)) := ⟨B.os, B.tape, B.output, B.size, B.block⟩
      clear c1 c2 c1' c2' B
      generalize wr.drewN n = w2 at *
      go_wp2
      go_roundg (L.length - (i + 1))
      case measure => have := HK.out; omega
      case rel => exact ⟨i + 1, rfl, by omega, by go_num, BN.out⟩
end Go.Proofs.Ytdehcohfcbopkaa
