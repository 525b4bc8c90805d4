import Derived.Test.YtdkfpakghpbofaaRsJ
/- Layer 7: Split of any bytes. -/
namespace Go.Proofs.Ytdkfpakghpbofaa
open Go.RowKit Go.Sort
theorem fin7_fits {A : List Int} {l : Bool} {s h : Nat} (e : (fin7 A l s h).2.2.2 = 0) : fin7 A l s h = (l, s, h, 0) ∧ s + h ≤ A.length := by
  unfold fin7 at e ⊢
  by_cases k : A.length < s + h
  · rw [if_pos k] at e; simp at e
  · rw [if_neg k] at e ⊢
    by_cases k2 : l = false ∧ bareB ((A.drop s).take h) = true
    · rw [if_pos k2] at e; simp at e
    · rw [if_neg k2]; exact ⟨rfl, by omega⟩
theorem hdP_fits {A : List Int} (e : (hdP A).2.2.2 = 0) : 1 ≤ A.length ∧ (hdP A).2.1 + (hdP A).2.2.1 ≤ A.length ∧ 1 ≤ (hdP A).2.1 + (hdP A).2.2.1 := by
  unfold hdP at e ⊢
  by_cases k0 : A.length = 0
  · rw [if_pos k0] at e; simp at e
  rw [if_neg k0] at e ⊢
  by_cases k1 : A.getD 0 0 < 128
  · rw [if_pos k1]; simp; omega
  rw [if_neg k1] at e ⊢
  by_cases k2 : A.getD 0 0 % 64 ≤ 55
  · rw [if_pos k2] at e ⊢
    obtain ⟨q, r⟩ := fin7_fits e
    rw [q]; exact ⟨by omega, r, by show 1 ≤ 1 + _; omega⟩
  rw [if_neg k2] at e ⊢
  by_cases k3 : A.length - 1 < (A.getD 0 0 % 64).toNat - 55
  · rw [if_pos k3] at e; simp at e
  rw [if_neg k3] at e ⊢
  by_cases k4 : (A.drop 1).getD 0 0 = 0 ∨ lenQ (A.drop 1) ((A.getD 0 0 % 64).toNat - 55) ≤ 55
  · rw [if_pos k4] at e; simp at e
  rw [if_neg k4] at e ⊢
  obtain ⟨q, r⟩ := fin7_fits e
  rw [q]; exact ⟨by omega, r, by show 1 ≤ 1 + _ + _; omega⟩
theorem fh_all {A : List Int} {a : Option Addr} {b o c : Nat} (hA : Byts A) (hl : A.length ≤ 16777216) (hc : A.length ≤ c) (ha : Az a b o A) (w : World) (h : Bz w b o A) :
    Calls Try.prog 13 #[.slice a A.length c] w fun e w' => e = .returned (.tuple #[.agg #[.bool (hdP A).1, .int .i64 ((hdP A).2.1 : Int), .int .i64 ((hdP A).2.2.1 : Int)], .int .i64 (hdP A).2.2.2]) ∧ Below w.heap.size w w' :=
  fh_short hl w (fun w1 B => rh_all hA hl hc ha w1 (h.keep B))
theorem split_long {a : Option Addr} {m c : Nat} (hm : 16777216 < m) (w : World) :
    Calls Try.prog 5 #[.slice a m c] w fun e w' => e = .returned (.tuple #[.bool false, .slice none 0 0, .slice none 0 0, .int .i64 2]) ∧ Below w.heap.size w w' :=
  split_err (l := false) (s := 0) (h := 0) (by decide) w (fun w1 _ => fh_long hm w1)
theorem split_bad {A : List Int} {a : Option Addr} {b o c : Nat} (hA : Byts A) (hl : A.length ≤ 16777216) (hc : A.length ≤ c) (ha : Az a b o A) (he : (hdP A).2.2.2 ≠ 0) (w : World) (h : Bz w b o A) :
    Calls Try.prog 5 #[.slice a A.length c] w fun e w' => e = .returned (.tuple #[.bool false, .slice none 0 0, .slice none 0 0, .int .i64 (hdP A).2.2.2]) ∧ Below w.heap.size w w' :=
  split_err he w (fun w1 B => fh_all hA hl hc ha w1 (h.keep B))
theorem split_good {A : List Int} {a : Option Addr} {b o c : Nat} (hA : Byts A) (hl : A.length ≤ 16777216) (hc : A.length ≤ c) (ha : Az a b o A) (he : (hdP A).2.2.2 = 0) (w : World) (h : Bz w b o A) :
    Calls Try.prog 5 #[.slice a A.length c] w fun e w' => ∃ v1 v2, e = .returned (.tuple #[.bool (hdP A).1, v1, v2, .int .i64 0]) ∧ OwnB w.heap.size w' v1 ((A.drop (hdP A).2.1).take (hdP A).2.2.1) ∧ OwnB w.heap.size w' v2 (A.drop ((hdP A).2.1 + (hdP A).2.2.1)) ∧ v1 ≠ .slice none 0 0 ∧ v2 ≠ .slice none 0 0 ∧ Below w.heap.size w w' := by
  obtain ⟨f1, f2, _⟩ := hdP_fits he
  obtain rfl := ha.cons (by omega)
  refine split_ok f2 hl hc w h (fun w1 B => ?_)
  have r := fh_all hA hl hc ha w1 (h.keep B)
  rw [he] at r
  exact r
end Go.Proofs.Ytdkfpakghpbofaa
