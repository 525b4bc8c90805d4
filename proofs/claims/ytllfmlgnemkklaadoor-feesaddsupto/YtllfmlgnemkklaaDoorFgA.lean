import Derived.Test.YtllfmlgnemkklaaDoorFxSh
import Derived.Test.YtllfmlgnemkklaaDoorTsN
import Derived.Lib.Bytealg
import Derived.Lib.Bytes
/- Layer 18: bytes of 0 and others counted; keys counted. -/
namespace Go.Proofs.YtllfmlgnemkklaaDoor
open Go.RowKit Go.Sort
open tq
/-- How many of the first n are 0. -/
def zer (X : List Int) : Nat → Nat
  | 0 => 0
  | n + 1 => zer X n + (if X.getD n 0 = 0 then 1 else 0)
theorem zer_le (X : List Int) : ∀ n, zer X n ≤ n
  | 0 => Nat.le_refl _
  | n + 1 => by have := zer_le X n; rw [zer]; split <;> omega
theorem zer_app {X Y : List Int} : ∀ n, n ≤ X.length → zer (X ++ Y) n = zer X n
  | 0, _ => rfl
  | n + 1, h => by
    rw [zer, zer, zer_app n (by omega)]
    have : (X ++ Y).getD n 0 = X.getD n 0 := by rw [List.getD, List.getD, List.getElem?_append_left (by omega)]
    rw [this]
theorem zer_snoc (X : List Int) (x : Int) : zer (X ++ [x]) (X.length + 1) = zer X X.length + (if x = 0 then 1 else 0) := by
  rw [zer, zer_app _ (Nat.le_refl _)]
  have : (X ++ [x]).getD X.length 0 = x := by simp [List.getD]
  rw [this]
theorem bytesOf_app (X Y : List Int) : Lib.bytesOf (X ++ Y) = Lib.bytesOf X ++ Lib.bytesOf Y := by simp [Lib.bytesOf]
theorem count_zer : ∀ (n : Nat) (X : List Int), X.length = n → Bys X → Lib.countByte (Lib.bytesOf X) (0 : Int).toNat.toUInt8 = zer X n
  | 0, X, h, _ => by obtain rfl := List.eq_nil_of_length_eq_zero h; rfl
  | n + 1, X, h, hb => by
    obtain ⟨Y, x, rfl⟩ : ∃ Y x, X = Y ++ [x] := ⟨X.dropLast, X.getLast (by intro e; rw [e] at h; simp at h), (List.dropLast_concat_getLast _).symm⟩
    have hy : Y.length = n := by simpa using h
    have ih := count_zer n Y hy fun y hy' => hb y (List.mem_append_left _ hy')
    have hx := hb x (by simp)
    subst hy
    rw [zer_snoc, bytesOf_app, Lib.countByte, List.count_append, ← Lib.countByte, ih]
    congr 1
    have : Lib.bytesOf [x] = [UInt8.ofNat x.toNat] := rfl
    rw [this]
    by_cases c : x = 0
    · subst c; rfl
    · rw [if_neg c]
      refine List.count_eq_zero.2 fun hm => ?_
      rw [List.mem_singleton] at hm
      have h2 := congrArg UInt8.toNat hm
      have : (UInt8.ofNat x.toNat).toNat = x.toNat % 256 := by simp
      rw [this] at h2
      have h3 : ((0 : Int).toNat.toUInt8).toNat = 0 := rfl
      rw [h3] at h2
      have := hx.1; have := hx.2
      omega
/-- bytes.Count of the zero byte, of any slice. -/
theorem countF_any {a : Option Addr} {b o c b2 d : Nat} {X : List Int} (w : World) (hG : BtG w a b o c X) (h2 : w.cell? ⟨b2, 0, none⟩ = some (.int .u8 0)) :
    Calls Tryd.prog 53 #[.slice a X.length c, .slice (some ⟨b2, 0, none⟩) 1 d] w fun e w' => e = .returned (.int .i64 (zer X X.length : Nat)) ∧ w' = w := by
  obtain ⟨⟨hc, hn⟩, hz, hb, hB⟩ := hG
  cases a with
  | none =>
    have c0 := hn rfl
    have x0 : X = [] := List.eq_nil_of_length_eq_zero (by omega)
    subst c0; subst x0
    exact Tryd.bytes_Count_one_nil b2 0 d 0 w h2
  | some ad =>
    have := Tryd.bytes_Count_one_at ad X.length c b2 0 d X 0 w rfl (fun i hi => by
      rcases hz with e | e
      · rw [e] at hi; simp at hi
      · obtain rfl := Option.some.inj e
        exact (by simp [Addr.add] : Addr.add ⟨b, o, none⟩ i = ⟨b, o + i, none⟩) ▸ hb i hi) h2
    rwa [count_zer _ X rfl hB] at this
set_option maxRecDepth 100000 in
set_option maxHeartbeats 4000000 in
theorem dataGas_any {a : Option Addr} {b o c : Nat} {X : List Int} {z q : Int} (hl : X.length < 1000000000) (hz : 0 ≤ z ∧ z ≤ 40) (hq : 0 ≤ q ∧ q ≤ 40) (w : World) (hG : BtG w a b o c X) :
    Calls Tryd.prog 42 #[.slice a X.length c, .int .u64 z, .int .u64 q] w fun e w' => e = .returned (.int .u64 (z * (zer X X.length : Nat) + q * ((X.length : Int) - (zer X X.length : Nat)))) ∧ Below w.heap.size w w' := by
  have CN : Hid (∀ (W : World) (b2 d : Nat), Below w.heap.size w W → W.cell? ⟨b2, 0, none⟩ = some (.int .u8 0) → Calls Tryd.prog 53 #[.slice a X.length c, .slice (some ⟨b2, 0, none⟩) 1 d] W fun e w' => e = .returned (.int .i64 (zer X X.length : Nat)) ∧ w' = W) := fun W b2 d B h2 => countF_any W (hG.keep B) h2
  have z1 : (zer X X.length : Int) ≤ (X.length : Int) := by have := zer_le X X.length; omega
  have z0 : (0 : Int) ≤ (zer X X.length : Int) := by omega
  have n1 : (X.length : Int) < 1000000000 := by omega
  obtain ⟨r, hr⟩ : ∃ r, r = z * (zer X X.length : Nat) + q * ((X.length : Int) - (zer X X.length : Nat)) := ⟨_, rfl⟩
  have m1 : 0 ≤ z * (zer X X.length : Int) := Int.mul_nonneg hz.1 z0
  have m2 : z * (zer X X.length : Int) ≤ 40 * (zer X X.length : Int) := Int.mul_le_mul_of_nonneg_right hz.2 z0
  have m3 : 0 ≤ q * ((X.length : Int) - (zer X X.length : Int)) := Int.mul_nonneg hq.1 (by omega)
  have m4 : q * ((X.length : Int) - (zer X X.length : Int)) ≤ 40 * ((X.length : Int) - (zer X X.length : Int)) := Int.mul_le_mul_of_nonneg_right hq.2 (by omega)
  rw [← hr]
  have FR : Hid (IntKind.u64.wrap (zer X X.length : Int) = (zer X X.length : Int) ∧ IntKind.u64.wrap (z * (zer X X.length : Int)) = z * (zer X X.length : Int) ∧ wrap64 ((X.length : Int) - (zer X X.length : Int)) = (X.length : Int) - (zer X X.length : Int) ∧ IntKind.u64.wrap ((X.length : Int) - (zer X X.length : Int)) = (X.length : Int) - (zer X X.length : Int) ∧ IntKind.u64.wrap (q * ((X.length : Int) - (zer X X.length : Int))) = q * ((X.length : Int) - (zer X X.length : Int)) ∧ IntKind.u64.wrap (z * (zer X X.length : Int) + q * ((X.length : Int) - (zer X X.length : Int))) = r) :=
    ⟨by rw [IntKind.wrap_u64]; omega, by rw [IntKind.wrap_u64]; omega, by unfold wrap64; omega, by rw [IntKind.wrap_u64]; omega, by rw [IntKind.wrap_u64]; omega, by rw [hr, IntKind.wrap_u64]; omega⟩
  obtain ⟨f1, f2, f3, f4, f5, f6⟩ := FR.out
  clear hG hr m1 m2 m3 m4 hl hz hq
  generalize ez : (zer X X.length : Int) = zc at *
  generalize X.length = n at *
  go_enter Tryd.func42, Tryd.ntmps42
  go_wp2_with first
    | (go_at_call 53; refine (CN.out _ _ _ (by repeat (first | with_reducible exact Below.refl _ _ | with_reducible refine Below.alloc ?_ (Nat.le_refl _) _)) (by simp)).mono ?_; rintro e W ⟨rfl, rfl⟩)
  refine bodyPost_ret (v := .int .u64 r) ?_ rfl ⟨rfl, ?_⟩
  · simp [results, Tryd.results42, go_sem]
  · repeat (first | with_reducible exact Below.refl _ _ | with_reducible refine Below.alloc ?_ (Nat.le_refl _) _)
end Go.Proofs.YtllfmlgnemkklaaDoor
