import Derived.Test.YtmegdnalpaddmaaLeaf
import Derived.Test.YtmegdnalpaddmaaShelf
import Derived.Test.YtmegdnalpaddmaaTail
import Derived.Test.YtmegdnalpaddmaaDivNum
import Derived.LoopN
import Derived.Lib.ItoaNum
namespace Go.Proofs.Ytmegdnalpaddmaa
open Go.RowKit

set_option maxHeartbeats 1000000 in
theorem div64_none {lo y : Int} (hl : Word lo) (hy : Word y) (h : 0 < y) (w : World) :
    Calls Try.prog 61 #[.int .u64 0, .int .u64 lo, .int .u64 y] w fun e w' => e = .returned (.tuple #[.int .u64 (lo / y), .int .u64 (lo % y)]) ∧ ∃ n, w' = w.drewN n := by
  obtain ⟨_, _⟩ := hl; obtain ⟨_, _⟩ := hy
  have h1 : ¬ y ≤ 0 := by omega
  have h2 : (y == 0) = false := by simp; omega
  go_enter Try.func61, Try.ntmps61
  go_wp2
  go_region
  go_wp2
  go_ret2
  exact ⟨rfl, 1, rfl⟩

/-- The rest behind a digit, as the limbs reckon it. -/
theorem rest_wrap {un u y q v : Int} (hy : y < 18446744073709551616) (hy0 : 0 < y) (h : (un * 4294967296 + u) % y = un * 4294967296 + u - q * y) (hv : (un * 4294967296 + u) % y = v) :
    IntKind.u64.wrap (IntKind.u64.wrap (IntKind.u64.wrap (un * 4294967296) + u) - IntKind.u64.wrap (q * y)) = v ∧ 0 ≤ v ∧ v < y := by
  have m0 := Int.emod_nonneg (un * 4294967296 + u) (show y ≠ 0 by omega)
  have m1 := Int.emod_lt_of_pos (un * 4294967296 + u) hy0
  simp only [IntKind.wrap_u64]
  generalize q * y = p at *
  generalize (un * 4294967296 + u) % y = t at *
  omega

set_option maxHeartbeats 4000000 in
theorem div64_some {hi lo y y1 y0 u1 u0 : Int} (hh : Word hi) (hl : Word lo) (hy : Word y) (h : hi < y) (hn : 9223372036854775808 ≤ y) (hz : 0 < hi)
    (e1 : y / 4294967296 = y1) (e0 : bits .and .u64 y 4294967295 = y0) (f1 : lo / 4294967296 = u1) (f0 : bits .and .u64 lo 4294967295 = u0) (w : World) :
    Calls Try.prog 61 #[.int .u64 hi, .int .u64 lo, .int .u64 y] w fun e w' => e = .returned (.tuple #[.int .u64 ((hi * 18446744073709551616 + lo) / y), .int .u64 ((hi * 18446744073709551616 + lo) % y)]) ∧ ∃ n, w' = w.drewN n := by
  obtain ⟨_, _⟩ := hh; obtain ⟨_, _⟩ := hl; obtain ⟨_, _⟩ := hy
  have h1 : ¬ y ≤ hi := by omega
  have h2 : (y == 0) = false := by simp; omega
  have h3 : (hi == 0) = false := by simp; omega
  have lz : ∀ w, Calls Try.prog 51 #[.int .u64 y] w fun e w' => e = .returned (.int .i64 0) ∧ w' = w := by
    intro w
    have r := Try.bits_LeadingZeros64 y w (by omega) (by omega)
    have hb : Lib.bitLen y.toNat = 64 := by
      have a := (Lib.bitLenAux_bounds 64 y.toNat (by omega) (by omega)).2.2
      have b := Lib.bitLen_le y.toNat 64 (by omega) (by omega)
      unfold Lib.bitLen at *
      by_cases c : Lib.bitLenAux 64 y.toNat ≤ 63
      · have := Nat.pow_le_pow_right (show 0 < 2 by decide) c
        omega
      · omega
    rw [hb] at r
    exact r
  have LZ : Hid (∀ w, Calls Try.prog 51 #[.int .u64 y] w fun e w' => e = .returned (.int .i64 0) ∧ w' = w) := lz
  clear lz
  have ho : bits .or .u64 hi (lo / 18446744073709551616) = hi := by
    rw [show lo / 18446744073709551616 = 0 by omega]
    obtain ⟨k, rfl⟩ := Int.eq_ofNat_of_zero_le (show 0 ≤ hi by omega)
    exact (bits_or_u64_nat k 0 (by omega) (by decide)).trans (by simp)
  have H1 : Halves hi u1 y y1 y0 := by
    have e0' := low32 (a := y.toNat) (by omega)
    rw [Int.toNat_of_nonneg (by omega)] at e0'
    exact ⟨by omega, by omega, by omega, by omega, by omega, by omega, by omega, by omega, by omega⟩
  have U0 : 0 ≤ u0 := by
    have r := low32 (a := lo.toNat) (by omega)
    rw [Int.toNat_of_nonneg (by omega)] at r
    omega
  have U1 : u0 < 4294967296 := by
    have r := low32 (a := lo.toNat) (by omega)
    rw [Int.toNat_of_nonneg (by omega)] at r
    omega
  have U2 : u1 * 4294967296 + u0 = lo := by
    have r := low32 (a := lo.toNat) (by omega)
    rw [Int.toNat_of_nonneg (by omega)] at r
    omega
  replace U2 : Hid (u1 * 4294967296 + u0 = lo) := U2
  have hy1 := H1.b0
  have hy2 := H1.b1
  have k0 : 0 ≤ hi / y1 := Int.ediv_nonneg (by omega) (by omega)
  have k1 : hi / y1 ≤ hi := Int.ediv_le_self _ (by omega)
  have k2 : 0 ≤ hi / y1 * y1 := Int.mul_nonneg k0 (by omega)
  have k3 : hi / y1 * y1 ≤ hi := Int.ediv_mul_le _ (by omega)
  go_enter Try.func61, Try.ntmps61
  go_wp2_with (go_at_call 51; refine (LZ.out _).mono ?_; rintro e w' ⟨rfl, rfl⟩)
  go_loop [15, 16] (fun a b => ∃ q r : Int, a = .int .u64 q ∧ b = .int .u64 r ∧ Guess hi u1 y y1 y0 q r) (fun a _ => (intOf a).toNat)
  case atStart => exact ⟨_, _, rfl, rfl, Guess.first H1⟩
  case round =>
    obtain ⟨q, r, rfl, rfl, G⟩ := hrel
    have hq0 := G.q0; have hq1 := G.q1; have hr0 := G.r0; have hr1 := G.r1
    by_cases t : 4294967296 ≤ q
    · by_cases l : 4294967296 ≤ r + y1
      · have D := (G.down H1 (.inl t)).1
        have T := G.leave H1 (.inl t) l
        obtain ⟨p, rfl⟩ : ∃ p, q = p + 1 := ⟨q - 1, by omega⟩
        rw [Int.add_sub_cancel] at T
        clear G
        obtain ⟨E1, E2⟩ := T
        obtain ⟨v, hv⟩ : ∃ v, (hi * 4294967296 + u1) % y = v := ⟨_, rfl⟩
        obtain ⟨hw, v0, v1⟩ := rest_wrap (by omega) (by omega) E2 hv
        have p0 : 0 ≤ p := by rw [← E1]; exact Int.ediv_nonneg (by omega) (by omega)
        have p1 : p < 4294967296 := by rw [← E1]; exact Int.ediv_lt_of_lt_mul (by omega) (by omega)
        have H2 : Halves v u0 y y1 y0 := ⟨H1.e, H1.a0, H1.a1, H1.b0, H1.b1, v0, v1, U0, U1⟩
        have j0 : 0 ≤ v / y1 := Int.ediv_nonneg v0 (by omega)
        have j1 : v / y1 ≤ v := Int.ediv_le_self _ v0
        have j2 : 0 ≤ v / y1 * y1 := Int.mul_nonneg j0 (by omega)
        have j3 : v / y1 * y1 ≤ v := Int.ediv_mul_le _ (by omega)
        replace E1 : Hid ((hi * 4294967296 + u1) / y = p) := E1
        replace hv : Hid ((hi * 4294967296 + u1) % y = v) := hv
        clear E2
        go_wp2
        go_loop [18, 16] (fun a b => ∃ q r : Int, a = .int .u64 q ∧ b = .int .u64 r ∧ Guess v u0 y y1 y0 q r) (fun a _ => (intOf a).toNat)
        case atStart => exact ⟨_, _, rfl, rfl, Guess.first H2⟩
        case round =>
          obtain ⟨b2, r2, rfl, rfl, G2⟩ := hrel
          have hb0 := G2.q0; have hb1 := G2.q1; have hr2 := G2.r0; have hr3 := G2.r1
          by_cases t2 : 4294967296 ≤ b2
          · by_cases l2 : 4294967296 ≤ r2 + y1
            · have D := (G2.down H2 (.inl t2)).1
              have T2 := G2.leave H2 (.inl t2) l2
              obtain ⟨b, rfl⟩ : ∃ b, b2 = b + 1 := ⟨b2 - 1, by omega⟩
              rw [Int.add_sub_cancel] at T2
              clear G2
              obtain ⟨x1, x2⟩ := T2
              obtain ⟨x, hx⟩ : ∃ x, (v * 4294967296 + u0) % y = x := ⟨_, rfl⟩
              obtain ⟨hw, x3, x4⟩ := rest_wrap (by omega) (by omega) x2 hx
              have F : Hid ((hi * 18446744073709551616 + lo) / y = p * 4294967296 + b ∧ (hi * 18446744073709551616 + lo) % y = x) := by
                have d := two_digits (u0 := u0) (show 0 < y by omega) E1 hv
                rw [x1, hx, U2.out] at d
                exact d
              have x5 : 0 ≤ b := by rw [← x1]; exact Int.ediv_nonneg (by omega) (by omega)
              have x6 : b < 4294967296 := by rw [← x1]; exact Int.ediv_lt_of_lt_mul (by omega) (by omega)
              clear x1 x2 hx
              go_wp2
              go_ret2
              rw [F.out.1, F.out.2]
              exact ⟨rfl, 0, rfl⟩
            · have D := (G2.down H2 (.inl t2)).1
              have N := G2.next H2 (.inl t2) (by omega)
              go_wp2
              go_round
              case rel => exact ⟨_, _, rfl, rfl, N⟩
              case measure => simp [intOf]; omega
          · have g0 : 0 ≤ b2 * y0 := Int.mul_nonneg hb0 H1.a0
            have g1 : b2 * y0 ≤ 4294967295 * 4294967295 := Int.mul_le_mul (by omega) (by have := H1.a1; omega) H1.a0 (by omega)
            by_cases t3 : 4294967296 * r2 + u0 < b2 * y0
            · by_cases l2 : 4294967296 ≤ r2 + y1
              · have D := (G2.down H2 (.inr t3)).1
                have T2 := G2.leave H2 (.inr t3) l2
                obtain ⟨b, rfl⟩ : ∃ b, b2 = b + 1 := ⟨b2 - 1, by omega⟩
                rw [Int.add_sub_cancel] at T2
                clear G2
                obtain ⟨x1, x2⟩ := T2
                obtain ⟨x, hx⟩ : ∃ x, (v * 4294967296 + u0) % y = x := ⟨_, rfl⟩
                obtain ⟨hw, x3, x4⟩ := rest_wrap (by omega) (by omega) x2 hx
                have F : Hid ((hi * 18446744073709551616 + lo) / y = p * 4294967296 + b ∧ (hi * 18446744073709551616 + lo) % y = x) := by
                  have d := two_digits (u0 := u0) (show 0 < y by omega) E1 hv
                  rw [x1, hx, U2.out] at d
                  exact d
                have x5 : 0 ≤ b := by rw [← x1]; exact Int.ediv_nonneg (by omega) (by omega)
                have x6 : b < 4294967296 := by rw [← x1]; exact Int.ediv_lt_of_lt_mul (by omega) (by omega)
                clear x1 x2 hx
                go_wp2
                go_ret2
                rw [F.out.1, F.out.2]
                exact ⟨rfl, 0, rfl⟩
              · have D := (G2.down H2 (.inr t3)).1
                have N := G2.next H2 (.inr t3) (by omega)
                go_wp2
                go_round
                case rel => exact ⟨_, _, rfl, rfl, N⟩
                case measure => simp [intOf]; omega
            · replace t3 : b2 * y0 ≤ 4294967296 * r2 + u0 := by omega
              have T2 := G2.out H2 t3
              generalize b2 = b at *
              obtain ⟨x1, x2⟩ := T2
              obtain ⟨x, hx⟩ : ∃ x, (v * 4294967296 + u0) % y = x := ⟨_, rfl⟩
              obtain ⟨hw, x3, x4⟩ := rest_wrap (by omega) (by omega) x2 hx
              have F : Hid ((hi * 18446744073709551616 + lo) / y = p * 4294967296 + b ∧ (hi * 18446744073709551616 + lo) % y = x) := by
                have d := two_digits (u0 := u0) (show 0 < y by omega) E1 hv
                rw [x1, hx, U2.out] at d
                exact d
              have x5 : 0 ≤ b := by rw [← x1]; exact Int.ediv_nonneg (by omega) (by omega)
              have x6 : b < 4294967296 := by rw [← x1]; exact Int.ediv_lt_of_lt_mul (by omega) (by omega)
              clear x1 x2 hx
              go_wp2
              go_ret2
              rw [F.out.1, F.out.2]
              exact ⟨rfl, 0, rfl⟩
      · have D := (G.down H1 (.inl t)).1
        have N := G.next H1 (.inl t) (by omega)
        go_wp2
        go_round
        case rel => exact ⟨_, _, rfl, rfl, N⟩
        case measure => simp [intOf]; omega
    · have g0 : 0 ≤ q * y0 := Int.mul_nonneg hq0 H1.a0
      have g1 : q * y0 ≤ 4294967295 * 4294967295 := Int.mul_le_mul (by omega) (by have := H1.a1; omega) H1.a0 (by omega)
      by_cases t1 : 4294967296 * r + u1 < q * y0
      · by_cases l : 4294967296 ≤ r + y1
        · have D := (G.down H1 (.inr t1)).1
          have T := G.leave H1 (.inr t1) l
          obtain ⟨p, rfl⟩ : ∃ p, q = p + 1 := ⟨q - 1, by omega⟩
          rw [Int.add_sub_cancel] at T
          clear G
          obtain ⟨E1, E2⟩ := T
          obtain ⟨v, hv⟩ : ∃ v, (hi * 4294967296 + u1) % y = v := ⟨_, rfl⟩
          obtain ⟨hw, v0, v1⟩ := rest_wrap (by omega) (by omega) E2 hv
          have p0 : 0 ≤ p := by rw [← E1]; exact Int.ediv_nonneg (by omega) (by omega)
          have p1 : p < 4294967296 := by rw [← E1]; exact Int.ediv_lt_of_lt_mul (by omega) (by omega)
          have H2 : Halves v u0 y y1 y0 := ⟨H1.e, H1.a0, H1.a1, H1.b0, H1.b1, v0, v1, U0, U1⟩
          have j0 : 0 ≤ v / y1 := Int.ediv_nonneg v0 (by omega)
          have j1 : v / y1 ≤ v := Int.ediv_le_self _ v0
          have j2 : 0 ≤ v / y1 * y1 := Int.mul_nonneg j0 (by omega)
          have j3 : v / y1 * y1 ≤ v := Int.ediv_mul_le _ (by omega)
          replace E1 : Hid ((hi * 4294967296 + u1) / y = p) := E1
          replace hv : Hid ((hi * 4294967296 + u1) % y = v) := hv
          clear E2
          go_wp2
          go_loop [18, 16] (fun a b => ∃ q r : Int, a = .int .u64 q ∧ b = .int .u64 r ∧ Guess v u0 y y1 y0 q r) (fun a _ => (intOf a).toNat)
          case atStart => exact ⟨_, _, rfl, rfl, Guess.first H2⟩
          case round =>
            obtain ⟨b2, r2, rfl, rfl, G2⟩ := hrel
            have hb0 := G2.q0; have hb1 := G2.q1; have hr2 := G2.r0; have hr3 := G2.r1
            by_cases t2 : 4294967296 ≤ b2
            · by_cases l2 : 4294967296 ≤ r2 + y1
              · have D := (G2.down H2 (.inl t2)).1
                have T2 := G2.leave H2 (.inl t2) l2
                obtain ⟨b, rfl⟩ : ∃ b, b2 = b + 1 := ⟨b2 - 1, by omega⟩
                rw [Int.add_sub_cancel] at T2
                clear G2
                obtain ⟨x1, x2⟩ := T2
                obtain ⟨x, hx⟩ : ∃ x, (v * 4294967296 + u0) % y = x := ⟨_, rfl⟩
                obtain ⟨hw, x3, x4⟩ := rest_wrap (by omega) (by omega) x2 hx
                have F : Hid ((hi * 18446744073709551616 + lo) / y = p * 4294967296 + b ∧ (hi * 18446744073709551616 + lo) % y = x) := by
                  have d := two_digits (u0 := u0) (show 0 < y by omega) E1 hv
                  rw [x1, hx, U2.out] at d
                  exact d
                have x5 : 0 ≤ b := by rw [← x1]; exact Int.ediv_nonneg (by omega) (by omega)
                have x6 : b < 4294967296 := by rw [← x1]; exact Int.ediv_lt_of_lt_mul (by omega) (by omega)
                clear x1 x2 hx
                go_wp2
                go_ret2
                rw [F.out.1, F.out.2]
                exact ⟨rfl, 0, rfl⟩
              · have D := (G2.down H2 (.inl t2)).1
                have N := G2.next H2 (.inl t2) (by omega)
                go_wp2
                go_round
                case rel => exact ⟨_, _, rfl, rfl, N⟩
                case measure => simp [intOf]; omega
            · have g0 : 0 ≤ b2 * y0 := Int.mul_nonneg hb0 H1.a0
              have g1 : b2 * y0 ≤ 4294967295 * 4294967295 := Int.mul_le_mul (by omega) (by have := H1.a1; omega) H1.a0 (by omega)
              by_cases t3 : 4294967296 * r2 + u0 < b2 * y0
              · by_cases l2 : 4294967296 ≤ r2 + y1
                · have D := (G2.down H2 (.inr t3)).1
                  have T2 := G2.leave H2 (.inr t3) l2
                  obtain ⟨b, rfl⟩ : ∃ b, b2 = b + 1 := ⟨b2 - 1, by omega⟩
                  rw [Int.add_sub_cancel] at T2
                  clear G2
                  obtain ⟨x1, x2⟩ := T2
                  obtain ⟨x, hx⟩ : ∃ x, (v * 4294967296 + u0) % y = x := ⟨_, rfl⟩
                  obtain ⟨hw, x3, x4⟩ := rest_wrap (by omega) (by omega) x2 hx
                  have F : Hid ((hi * 18446744073709551616 + lo) / y = p * 4294967296 + b ∧ (hi * 18446744073709551616 + lo) % y = x) := by
                    have d := two_digits (u0 := u0) (show 0 < y by omega) E1 hv
                    rw [x1, hx, U2.out] at d
                    exact d
                  have x5 : 0 ≤ b := by rw [← x1]; exact Int.ediv_nonneg (by omega) (by omega)
                  have x6 : b < 4294967296 := by rw [← x1]; exact Int.ediv_lt_of_lt_mul (by omega) (by omega)
                  clear x1 x2 hx
                  go_wp2
                  go_ret2
                  rw [F.out.1, F.out.2]
                  exact ⟨rfl, 0, rfl⟩
                · have D := (G2.down H2 (.inr t3)).1
                  have N := G2.next H2 (.inr t3) (by omega)
                  go_wp2
                  go_round
                  case rel => exact ⟨_, _, rfl, rfl, N⟩
                  case measure => simp [intOf]; omega
              · replace t3 : b2 * y0 ≤ 4294967296 * r2 + u0 := by omega
                have T2 := G2.out H2 t3
                generalize b2 = b at *
                obtain ⟨x1, x2⟩ := T2
                obtain ⟨x, hx⟩ : ∃ x, (v * 4294967296 + u0) % y = x := ⟨_, rfl⟩
                obtain ⟨hw, x3, x4⟩ := rest_wrap (by omega) (by omega) x2 hx
                have F : Hid ((hi * 18446744073709551616 + lo) / y = p * 4294967296 + b ∧ (hi * 18446744073709551616 + lo) % y = x) := by
                  have d := two_digits (u0 := u0) (show 0 < y by omega) E1 hv
                  rw [x1, hx, U2.out] at d
                  exact d
                have x5 : 0 ≤ b := by rw [← x1]; exact Int.ediv_nonneg (by omega) (by omega)
                have x6 : b < 4294967296 := by rw [← x1]; exact Int.ediv_lt_of_lt_mul (by omega) (by omega)
                clear x1 x2 hx
                go_wp2
                go_ret2
                rw [F.out.1, F.out.2]
                exact ⟨rfl, 0, rfl⟩
        · have D := (G.down H1 (.inr t1)).1
          have N := G.next H1 (.inr t1) (by omega)
          go_wp2
          go_round
          case rel => exact ⟨_, _, rfl, rfl, N⟩
          case measure => simp [intOf]; omega
      · replace t1 : q * y0 ≤ 4294967296 * r + u1 := by omega
        have T := G.out H1 t1
        generalize q = p at *
        obtain ⟨E1, E2⟩ := T
        obtain ⟨v, hv⟩ : ∃ v, (hi * 4294967296 + u1) % y = v := ⟨_, rfl⟩
        obtain ⟨hw, v0, v1⟩ := rest_wrap (by omega) (by omega) E2 hv
        have p0 : 0 ≤ p := by rw [← E1]; exact Int.ediv_nonneg (by omega) (by omega)
        have p1 : p < 4294967296 := by rw [← E1]; exact Int.ediv_lt_of_lt_mul (by omega) (by omega)
        have H2 : Halves v u0 y y1 y0 := ⟨H1.e, H1.a0, H1.a1, H1.b0, H1.b1, v0, v1, U0, U1⟩
        have j0 : 0 ≤ v / y1 := Int.ediv_nonneg v0 (by omega)
        have j1 : v / y1 ≤ v := Int.ediv_le_self _ v0
        have j2 : 0 ≤ v / y1 * y1 := Int.mul_nonneg j0 (by omega)
        have j3 : v / y1 * y1 ≤ v := Int.ediv_mul_le _ (by omega)
        replace E1 : Hid ((hi * 4294967296 + u1) / y = p) := E1
        replace hv : Hid ((hi * 4294967296 + u1) % y = v) := hv
        clear E2
        go_wp2
        go_loop [18, 16] (fun a b => ∃ q r : Int, a = .int .u64 q ∧ b = .int .u64 r ∧ Guess v u0 y y1 y0 q r) (fun a _ => (intOf a).toNat)
        case atStart => exact ⟨_, _, rfl, rfl, Guess.first H2⟩
        case round =>
          obtain ⟨b2, r2, rfl, rfl, G2⟩ := hrel
          have hb0 := G2.q0; have hb1 := G2.q1; have hr2 := G2.r0; have hr3 := G2.r1
          by_cases t2 : 4294967296 ≤ b2
          · by_cases l2 : 4294967296 ≤ r2 + y1
            · have D := (G2.down H2 (.inl t2)).1
              have T2 := G2.leave H2 (.inl t2) l2
              obtain ⟨b, rfl⟩ : ∃ b, b2 = b + 1 := ⟨b2 - 1, by omega⟩
              rw [Int.add_sub_cancel] at T2
              clear G2
              obtain ⟨x1, x2⟩ := T2
              obtain ⟨x, hx⟩ : ∃ x, (v * 4294967296 + u0) % y = x := ⟨_, rfl⟩
              obtain ⟨hw, x3, x4⟩ := rest_wrap (by omega) (by omega) x2 hx
              have F : Hid ((hi * 18446744073709551616 + lo) / y = p * 4294967296 + b ∧ (hi * 18446744073709551616 + lo) % y = x) := by
                have d := two_digits (u0 := u0) (show 0 < y by omega) E1 hv
                rw [x1, hx, U2.out] at d
                exact d
              have x5 : 0 ≤ b := by rw [← x1]; exact Int.ediv_nonneg (by omega) (by omega)
              have x6 : b < 4294967296 := by rw [← x1]; exact Int.ediv_lt_of_lt_mul (by omega) (by omega)
              clear x1 x2 hx
              go_wp2
              go_ret2
              rw [F.out.1, F.out.2]
              exact ⟨rfl, 0, rfl⟩
            · have D := (G2.down H2 (.inl t2)).1
              have N := G2.next H2 (.inl t2) (by omega)
              go_wp2
              go_round
              case rel => exact ⟨_, _, rfl, rfl, N⟩
              case measure => simp [intOf]; omega
          · have g0 : 0 ≤ b2 * y0 := Int.mul_nonneg hb0 H1.a0
            have g1 : b2 * y0 ≤ 4294967295 * 4294967295 := Int.mul_le_mul (by omega) (by have := H1.a1; omega) H1.a0 (by omega)
            by_cases t3 : 4294967296 * r2 + u0 < b2 * y0
            · by_cases l2 : 4294967296 ≤ r2 + y1
              · have D := (G2.down H2 (.inr t3)).1
                have T2 := G2.leave H2 (.inr t3) l2
                obtain ⟨b, rfl⟩ : ∃ b, b2 = b + 1 := ⟨b2 - 1, by omega⟩
                rw [Int.add_sub_cancel] at T2
                clear G2
                obtain ⟨x1, x2⟩ := T2
                obtain ⟨x, hx⟩ : ∃ x, (v * 4294967296 + u0) % y = x := ⟨_, rfl⟩
                obtain ⟨hw, x3, x4⟩ := rest_wrap (by omega) (by omega) x2 hx
                have F : Hid ((hi * 18446744073709551616 + lo) / y = p * 4294967296 + b ∧ (hi * 18446744073709551616 + lo) % y = x) := by
                  have d := two_digits (u0 := u0) (show 0 < y by omega) E1 hv
                  rw [x1, hx, U2.out] at d
                  exact d
                have x5 : 0 ≤ b := by rw [← x1]; exact Int.ediv_nonneg (by omega) (by omega)
                have x6 : b < 4294967296 := by rw [← x1]; exact Int.ediv_lt_of_lt_mul (by omega) (by omega)
                clear x1 x2 hx
                go_wp2
                go_ret2
                rw [F.out.1, F.out.2]
                exact ⟨rfl, 0, rfl⟩
              · have D := (G2.down H2 (.inr t3)).1
                have N := G2.next H2 (.inr t3) (by omega)
                go_wp2
                go_round
                case rel => exact ⟨_, _, rfl, rfl, N⟩
                case measure => simp [intOf]; omega
            · replace t3 : b2 * y0 ≤ 4294967296 * r2 + u0 := by omega
              have T2 := G2.out H2 t3
              generalize b2 = b at *
              obtain ⟨x1, x2⟩ := T2
              obtain ⟨x, hx⟩ : ∃ x, (v * 4294967296 + u0) % y = x := ⟨_, rfl⟩
              obtain ⟨hw, x3, x4⟩ := rest_wrap (by omega) (by omega) x2 hx
              have F : Hid ((hi * 18446744073709551616 + lo) / y = p * 4294967296 + b ∧ (hi * 18446744073709551616 + lo) % y = x) := by
                have d := two_digits (u0 := u0) (show 0 < y by omega) E1 hv
                rw [x1, hx, U2.out] at d
                exact d
              have x5 : 0 ≤ b := by rw [← x1]; exact Int.ediv_nonneg (by omega) (by omega)
              have x6 : b < 4294967296 := by rw [← x1]; exact Int.ediv_lt_of_lt_mul (by omega) (by omega)
              clear x1 x2 hx
              go_wp2
              go_ret2
              rw [F.out.1, F.out.2]
              exact ⟨rfl, 0, rfl⟩

theorem div64_any {hi lo y : Int} (hh : Word hi) (hl : Word lo) (hy : Word y) (h : hi < y) (hn : 9223372036854775808 ≤ y) (w : World) :
    Calls Try.prog 61 #[.int .u64 hi, .int .u64 lo, .int .u64 y] w fun e w' => e = .returned (.tuple #[.int .u64 ((hi * 18446744073709551616 + lo) / y), .int .u64 ((hi * 18446744073709551616 + lo) % y)]) ∧ ∃ n, w' = w.drewN n := by
  by_cases hz : hi = 0
  · subst hz
    have r := div64_none hl hy (by omega) w
    rw [Int.zero_mul, Int.zero_add]
    exact r
  · exact div64_some hh hl hy h hn (by have := hh.1; omega) rfl rfl rfl rfl w

/-- The digit that is guessed from the top limbs. -/
def guessN (hi lo d : Int) : Int := if d ≤ hi then 18446744073709551615 else (hi * 18446744073709551616 + lo) / d

theorem guessN_word {hi lo d : Int} (hh : Word hi) (hl : Word lo) (hd : 0 < d) : Word (guessN hi lo d) := by
  obtain ⟨_, _⟩ := hh; obtain ⟨_, _⟩ := hl
  unfold guessN
  split
  · exact ⟨by decide, by decide⟩
  · exact ⟨Int.ediv_nonneg (by omega) (by omega), Int.ediv_lt_of_lt_mul hd (by omega)⟩

set_option maxHeartbeats 1000000 in
theorem guess_any {hi lo d : Int} (hh : Word hi) (hl : Word lo) (hd : Word d) (hn : 9223372036854775808 ≤ d) (w : World) :
    Calls Try.prog 58 #[.int .u64 hi, .int .u64 lo, .int .u64 d] w fun e w' => e = .returned (.int .u64 (guessN hi lo d)) ∧ ∃ n, w' = w.drewN n := by
  unfold guessN
  by_cases h : d ≤ hi
  · rw [if_pos h]
    go_enter Try.func58, Try.ntmps58
    go_wp2
    go_ret
    exact ⟨rfl, 0, rfl⟩
  · rw [if_neg h]
    go_enter Try.func58, Try.ntmps58
    go_wp2_with (go_at_call 61; refine (div64_any hh hl hd (by omega) hn _).mono ?_; rintro e w' ⟨rfl, nq, rfl⟩)
    go_ret
    exact ⟨rfl, nq, rfl⟩

end Go.Proofs.Ytmegdnalpaddmaa
