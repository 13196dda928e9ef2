/-
  The walk of math/bits' Div64: the quotient and the rest of a number of two words, where the quotient has one word.
-/
import Derived.Test.YtolcnliebjiejaaLeaf
import Derived.Test.YtolcnliebjiejaaLen
import Derived.Deep.QuietTactic
import Derived.BigQuiet
namespace Go.Proofs.Ytolcnliebjiejaa
set_option linter.unusedVariables false
open Go.RowKit

set_option maxHeartbeats 1000000 in
theorem div64_low (lo y : Int) (hl : 0 ≤ lo) (hl' : lo < 18446744073709551616) (hy : 0 < y) (hy' : y < 18446744073709551616) (w : World) :
    Calls Try.prog 24 #[.int .u64 0, .int .u64 lo, .int .u64 y] w fun e w' => e = .returned (.tuple #[.int .u64 (lo / y), .int .u64 (lo % y)]) ∧ ∃ n, w' = w.drewN n := by
  have h1 : (y == 0) = false := by simp; omega
  have h2 : ¬ y ≤ 0 := by omega
  go_enter Try.func24, Try.ntmps24
  go_wp2
  go_quiet (fail)
  go_wp2
  go_ret2
  exact ⟨rfl, _, rfl⟩

set_option maxHeartbeats 1000000 in
theorem div64_high (hi lo y : Int) (hh : 0 < hi) (hl : 0 ≤ lo) (hl' : lo < 18446744073709551616) (hy : hi < y) (hy' : y < 18446744073709551616) (w : World) :
    Calls Try.prog 24 #[.int .u64 hi, .int .u64 lo, .int .u64 y] w fun e w' => e = .returned (.tuple #[.int .u64 ((hi * 18446744073709551616 + lo) / y), .int .u64 ((hi * 18446744073709551616 + lo) % y)]) ∧ ∃ n, w' = w.drewN n := by
  have h1 : (y == 0) = false := by simp; omega
  have h2 : ¬ y ≤ hi := by omega
  have h3 : (hi == 0) = false := by simp; omega
  go_enter Try.func24, Try.ntmps24
  go_wp2_with (go_at_call 29; refine (lz64_up y _ (by omega) (by omega)).mono ?_; rintro e w' ⟨s, hs, hs1, hs2, rfl, rfl⟩)
  obtain ⟨n1, n2, n3⟩ := FxMath.norm_lo lo s hs hl hl'
  obtain ⟨m1, m2, m3⟩ := FxMath.norm_hi hi y _ s (by omega) hy hs2 n1 n2
  have eN : (hi * 18446744073709551616 + lo) * 2 ^ s = (hi * 2 ^ s + lo / 2 ^ (64 - s)) * 18446744073709551616 + lo * 2 ^ s % 18446744073709551616 := by
    rw [Int.add_mul, n3, Int.add_mul, Int.mul_right_comm]; omega
  have eq := FxMath.div_moved (hi * 18446744073709551616 + lo) y s
  have eR : (hi * 18446744073709551616 + lo) % y * 2 ^ s / 2 ^ s = (hi * 18446744073709551616 + lo) % y :=
    Int.mul_ediv_cancel _ (by have : (0:Int) < 2 ^ s := Int.pow_pos (by decide)
                              omega)
  rw [← eq.2, eN] at eR
  rw [eN] at eq
  have HQ := hid eq.1
  have HR := hid eR
  have hU0 : 0 ≤ hi * 2 ^ s + lo / 2 ^ (64 - s) := by omega
  have hL1 : 0 ≤ lo * 2 ^ s % 18446744073709551616 := by omega
  have hL2 : lo * 2 ^ s % 18446744073709551616 < 18446744073709551616 := by omega
  have eOr := or_parts hi _ s (by omega) n1 n2 m2 (by omega)
  have eMa := mask32 (y * 2 ^ s) (by omega) hs2
  rw [IntKind.wrap_u64 (hi * 2 ^ s), Int.emod_eq_of_lt m1 m2, eOr, eMa, IntKind.wrap_u64 (lo * 2 ^ s), mask32_mod]
  clear eR eq eN m1 m2 n1 n2 n3 eOr eMa
  generalize y * 2 ^ s = V at *
  generalize hi * 2 ^ s + lo / 2 ^ (64 - s) = U at *
  generalize lo * 2 ^ s = L at *
  have g0 := FxMath.guess_start U V (L % 18446744073709551616 / 4294967296) hU0 hs1 hs2 (by omega)
  obtain ⟨e15, e16⟩ := FxMath.guess_start_room U V hU0 (by omega) hs1
  rw [IntKind.wrap_u64 (U.tdiv _), e15, IntKind.wrap_u64, IntKind.wrap_u64, e16]
  clear e15 e16
  have hd0 : 0 ≤ L % 18446744073709551616 / 4294967296 := by omega
  have hd1 : L % 18446744073709551616 / 4294967296 < 4294967296 := by omega
  have G0 := hid g0
  clear g0 h1 h3 h2
  go_loop [15, 16] (fun a b => ∃ q r : Int, a = .int .u64 q ∧ b = .int .u64 r ∧ Hid (FxMath.Guess U V (L % 18446744073709551616 / 4294967296) q r)) (fun a _ => (intOf a).toNat)
  case atStart => exact ⟨_, _, rfl, rfl, G0⟩
  case round =>
    clear G0
    obtain ⟨q, r, rfl, rfl, G⟩ := hrel
    have g : FxMath.Guess U V (L % 18446744073709551616 / 4294967296) q r := G
    obtain ⟨b1, b2⟩ := FxMath.guess_room U V _ q r hs1 hs2 m3 g
    have hr0 : 0 ≤ r := g.2.1
    have hr1 : r < 4294967296 := g.2.2.1
    have hq0 : 0 ≤ q := g.2.2.2.1
    by_cases t1 : 4294967296 ≤ q ∨ 4294967296 * r + L % 18446744073709551616 / 4294967296 < q * (V % 4294967296)
    case' neg =>
      have EQ := hid (FxMath.guess_stop U V _ q r hs1 g (by omega))
      have t3 : ¬ 4294967296 ≤ q := by omega
      have t1' : ¬ 4294967296 * r + L % 18446744073709551616 / 4294967296 < q * (V % 4294967296) := by omega
      obtain ⟨b3, b4⟩ := b2 (by omega)
      clear t1 b2 g
      go_wp2
      rw [EQ.out]
    case' pos =>
      obtain ⟨d1, d2, d3⟩ := FxMath.guess_down U V _ q r hs1 m3 hd0 hd1 g t1
      have D2 := hid d2
      have D3 := hid d3
      clear d2 d3 g
      by_cases t2 : 4294967296 ≤ r + V / 4294967296
      case neg =>
        have G2 : Hid (FxMath.Guess U V (L % 18446744073709551616 / 4294967296) (q - 1) (r + V / 4294967296)) := ⟨D2, by omega, by omega, by omega, D3⟩
        by_cases t3 : 4294967296 ≤ q
        · clear t1 b2
          go_wp2
          go_round
          case rel => exact ⟨_, _, rfl, rfl, G2⟩
          case measure => simp [intOf]; omega
        · have t1' : 4294967296 * r + L % 18446744073709551616 / 4294967296 < q * (V % 4294967296) := by omega
          obtain ⟨b3, b4⟩ := b2 (by omega)
          clear t1 b2
          go_wp2
          go_round
          case rel => exact ⟨_, _, rfl, rfl, G2⟩
          case measure => simp [intOf]; omega
      have EQ := hid (FxMath.guess_break U V _ (q - 1) (r + V / 4294967296) hd0 hs1 m3 (by omega) D2 D3 t2)
      by_cases t3 : 4294967296 ≤ q
      case' pos =>
        clear t1 b2
        go_wp2
        rw [EQ.out]
      case' neg =>
        have t1' : 4294967296 * r + L % 18446744073709551616 / 4294967296 < q * (V % 4294967296) := by omega
        obtain ⟨b3, b4⟩ := b2 (by omega)
        clear t1 b2
        go_wp2
        rw [EQ.out]
    all_goals
      clear EQ G
      have rw1 := FxMath.rest_wraps U V (L % 18446744073709551616 / 4294967296) hs1 hs2
      have r1 := Int.emod_nonneg (U * 4294967296 + L % 18446744073709551616 / 4294967296) (show V ≠ 0 by omega)
      have r2 := Int.emod_lt_of_pos (U * 4294967296 + L % 18446744073709551616 / 4294967296) (show 0 < V by omega)
      have dl := FxMath.digit_lt U V _ hU0 m3 hd0 hd1
      have E := FxMath.div_ends U V L hU0 m3 hs1 hs2
      have e0 : 0 ≤ L % 4294967296 := by omega
      have e1 : L % 4294967296 < 4294967296 := by omega
      rw [HQ.out] at E
      have EF := hid E
      clear E
      simp only [IntKind.wrap_u64 (U * 4294967296), IntKind.wrap_u64 (U * 4294967296 % _ + _), IntKind.wrap_u64 ((U * 4294967296 + L % 18446744073709551616 / 4294967296) / V * V), IntKind.wrap_u64 ((U * 4294967296 % _ + _) % _ - _), rw1]
      clear rw1
      generalize (U * 4294967296 + L % 18446744073709551616 / 4294967296) % V = W at *
      generalize (U * 4294967296 + L % 18446744073709551616 / 4294967296) / V = Q1 at *
      obtain ⟨e15, e16⟩ := FxMath.guess_start_room W V r1 (by omega) hs1
      simp only [IntKind.wrap_u64 (W.tdiv _), e15, IntKind.wrap_u64 (W / _ * _), IntKind.wrap_u64 (W - _), e16]
      have G0 := hid (FxMath.guess_start W V (L % 4294967296) r1 hs1 hs2 e1)
      clear e15 e16
      go_loop [18, 16] (fun a b => ∃ q r : Int, a = .int .u64 q ∧ b = .int .u64 r ∧ Hid (FxMath.Guess W V (L % 4294967296) q r)) (fun a _ => (intOf a).toNat)
      case atStart => exact ⟨_, _, rfl, rfl, G0⟩
      case round =>
        clear G0
        obtain ⟨q0, r0, rfl, rfl, G⟩ := hrel
        have g : FxMath.Guess W V (L % 4294967296) q0 r0 := G
        obtain ⟨c1, c2⟩ := FxMath.guess_room W V _ q0 r0 hs1 hs2 r2 g
        have ha0 : 0 ≤ r0 := g.2.1
        have ha1 : r0 < 4294967296 := g.2.2.1
        have ha2 : 0 ≤ q0 := g.2.2.2.1
        by_cases u1 : 4294967296 ≤ q0 ∨ 4294967296 * r0 + L % 4294967296 < q0 * (V % 4294967296)
        case' neg =>
          have EQ := hid (FxMath.guess_stop W V _ q0 r0 hs1 g (by omega))
          have u3 : ¬ 4294967296 ≤ q0 := by omega
          have u1' : ¬ 4294967296 * r0 + L % 4294967296 < q0 * (V % 4294967296) := by omega
          obtain ⟨c3, c4⟩ := c2 (by omega)
          clear u1 c2 g
          go_wp2
          rw [EQ.out]
        case' pos =>
          obtain ⟨f1, f2, f3⟩ := FxMath.guess_down W V _ q0 r0 hs1 r2 e0 e1 g u1
          have F2 := hid f2
          have F3 := hid f3
          clear f2 f3 g
          by_cases u2 : 4294967296 ≤ r0 + V / 4294967296
          case neg =>
            have G2 : Hid (FxMath.Guess W V (L % 4294967296) (q0 - 1) (r0 + V / 4294967296)) := ⟨F2, by omega, by omega, by omega, F3⟩
            by_cases u3 : 4294967296 ≤ q0
            · clear u1 c2
              go_wp2
              go_round
              case rel => exact ⟨_, _, rfl, rfl, G2⟩
              case measure => simp [intOf]; omega
            · have u1' : 4294967296 * r0 + L % 4294967296 < q0 * (V % 4294967296) := by omega
              obtain ⟨c3, c4⟩ := c2 (by omega)
              clear u1 c2
              go_wp2
              go_round
              case rel => exact ⟨_, _, rfl, rfl, G2⟩
              case measure => simp [intOf]; omega
          have EQ := hid (FxMath.guess_break W V _ (q0 - 1) (r0 + V / 4294967296) e0 hs1 r2 (by omega) F2 F3 u2)
          by_cases u3 : 4294967296 ≤ q0
          case' pos =>
            clear u1 c2
            go_wp2
            rw [EQ.out]
          case' neg =>
            have u1' : 4294967296 * r0 + L % 4294967296 < q0 * (V % 4294967296) := by omega
            obtain ⟨c3, c4⟩ := c2 (by omega)
            clear u1 c2
            go_wp2
            rw [EQ.out]
        all_goals
          obtain ⟨a2, a3⟩ := FxMath.digit_lt W V _ r1 r2 e0 e1
          obtain ⟨E1, E2⟩ := EF.out
          have X1 : Q1 * 4294967296 + (W * 4294967296 + L % 4294967296) / V = (hi * 18446744073709551616 + lo) / y := by
            rw [← E1]; omega
          have X2 : (Q1 * 4294967296 + (W * 4294967296 + L % 4294967296) / V) % 18446744073709551616 = (hi * 18446744073709551616 + lo) / y := by
            rw [← E1]; omega
          go_ret2
          refine ⟨congrArg Ending.returned (congrArg Value.tuple ?_), 0, rfl⟩
          show #[Value.int .u64 _, Value.int .u64 _] = _
          simp only [IntKind.wrap_u64, E2, HR.out]
          first | rw [X2] | rw [X1]

theorem div64_any (hi lo y : Int) (hh : 0 ≤ hi) (hl : 0 ≤ lo) (hl' : lo < 18446744073709551616) (hy : hi < y) (hy' : y < 18446744073709551616) (w : World) :
    Calls Try.prog 24 #[.int .u64 hi, .int .u64 lo, .int .u64 y] w fun e w' => e = .returned (.tuple #[.int .u64 ((hi * 18446744073709551616 + lo) / y), .int .u64 ((hi * 18446744073709551616 + lo) % y)]) ∧ ∃ n, w' = w.drewN n := by
  rcases Int.lt_or_eq_of_le hh with h | h
  · exact div64_high hi lo y h hl hl' hy hy' w
  · subst h
    have := div64_low lo y hl hl' (by omega) hy' w
    simpa using this
end Go.Proofs.Ytolcnliebjiejaa
