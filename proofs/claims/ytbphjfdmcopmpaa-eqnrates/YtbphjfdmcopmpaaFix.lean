/-
  Walks of package fix's greater calls: Ratio, Div, Times, Mul, squareWithin, Root. What each returns, for every argument; the world is as it was, but for what was drawn.
-/
import Derived.Test.YtbphjfdmcopmpaaDiv
namespace Go.Proofs.Ytbphjfdmcopmpaa
set_option linter.unusedVariables false
open Go.RowKit

/-- a by b, rounded down, or the greatest word -/
def fratio (a b : Int) : Int := if b ≤ a / 4294967296 then 18446744073709551615 else a * 4294967296 / b
/-- a times n, the point's bits gone, or the greatest word -/
def ftimes (a n : Int) : Int := if 18446744073709551615 < a * n / 4294967296 then 18446744073709551615 else a * n / 4294967296

set_option maxHeartbeats 400000 in
theorem ratio_any (a b : Int) (ha : 0 ≤ a) (hb : 0 ≤ b) (ha' : a < 18446744073709551616) (hb' : b < 18446744073709551616) (w : World) :
    Calls Try.prog 18 #[.int .u64 a, .int .u64 b] w fun e w' => e = .returned (.int .u64 (fratio a b)) ∧ ∃ n, w' = w.drewN n := by
  by_cases h : b ≤ a / 4294967296
  · go_enter Try.func18, Try.ntmps18
    go_wp2_with (go_at_call 28; refine (widen_any a ha ha' _).mono ?_; rintro e w' ⟨rfl, rfl⟩)
    go_ret
    exact ⟨ret_int (by unfold fratio; rw [if_pos h]), 0, rfl⟩
  · have e : a / 4294967296 * 18446744073709551616 + a * 4294967296 % 18446744073709551616 = a * 4294967296 := by omega
    have c := div64_any (a / 4294967296) (a * 4294967296 % 18446744073709551616) b (by omega) (by omega) (by omega) (by omega) hb'
    rw [e] at c
    clear e
    go_enter Try.func18, Try.ntmps18
    go_wp2_with (first
      | (go_at_call 28; refine (widen_any a ha ha' _).mono ?_; rintro e w' ⟨rfl, rfl⟩)
      | (go_at_call 29; refine (c _).mono ?_; rintro e w' ⟨rfl, n, rfl⟩))
    go_ret
    exact ⟨ret_int (by unfold fratio; rw [if_neg (by omega)]), _, rfl⟩

set_option maxHeartbeats 400000 in
theorem div_any (a b : Int) (ha : 0 ≤ a) (hb : 0 ≤ b) (ha' : a < 18446744073709551616) (hb' : b < 18446744073709551616) (w : World) :
    Calls Try.prog 17 #[.int .u64 a, .int .u64 b] w fun e w' => e = .returned (.int .u64 (fratio a b)) ∧ ∃ n, w' = w.drewN n := by
  go_enter Try.func17, Try.ntmps17
  go_wp2_with (go_at_call 18; refine (ratio_any a b ha hb ha' hb' _).mono ?_; rintro e w' ⟨rfl, n, rfl⟩)
  go_ret
  exact ⟨rfl, _, rfl⟩

set_option maxHeartbeats 400000 in
theorem times_any (a n : Int) (ha : 0 ≤ a) (hb : 0 ≤ n) (ha' : a < 18446744073709551616) (hb' : n < 18446744073709551616) (w : World) :
    Calls Try.prog 36 #[.int .u64 a, .int .u64 n] w fun e w' => e = .returned (.int .u64 (ftimes a n)) ∧ w' = w := by
  have h0 : 0 ≤ a * n := Int.mul_nonneg ha hb
  have h1 : a * n < 340282366920938463463374607431768211456 := by
    have := Int.mul_le_mul (show a ≤ 18446744073709551615 by omega) (show n ≤ 18446744073709551615 by omega) hb (by omega)
    omega
  have EF : Hid (ftimes a n = if 18446744073709551615 < a * n / 4294967296 then 18446744073709551615 else a * n / 4294967296) := rfl
  have c := mul64_any a n ha hb ha' hb'
  generalize ftimes a n = R at *
  generalize a * n = P at *
  by_cases h : P / 18446744073709551616 / 4294967296 = 0
  · have t : (P / 18446744073709551616 / 4294967296 != 0) = false := by simp [h]
    have H := hid h
    clear h
    go_enter Try.func36, Try.ntmps36
    go_wp2_with (go_at_call 40; refine (c _).mono ?_; rintro e w' ⟨rfl, rfl⟩)
    go_ret
    refine ⟨ret_int ?_, rfl⟩
    have h := H.out
    have o := or_parts (P / 18446744073709551616) (P % 18446744073709551616 / 4294967296) 32 (by omega) (by omega) (by omega) (by omega) (by omega)
    rw [show (2:Int) ^ 32 = 4294967296 from rfl] at o
    rw [IntKind.wrap_u64, Int.emod_eq_of_lt (by omega) (by omega), o, EF.out, if_neg (by omega)]
    omega
  · have t : (P / 18446744073709551616 / 4294967296 != 0) = true := by simp [h]
    have H := hid h
    clear h
    go_enter Try.func36, Try.ntmps36
    go_wp2_with (go_at_call 40; refine (c _).mono ?_; rintro e w' ⟨rfl, rfl⟩)
    go_ret
    refine ⟨ret_int ?_, rfl⟩
    have h := H.out
    rw [EF.out, if_pos (by omega)]

set_option maxHeartbeats 400000 in
theorem mul_any (a b : Int) (ha : 0 ≤ a) (hb : 0 ≤ b) (ha' : a < 18446744073709551616) (hb' : b < 18446744073709551616) (w : World) :
    Calls Try.prog 26 #[.int .u64 a, .int .u64 b] w fun e w' => e = .returned (.int .u64 (ftimes a b)) ∧ w' = w := by
  go_enter Try.func26, Try.ntmps26
  go_wp2_with (go_at_call 36; refine (times_any a b ha hb ha' hb' _).mono ?_; rintro e w' ⟨rfl, rfl⟩)
  go_ret
  exact ⟨rfl, rfl⟩

set_option maxHeartbeats 400000 in
theorem within_any (a b : Int) (ha : 0 ≤ a) (hb : 0 ≤ b) (ha' : a < 18446744073709551616) (hb' : b < 18446744073709551616) (w : World) :
    Calls Try.prog 37 #[.int .u64 a, .int .u64 b] w fun e w' => e = .returned (.bool (decide (a * a ≤ b * 4294967296))) ∧ w' = w := by
  have h0 : 0 ≤ a * a := Int.mul_nonneg ha ha
  have c := mul64_any a a ha ha ha' ha'
  generalize a * a = P at *
  go_enter Try.func37, Try.ntmps37
  go_wp2_with (first
      | (go_at_call 28; refine (widen_any b hb hb' _).mono ?_; rintro e w' ⟨rfl, rfl⟩)
      | (go_at_call 40; refine (c _).mono ?_; rintro e w' ⟨rfl, rfl⟩))
  · go_ret
    exact ⟨ret_bool (decide_eq_decide.2 (by omega)), rfl⟩
  · go_ret
    exact ⟨ret_bool (decide_eq_decide.2 (by omega)), rfl⟩
  · go_ret
    exact ⟨ret_bool (decide_eq_true (by omega)).symm, rfl⟩

set_option maxHeartbeats 1000000 in
theorem root_any (a : Int) (ha : 0 ≤ a) (ha' : a < 18446744073709551616) (w : World) :
    Calls Try.prog 27 #[.int .u64 a] w fun e w' => ∃ r : Int, 0 ≤ r ∧ r < 281474976710656 ∧ r * r ≤ a * 4294967296 ∧ a * 4294967296 < (r + 1) * (r + 1) ∧ e = .returned (.int .u64 r) ∧ w' = w := by
  have G0 := hid (FxMath.rooted_start (a * 4294967296) (by omega) (by omega))
  go_enter Try.func27, Try.ntmps27
  go_wp2
  go_loop [3, 4] (fun r p => ∃ (k : Nat) (c : Int), k ≤ 48 ∧ r = .int .u64 (c * 2 ^ k) ∧ p = .int .i64 ((k : Int) - 1) ∧ Hid (FxMath.Rooted (a * 4294967296) k c)) (fun _ p => (intOf p + 1).toNat)
  case atStart => exact ⟨48, 0, by omega, rfl, rfl, G0⟩
  case round =>
    clear G0
    obtain ⟨k, c, hk, rfl, rfl, G⟩ := hrel
    match k, hk, G with
    | 0, hk, G =>
      obtain ⟨b1, b2, b3, b4⟩ := FxMath.root_room _ _ _ G
      rw [show ((0 : Nat) : Int) - 1 = -1 from rfl, show c * 2 ^ 0 = c by rw [Int.pow_zero, Int.mul_one]]
      go_wp2
      go_ret
      obtain ⟨g1, g2, g3, g4⟩ := G.out
      rw [Int.pow_zero, Int.mul_one] at g3 b2
      rw [Int.pow_zero, Int.mul_one] at g4
      exact ⟨c, g1, b2, g3, g4, rfl, rfl⟩
    | k + 1, hk, G =>
      obtain ⟨b1, b2, b3, b4⟩ := FxMath.root_room _ _ _ G
      have p0 : (0:Int) < 2 ^ k := Int.pow_pos (by decide)
      have p2 : (2:Int) ^ (k + 1) = 2 ^ k * 2 := Int.pow_succ ..
      have p1 : (2:Int) ^ k < 18446744073709551616 := by omega
      have o := or_parts c (2 ^ k) (k + 1) G.out.1 (by omega) (by rw [Int.pow_succ]; omega) (by omega) p1
      obtain ⟨c1, c2, c3⟩ := FxMath.two_c c k
      rw [c1] at o
      have bb : 0 ≤ (2 * c + 1) * 2 ^ k ∧ (2 * c + 1) * 2 ^ k < 18446744073709551616 := by rw [← c1]; omega
      have cw := within_any ((2 * c + 1) * 2 ^ k) a bb.1 ha bb.2 ha'
      clear bb p2
      rw [show ((k + 1 : Nat) : Int) - 1 = (k : Int) by omega]
      by_cases t : ((2 * c + 1) * 2 ^ k) * ((2 * c + 1) * 2 ^ k) ≤ a * 4294967296
      · have G2 := hid (FxMath.root_yes _ k c G t)
        rw [decide_eq_true t] at cw
        clear t c1 c2 c3
        go_wp2_with (go_at_call 37; refine (cw _).mono ?_; rintro e w' ⟨rfl, rfl⟩)
        go_round
        case rel => exact ⟨k, 2 * c + 1, by omega, rfl, by go_num, G2⟩
        case measure => simp [intOf]
      · have G2 := hid (FxMath.root_no _ k c G (by omega))
        rw [decide_eq_false t] at cw
        have C2 := hid c2
        clear t c1 c2 c3
        go_wp2_with (go_at_call 37; refine (cw _).mono ?_; rintro e w' ⟨rfl, rfl⟩)
        go_round
        case rel => exact ⟨k, 2 * c, by omega, by rw [C2.out], by go_num, G2⟩
        case measure => simp [intOf]
end Go.Proofs.Ytbphjfdmcopmpaa
