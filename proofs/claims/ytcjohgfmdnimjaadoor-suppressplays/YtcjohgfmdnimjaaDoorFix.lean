/-
  Walks of package fix's greater calls: Ratio, Div, Times, Mul, squareWithin, Root. What each returns, for every argument; the world is as it was, but for what was drawn.
-/
import Derived.Test.YtcjohgfmdnimjaaDoorDiv
namespace Go.Proofs.YtcjohgfmdnimjaaDoor
set_option linter.unusedVariables false
open Go.RowKit

/-- a by b, rounded down, or the greatest word -/
def fratio (a b : Int) : Int := if b ≤ a / 4294967296 then 18446744073709551615 else a * 4294967296 / b
/-- a times n, the point's bits gone, or the greatest word -/
def ftimes (a n : Int) : Int := if 18446744073709551615 < a * n / 4294967296 then 18446744073709551615 else a * n / 4294967296

set_option maxHeartbeats 400000 in
theorem ratio_any (a b : Int) (ha : 0 ≤ a) (hb : 0 ≤ b) (ha' : a < 18446744073709551616) (hb' : b < 18446744073709551616) (w : World) :
    Calls Tryd.prog 22 #[.int .u64 a, .int .u64 b] w fun e w' => e = .returned (.int .u64 (fratio a b)) ∧ ∃ n, w' = w.drewN n := by
  by_cases h : b ≤ a / 4294967296
  · go_enter Tryd.func22, Tryd.ntmps22
    go_wp2_with (go_at_call 35; refine (widen_any a ha ha' _).mono ?_; rintro e w' ⟨rfl, rfl⟩)
    go_ret
    exact ⟨ret_int (by unfold fratio; rw [if_pos h]), 0, rfl⟩
  · have e : a / 4294967296 * 18446744073709551616 + a * 4294967296 % 18446744073709551616 = a * 4294967296 := by omega
    have c := div64_any (a / 4294967296) (a * 4294967296 % 18446744073709551616) b (by omega) (by omega) (by omega) (by omega) hb'
    rw [e] at c
    clear e
    go_enter Tryd.func22, Tryd.ntmps22
    go_wp2_with (first
      | (go_at_call 35; refine (widen_any a ha ha' _).mono ?_; rintro e w' ⟨rfl, rfl⟩)
      | (go_at_call 36; refine (c _).mono ?_; rintro e w' ⟨rfl, n, rfl⟩))
    go_ret
    exact ⟨ret_int (by unfold fratio; rw [if_neg (by omega)]), _, rfl⟩

set_option maxHeartbeats 400000 in
theorem div_any (a b : Int) (ha : 0 ≤ a) (hb : 0 ≤ b) (ha' : a < 18446744073709551616) (hb' : b < 18446744073709551616) (w : World) :
    Calls Tryd.prog 33 #[.int .u64 a, .int .u64 b] w fun e w' => e = .returned (.int .u64 (fratio a b)) ∧ ∃ n, w' = w.drewN n := by
  go_enter Tryd.func33, Tryd.ntmps33
  go_wp2_with (go_at_call 22; refine (ratio_any a b ha hb ha' hb' _).mono ?_; rintro e w' ⟨rfl, n, rfl⟩)
  go_ret
  exact ⟨rfl, _, rfl⟩

set_option maxHeartbeats 400000 in
theorem times_any (a n : Int) (ha : 0 ≤ a) (hb : 0 ≤ n) (ha' : a < 18446744073709551616) (hb' : n < 18446744073709551616) (w : World) :
    Calls Tryd.prog 21 #[.int .u64 a, .int .u64 n] w fun e w' => e = .returned (.int .u64 (ftimes a n)) ∧ w' = w := by
  have h0 : 0 ≤ a * n := Int.mul_nonneg ha hb
  have h1 : a * n < 340282366920938463463374607431768211456 := by
    have := Int.mul_le_mul (show a ≤ 18446744073709551615 by omega) (show n ≤ 18446744073709551615 by omega) hb (by omega)
    omega
  have EF : Hid (ftimes a n = if 18446744073709551615 < a * n / 4294967296 then 18446744073709551615 else a * n / 4294967296) := rfl
  have c := mul64_any a n ha hb ha' hb'
  generalize ftimes a n = R at *
  generalize a * n = P at *
  by_cases h : P / 18446744073709551616 / 4294967296 = 0
  · have t : (P / 18446744073709551616 / 4294967296 != 0) = false := by simp [h]
    have H := hid h
    clear h
    go_enter Tryd.func21, Tryd.ntmps21
    go_wp2_with (go_at_call 34; refine (c _).mono ?_; rintro e w' ⟨rfl, rfl⟩)
    go_ret
    refine ⟨ret_int ?_, rfl⟩
    have h := H.out
    have o := or_parts (P / 18446744073709551616) (P % 18446744073709551616 / 4294967296) 32 (by omega) (by omega) (by omega) (by omega) (by omega)
    rw [show (2:Int) ^ 32 = 4294967296 from rfl] at o
    rw [IntKind.wrap_u64, Int.emod_eq_of_lt (by omega) (by omega), o, EF.out, if_neg (by omega)]
    omega
  · have t : (P / 18446744073709551616 / 4294967296 != 0) = true := by simp [h]
    have H := hid h
    clear h
    go_enter Tryd.func21, Tryd.ntmps21
    go_wp2_with (go_at_call 34; refine (c _).mono ?_; rintro e w' ⟨rfl, rfl⟩)
    go_ret
    refine ⟨ret_int ?_, rfl⟩
    have h := H.out
    rw [EF.out, if_pos (by omega)]

end Go.Proofs.YtcjohgfmdnimjaaDoor
