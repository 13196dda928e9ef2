/-
  Walks of package fix's greater calls: Ratio, Div, Times, Mul, squareWithin, Root. What each returns, for every argument; the world is as it was, but for what was drawn.
-/
import Derived.Test.YtolcnliebjiejaaDiv
namespace Go.Proofs.Ytolcnliebjiejaa
set_option linter.unusedVariables false
open Go.RowKit

/-- a by b, rounded down, or the greatest word -/
def fratio (a b : Int) : Int := if b ≤ a / 4294967296 then 18446744073709551615 else a * 4294967296 / b
/-- a times n, the point's bits gone, or the greatest word -/
def ftimes (a n : Int) : Int := if 18446744073709551615 < a * n / 4294967296 then 18446744073709551615 else a * n / 4294967296

set_option maxHeartbeats 400000 in
theorem ratio_any (a b : Int) (ha : 0 ≤ a) (hb : 0 ≤ b) (ha' : a < 18446744073709551616) (hb' : b < 18446744073709551616) (w : World) :
    Calls Try.prog 14 #[.int .u64 a, .int .u64 b] w fun e w' => e = .returned (.int .u64 (fratio a b)) ∧ ∃ n, w' = w.drewN n := by
  by_cases h : b ≤ a / 4294967296
  · go_enter Try.func14, Try.ntmps14
    go_wp2_with (go_at_call 23; refine (widen_any a ha ha' _).mono ?_; rintro e w' ⟨rfl, rfl⟩)
    go_ret
    exact ⟨ret_int (by unfold fratio; rw [if_pos h]), 0, rfl⟩
  · have e : a / 4294967296 * 18446744073709551616 + a * 4294967296 % 18446744073709551616 = a * 4294967296 := by omega
    have c := div64_any (a / 4294967296) (a * 4294967296 % 18446744073709551616) b (by omega) (by omega) (by omega) (by omega) hb'
    rw [e] at c
    clear e
    go_enter Try.func14, Try.ntmps14
    go_wp2_with (first
      | (go_at_call 23; refine (widen_any a ha ha' _).mono ?_; rintro e w' ⟨rfl, rfl⟩)
      | (go_at_call 24; refine (c _).mono ?_; rintro e w' ⟨rfl, n, rfl⟩))
    go_ret
    exact ⟨ret_int (by unfold fratio; rw [if_neg (by omega)]), _, rfl⟩

end Go.Proofs.Ytolcnliebjiejaa
