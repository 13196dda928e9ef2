/-
  Walks of package fix's greater calls: Ratio, Div, Times, Mul, squareWithin, Root. What each returns, for every argument; the world is as it was, but for what was drawn.
-/
import Derived.Test.YtmkcgkmaabcjoaaDoorDiv
namespace Go.Proofs.YtmkcgkmaabcjoaaDoor
set_option linter.unusedVariables false
open Go.RowKit

/-- a by b, rounded down, or the greatest word -/
def fratio (a b : Int) : Int := if b ≤ a / 4294967296 then 18446744073709551615 else a * 4294967296 / b
/-- a times n, the point's bits gone, or the greatest word -/
def ftimes (a n : Int) : Int := if 18446744073709551615 < a * n / 4294967296 then 18446744073709551615 else a * n / 4294967296

set_option maxHeartbeats 400000 in
theorem ratio_any (a b : Int) (ha : 0 ≤ a) (hb : 0 ≤ b) (ha' : a < 18446744073709551616) (hb' : b < 18446744073709551616) (w : World) :
    Calls Tryd.prog 29 #[.int .u64 a, .int .u64 b] w fun e w' => e = .returned (.int .u64 (fratio a b)) ∧ ∃ n, w' = w.drewN n := by
  by_cases h : b ≤ a / 4294967296
  · go_enter Tryd.func29, Tryd.ntmps29
    go_wp2_with (go_at_call 33; refine (widen_any a ha ha' _).mono ?_; rintro e w' ⟨rfl, rfl⟩)
    go_ret
    exact ⟨ret_int (by unfold fratio; rw [if_pos h]), 0, rfl⟩
  · have e : a / 4294967296 * 18446744073709551616 + a * 4294967296 % 18446744073709551616 = a * 4294967296 := by omega
    have c := div64_any (a / 4294967296) (a * 4294967296 % 18446744073709551616) b (by omega) (by omega) (by omega) (by omega) hb'
    rw [e] at c
    clear e
    go_enter Tryd.func29, Tryd.ntmps29
    go_wp2_with (first
      | (go_at_call 33; refine (widen_any a ha ha' _).mono ?_; rintro e w' ⟨rfl, rfl⟩)
      | (go_at_call 34; refine (c _).mono ?_; rintro e w' ⟨rfl, n, rfl⟩))
    go_ret
    exact ⟨ret_int (by unfold fratio; rw [if_neg (by omega)]), _, rfl⟩

set_option maxHeartbeats 400000 in
theorem div_any (a b : Int) (ha : 0 ≤ a) (hb : 0 ≤ b) (ha' : a < 18446744073709551616) (hb' : b < 18446744073709551616) (w : World) :
    Calls Tryd.prog 18 #[.int .u64 a, .int .u64 b] w fun e w' => e = .returned (.int .u64 (fratio a b)) ∧ ∃ n, w' = w.drewN n := by
  go_enter Tryd.func18, Tryd.ntmps18
  go_wp2_with (go_at_call 29; refine (ratio_any a b ha hb ha' hb' _).mono ?_; rintro e w' ⟨rfl, n, rfl⟩)
  go_ret
  exact ⟨rfl, _, rfl⟩

end Go.Proofs.YtmkcgkmaabcjoaaDoor
