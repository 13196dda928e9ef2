/-
  The walk of the law's fixed answer, 'awake': it is true.
-/
import Derived.Test.YtcjohgfmdnimjaaDoorFix
namespace Go.Proofs.YtcjohgfmdnimjaaDoor
set_option linter.unusedVariables false
open Go.RowKit

theorem grown_drewN (w : World) (n : Nat) : Grown w (w.drewN n) := Grown.refl w

theorem root_two (r : Int) (h0 : 0 ≤ r) (h1 : r * r ≤ 8589934592 * 4294967296) (h2 : 8589934592 * 4294967296 < (r + 1) * (r + 1)) : r = 6074000999 := by
  rcases Int.lt_or_le r 6074000999 with h | h
  · have := Int.mul_le_mul (show r + 1 ≤ 6074000999 by omega) (show r + 1 ≤ 6074000999 by omega) (by omega) (by omega)
    omega
  · rcases Int.lt_or_le 6074000999 r with k | k
    · have := Int.mul_le_mul (show 6074001000 ≤ r by omega) (show 6074001000 ≤ r by omega) (by omega) (by omega)
      omega
    · omega

end Go.Proofs.YtcjohgfmdnimjaaDoor
