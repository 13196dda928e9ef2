/-
  The walk of the law's fixed answer, 'awake': it is true.
-/
import Derived.Test.YthipbhpggeekbaaFix
namespace Go.Proofs.Ythipbhpggeekbaa
set_option linter.unusedVariables false
open Go.RowKit

theorem grown_drewN (w : World) (n : Nat) : Grown w (w.drewN n) := Grown.refl w

theorem root_two (r : Int) (h0 : 0 ≤ r) (h1 : r * r ≤ 8589934592 * 4294967296) (h2 : 8589934592 * 4294967296 < (r + 1) * (r + 1)) : r = 6074000999 := by
  rcases Int.lt_or_le r 6074000999 with h | h
  · have := Int.mul_le_mul (show r + 1 ≤ 6074000999 by omega) (show r + 1 ≤ 6074000999 by omega) (by omega) (by omega)
    omega
  · rcases Int.lt_or_le 6074000999 r with k | k
    · have := Int.mul_le_mul (show 6074001000 ≤ r by omega) (show 6074001000 ≤ r by omega) (by omega) (by omega)
      omega
    · omega

set_option maxHeartbeats 400000 in
theorem awake_any (w : World) :
    Calls Try.prog 14 #[] w fun e w' => e = .returned (.bool true) ∧ ∃ n, w' = w.drewN n := by
  have c1 := ratio_any 1 2 (by decide) (by decide) (by decide) (by decide)
  rw [show fratio 1 2 = 2147483648 from by decide] at c1
  have c2 := of_any 2 (by decide) (by decide)
  rw [show (2 : Int) * 4294967296 = 8589934592 from rfl] at c2
  have c3 : ∀ w, Calls Try.prog 23 #[.int .u64 8589934592] w fun e w' => e = .returned (.int .u64 6074000999) ∧ w' = w := by
    intro w
    refine (root_any 8589934592 (by decide) (by decide) w).mono ?_
    rintro e w' ⟨r, h0, h1, h2, h3, rfl, rfl⟩
    exact ⟨ret_int (root_two r h0 h2 h3), rfl⟩
  have c4 := of_any 3 (by decide) (by decide)
  rw [show (3 : Int) * 4294967296 = 12884901888 from rfl] at c4
  have c5 := of_any 4 (by decide) (by decide)
  rw [show (4 : Int) * 4294967296 = 17179869184 from rfl] at c5
  have c6 := mul_any 12884901888 17179869184 (by decide) (by decide) (by decide) (by decide)
  rw [show ftimes 12884901888 17179869184 = 51539607552 from by decide] at c6
  have c7 := whole_any 51539607552 (by decide) (by decide)
  rw [show (51539607552 : Int) / 4294967296 = 12 from rfl] at c7
  have c8 := div_any 4294967296 0 (by decide) (by decide) (by decide) (by decide)
  rw [show fratio 4294967296 0 = 18446744073709551615 from by decide] at c8
  go_enter Try.func14, Try.ntmps14
  go_wp2_with fail
  refine (c1 _).mono ?_
  rintro e w' ⟨rfl, n, rfl⟩
  go_wp2_with fail
  refine (c2 _).mono ?_
  rintro e w' ⟨rfl, rfl⟩
  go_wp2_with fail
  refine (c3 _).mono ?_
  rintro e w' ⟨rfl, rfl⟩
  go_wp2_with fail
  refine (c4 _).mono ?_
  rintro e w' ⟨rfl, rfl⟩
  go_wp2_with fail
  refine (c5 _).mono ?_
  rintro e w' ⟨rfl, rfl⟩
  go_wp2_with fail
  refine (c6 _).mono ?_
  rintro e w' ⟨rfl, rfl⟩
  go_wp2_with fail
  refine (c7 _).mono ?_
  rintro e w' ⟨rfl, rfl⟩
  go_wp2_with fail
  refine (c8 _).mono ?_
  rintro e w' ⟨rfl, m, rfl⟩
  go_wp2_with fail
  go_ret
  exact ⟨rfl, _, rfl⟩
end Go.Proofs.Ythipbhpggeekbaa
