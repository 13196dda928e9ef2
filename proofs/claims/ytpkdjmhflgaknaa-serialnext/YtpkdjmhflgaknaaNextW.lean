/-
  The walk of SerialNext: so many steps on and back lead to the same number, and a gap tells how many they were, for every number and every step.
-/
import Derived.Test.YtpkdjmhflgaknaaSerial
import Derived.OpenShut
namespace Go.Proofs.Ytpkdjmhflgaknaa.serialNext
set_option linter.unusedVariables false
open Go.RowKit

theorem onback (a n : Int) (ha : 0 ≤ a) (ha' : a < 4294967296) : fnext (fnext a n) (-n) = a := by unfold fnext; omega
theorem onback' (a : Int) (ha : 0 ≤ a) (ha' : a < 4294967296) : fnext (fnext a (-9223372036854775808)) (-9223372036854775808) = a := by unfold fnext; omega
theorem told (a n : Int) (ha : 0 ≤ a) (ha' : a < 4294967296) (h : -2147483648 < n) (h' : n < 2147483648) : fgap a (fnext a n) = n := by
  unfold fgap fway fnext; split <;> omega

set_option maxHeartbeats 1000000 in
theorem walk (a0 : Int) (a1 : Int) (w0 : (Lit.int .u32 a0).wf = true) (w1 : (Lit.int .i64 a1).wf = true) (w : World) :
    Calls Try.prog 4 #[.int .u32 a0, .int .i64 a1] w fun e w' => e = .returned (.bool true) ∧ Grown w w' := by
  obtain ⟨b0, b0'⟩ := bounds_u32 w0
  obtain ⟨b1, b1'⟩ := bounds_i64 w1
  clear w0 w1
  have r := fnext_room a0 a1
  have c1 := next_any a0 a1 (by omega) (by omega) (by omega) (by omega) w
  have c3 := gap_any a0 (fnext a0 a1) (by omega) (by omega) (by omega) (by omega) w
  by_cases h0 : a1 = -9223372036854775808
  · subst h0
    have c2 := next_any (fnext a0 (-9223372036854775808)) (-9223372036854775808) (by omega) (by omega) (by omega) (by omega) w
    rw [onback' a0 (by omega) (by omega)] at c2
    clear c3
    generalize fnext a0 (-9223372036854775808) = z at r c1 c2
    go_enter Try.func4, Try.ntmps4
    go_wp2_with fail
    refine c1.mono ?_
    rintro e w' ⟨rfl, rfl⟩
    go_wp2_with fail
    rw [show wrap64 9223372036854775808 = -9223372036854775808 from by unfold wrap64; rfl]
    refine c2.mono ?_
    rintro e w' ⟨rfl, rfl⟩
    go_wp2_with fail
    refine (awake5_any _).mono ?_
    rintro e w' ⟨rfl, rfl⟩
    go_wp2_with fail
    go_ret
    exact ⟨rfl, Grown.refl _⟩
  · have c2 := next_any (fnext a0 a1) (-a1) (by omega) (by omega) (by omega) (by omega) w
    rw [onback a0 a1 (by omega) (by omega)] at c2
    have hlow : -9223372036854775808 < a1 := by omega
    clear h0
    by_cases h1 : a1 ≤ -2147483648
    · clear c3
      generalize fnext a0 a1 = z at r c1 c2
      go_enter Try.func4, Try.ntmps4
      go_wp2_with fail
      refine c1.mono ?_
      rintro e w' ⟨rfl, rfl⟩
      go_wp2_with fail
      refine c2.mono ?_
      rintro e w' ⟨rfl, rfl⟩
      go_wp2_with fail
      refine (awake5_any _).mono ?_
      rintro e w' ⟨rfl, rfl⟩
      go_wp2_with fail
      go_ret
      exact ⟨rfl, Grown.refl _⟩
    · by_cases h2 : 2147483648 ≤ a1
      · clear c3
        generalize fnext a0 a1 = z at r c1 c2
        go_enter Try.func4, Try.ntmps4
        go_wp2_with fail
        refine c1.mono ?_
        rintro e w' ⟨rfl, rfl⟩
        go_wp2_with fail
        refine c2.mono ?_
        rintro e w' ⟨rfl, rfl⟩
        go_wp2_with fail
        refine (awake5_any _).mono ?_
        rintro e w' ⟨rfl, rfl⟩
        go_wp2_with fail
        go_ret
        exact ⟨rfl, Grown.refl _⟩
      · rw [told a0 a1 (by omega) (by omega) (by omega) (by omega)] at c3
        generalize fnext a0 a1 = z at r c1 c2 c3
        go_enter Try.func4, Try.ntmps4
        go_wp2_with fail
        refine c1.mono ?_
        rintro e w' ⟨rfl, rfl⟩
        go_wp2_with fail
        refine c2.mono ?_
        rintro e w' ⟨rfl, rfl⟩
        go_wp2_with fail
        refine c3.mono ?_
        rintro e w' ⟨rfl, rfl⟩
        go_wp2_with fail
        refine (awake5_any _).mono ?_
        rintro e w' ⟨rfl, rfl⟩
        go_wp2_with fail
        go_ret
        exact ⟨rfl, Grown.refl _⟩
end Go.Proofs.Ytpkdjmhflgaknaa.serialNext
