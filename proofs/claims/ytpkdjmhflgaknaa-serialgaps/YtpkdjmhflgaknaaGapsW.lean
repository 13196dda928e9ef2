/-
  The walk of SerialGaps: how many steps lie between, which one is ahead and which one is later, for every two numbers.
-/
import Derived.Test.YtpkdjmhflgaknaaSerial
import Derived.OpenShut
namespace Go.Proofs.Ytpkdjmhflgaknaa.serialGaps
set_option linter.unusedVariables false
open Go.RowKit

theorem back (a b : Int) : fgap b a = - fgap a b := by
  unfold fgap fway; split <;> (repeat' split) <;> omega

theorem ahead (a b : Int) : decide (0 < fway a b) = decide (0 < fgap a b) := by
  unfold fgap; split
  · next h => rw [h]; rfl
  · rfl

theorem later (a b : Int) : flater a b = if 0 < fgap a b then b else a := by
  unfold flater fgap; split <;> (repeat' split) <;> omega

set_option maxHeartbeats 1000000 in
theorem walk (a0 : Int) (a1 : Int) (w0 : (Lit.int .u32 a0).wf = true) (w1 : (Lit.int .u32 a1).wf = true) (w : World) :
    Calls Try.prog 3 #[.int .u32 a0, .int .u32 a1] w fun e w' => e = .returned (.bool true) ∧ Grown w w' := by
  obtain ⟨b0, b0'⟩ := bounds_u32 w0
  obtain ⟨b1, b1'⟩ := bounds_u32 w1
  clear w0 w1
  have r := fgap_room a0 a1
  have c1 := refGap_any a0 a1 (by omega) (by omega) (by omega) (by omega) w
  have c2 := gap_any a0 a1 (by omega) (by omega) (by omega) (by omega) w
  have c3 := gap_any a1 a0 (by omega) (by omega) (by omega) (by omega) w
  rw [back] at c3
  have c4 := ahead_any a0 a1 (by omega) (by omega) (by omega) (by omega) w
  rw [ahead] at c4
  have c5 := later_any a0 a1 (by omega) (by omega) (by omega) (by omega) w
  rw [later] at c5
  generalize fgap a0 a1 = g at r c1 c2 c3 c4 c5
  by_cases h : 0 < g
  case' pos => rw [if_pos h] at c5
  case' pos => rw [decide_eq_true h] at c4
  case' neg => rw [if_neg h] at c5
  case' neg => rw [decide_eq_false h] at c4
  all_goals
    go_enter Try.func3, Try.ntmps3
    go_wp2_with fail
    refine c1.mono ?_
    rintro e w' ⟨rfl, rfl⟩
    go_wp2_with fail
    refine c2.mono ?_
    rintro e w' ⟨rfl, rfl⟩
    go_wp2_with fail
    refine c3.mono ?_
    rintro e w' ⟨rfl, rfl⟩
    go_wp2_with fail
    refine c4.mono ?_
    rintro e w' ⟨rfl, rfl⟩
    go_wp2_with fail
    refine c5.mono ?_
    rintro e w' ⟨rfl, rfl⟩
    go_wp2_with fail
    refine (awake5_any _).mono ?_
    rintro e w' ⟨rfl, rfl⟩
    go_wp2_with fail
    go_ret
    exact ⟨by first | rfl | (show Ending.returned (.bool (!decide (0 < g))) = _; rw [decide_eq_false (by omega)]; rfl), Grown.refl _⟩
end Go.Proofs.Ytpkdjmhflgaknaa.serialGaps
