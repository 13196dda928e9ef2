/-
  The walk of LogsDouble: twice any number has a logarithm that is one more.
-/
import Derived.Test.YtbbfblfgieobeaaDoorLogsRef
import Derived.OpenShut
namespace Go.Proofs.YtbbfblfgieobeaaDoor.logsDouble
set_option linter.unusedVariables false
open Go.RowKit

set_option maxHeartbeats 1000000 in
theorem walk0 (a : Int) (w : World) (H : Steps w) (h : a = 0 ∨ 9223372036854775808 ≤ a) (ha : 0 ≤ a) :
    Calls Tryd.prog 5 #[.int .u64 a] w fun e w' => e = .returned (.bool true) ∧ Ext w w' := by
  by_cases h1 : a = 0
  case' pos => subst h1
  case' neg =>
    have ne : (a == 0) = false := by simp; omega
    have hb : 9223372036854775808 ≤ a := by omega
  all_goals
    clear h
    go_enter Tryd.func5, Tryd.ntmps5
    go_wp2_with fail
    refine (awake2_any _ H).mono ?_
    rintro e w' ⟨rfl, HE⟩
    go_wp2_with fail
    go_ret
    exact ⟨rfl, HE⟩

set_option maxHeartbeats 1000000 in
theorem walk1 (a : Int) (w : World) (H : Steps w) (ha : 0 < a) (ha' : a < 9223372036854775808) :
    Calls Tryd.prog 5 #[.int .u64 a] w fun e w' => e = .returned (.bool true) ∧ Ext w w' := by
  have na : (a == 0) = false := by simp; omega
  have c1 := fun w H => log_any a w H (by omega) (by omega)
  have c2 := fun w H => log_any (2 * a) w H (by omega) (by omega)
  have r := flog_room a (by omega) (by omega)
  rw [flog_double a ha ha'] at c2
  generalize flog a = x at *
  go_enter Tryd.func5, Tryd.ntmps5
  go_wp2_with fail
  refine (c1 _ H).mono ?_
  rintro e w' ⟨rfl, n1, rfl⟩
  go_wp2_with fail
  refine (c2 _ (H.drewN _)).mono ?_
  rintro e w' ⟨rfl, n2, rfl⟩
  go_wp2_with fail
  refine (awake2_any _ (H.drewN _)).mono ?_
  rintro e w3 ⟨rfl, HE3⟩
  go_wp2_with fail
  go_ret
  exact ⟨rfl, ((Ext.refl w).drewN _).trans HE3⟩

theorem walk (a0 : Int) (w0 : (Lit.int .u64 a0).wf = true) (w : World) (H : Steps w) :
    Calls Tryd.prog 5 #[.int .u64 a0] w fun e w' => e = .returned (.bool true) ∧ Ext w w' := by
  obtain ⟨b0, b0'⟩ := bounds_u64 w0
  by_cases h : a0 = 0 ∨ 9223372036854775808 ≤ a0
  · exact walk0 a0 w H h b0
  · exact walk1 a0 w H (by omega) (by omega)
end Go.Proofs.YtbbfblfgieobeaaDoor.logsDouble
