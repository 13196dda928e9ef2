/-
  The walk of LogsRise: of two numbers the greater one has the greater logarithm, or the same.
-/
import Derived.Test.YtbbfblfgieobeaaDoorLogsRef
import Derived.OpenShut
namespace Go.Proofs.YtbbfblfgieobeaaDoor.logsRise
set_option linter.unusedVariables false
open Go.RowKit

set_option maxHeartbeats 1000000 in
theorem walk0 (a b : Int) (w : World) (H : Steps w) (h : a = 0 ∨ b = 0) (ha : 0 ≤ a) (hb : 0 ≤ b) :
    Calls Tryd.prog 4 #[.int .u64 a, .int .u64 b] w fun e w' => e = .returned (.bool true) ∧ Ext w w' := by
  by_cases h1 : a = 0
  case' pos => subst h1
  case' neg =>
    have ne : (a == 0) = false := by simp; omega
    have hb : b = 0 := by omega
    subst hb
  all_goals
    clear h
    go_enter Tryd.func4, Tryd.ntmps4
    go_wp2_with fail
    refine (awake2_any _ H).mono ?_
    rintro e w' ⟨rfl, HE⟩
    go_wp2_with fail
    go_ret
    exact ⟨rfl, HE⟩

set_option maxHeartbeats 1000000 in
theorem walk1 (a b : Int) (w : World) (H : Steps w) (ha : 0 < a) (hb : 0 < b) (ha' : a < 18446744073709551616) (hb' : b < 18446744073709551616) :
    Calls Tryd.prog 4 #[.int .u64 a, .int .u64 b] w fun e w' => e = .returned (.bool true) ∧ Ext w w' := by
  have na : (a == 0) = false := by simp; omega
  have nb : (b == 0) = false := by simp; omega
  have c1 := fun w H => log_any (min a b) w H (by omega) (by omega)
  have c2 := fun w H => log_any (max a b) w H (by omega) (by omega)
  have c3 := fun w H => neg_any (min a b) w H (by omega) (by omega)
  have c4 := fun w H => neg_any (max a b) w H (by omega) (by omega)
  have r1 := flog_rises (min a b) (max a b) (by omega) (by omega) (by omega)
  have r2 := fneg_falls (min a b) (max a b) (by omega) (by omega) (by omega)
  generalize flog (min a b) = x at *
  generalize flog (max a b) = y at *
  generalize fneg (min a b) = u at *
  generalize fneg (max a b) = v at *
  go_enter Tryd.func4, Tryd.ntmps4
  go_wp2_with fail
  refine (c1 _ H).mono ?_
  rintro e w' ⟨rfl, n1, rfl⟩
  go_wp2_with fail
  refine (c2 _ (H.drewN _)).mono ?_
  rintro e w' ⟨rfl, n2, rfl⟩
  go_wp2_with fail
  refine (c3 _ (H.drewN _)).mono ?_
  rintro e w' ⟨rfl, n3, rfl⟩
  go_wp2_with fail
  refine (c4 _ (H.drewN _)).mono ?_
  rintro e w' ⟨rfl, n4, rfl⟩
  go_wp2_with fail
  refine (awake2_any _ (H.drewN _)).mono ?_
  rintro e w3 ⟨rfl, HE3⟩
  go_wp2_with fail
  go_ret
  exact ⟨rfl, ((Ext.refl w).drewN _).trans HE3⟩

theorem walk (a0 : Int) (a1 : Int) (w0 : (Lit.int .u64 a0).wf = true) (w1 : (Lit.int .u64 a1).wf = true) (w : World) (H : Steps w) :
    Calls Tryd.prog 4 #[.int .u64 a0, .int .u64 a1] w fun e w' => e = .returned (.bool true) ∧ Ext w w' := by
  obtain ⟨b0, b0'⟩ := bounds_u64 w0
  obtain ⟨b1, b1'⟩ := bounds_u64 w1
  by_cases h : a0 = 0 ∨ a1 = 0
  · exact walk0 a0 a1 w H h b0 b1
  · exact walk1 a0 a1 w H (by omega) (by omega) (by omega) (by omega)
end Go.Proofs.YtbbfblfgieobeaaDoor.logsRise
