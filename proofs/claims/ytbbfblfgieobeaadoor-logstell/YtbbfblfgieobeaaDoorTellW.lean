/-
  The walk of LogsTell: the logarithms of any number are what the document says.
-/
import Derived.Test.YtbbfblfgieobeaaDoorLogsRef
import Derived.OpenShut
namespace Go.Proofs.YtbbfblfgieobeaaDoor.logsTell
set_option linter.unusedVariables false
open Go.RowKit

set_option maxHeartbeats 1000000 in
theorem walk0 (w : World) (H : Steps w) :
    Calls Tryd.prog 3 #[.int .u64 0] w fun e w' => e = .returned (.bool true) ∧ Ext w w' := by
  go_enter Tryd.func3, Tryd.ntmps3
  go_wp2_with fail
  refine (log_zero _).mono ?_
  rintro e w' ⟨rfl, rfl⟩
  go_wp2_with fail
  refine (ln_zero _).mono ?_
  rintro e w' ⟨rfl, rfl⟩
  go_wp2_with fail
  refine (neg_zero _).mono ?_
  rintro e w' ⟨rfl, rfl⟩
  go_wp2_with fail
  refine (awake2_any _ H).mono ?_
  rintro e w' ⟨rfl, HE⟩
  go_wp2_with fail
  go_ret
  exact ⟨rfl, HE⟩

set_option maxHeartbeats 1000000 in
theorem walk1 (a : Int) (w : World) (H : Steps w) (h0 : 0 < a) (h1 : a < 18446744073709551616) :
    Calls Tryd.prog 3 #[.int .u64 a] w fun e w' => e = .returned (.bool true) ∧ Ext w w' := by
  have ne : (a == 0) = false := by simp; omega
  have c1 := fun w H => log_any a w H h0 h1
  have c2 := fun w H => ln_any a w H h0 h1
  have c3 := fun w => refLog_any a w h0 h1
  have c4 := fun w => refLn_any a w h0 h1
  have c5 := fun w H => neg_any a w H h0 h1
  have r := flog_room a h0 h1
  have E : fneg a = if 0 < flog a then 0 else -flog a * 65536 := rfl
  generalize flog a = l at *
  generalize fln a = m at *
  generalize fneg a = g at *
  have hg : (l < 0 ∧ g = -l * 65536) ∨ (¬ l < 0 ∧ g = 0) := by
    by_cases hl : l < 0
    · left; rw [if_neg (by omega)] at E; exact ⟨hl, E⟩
    · right
      by_cases hp : 0 < l
      · rw [if_pos hp] at E; exact ⟨hl, E⟩
      · rw [if_neg hp] at E; omega
  clear E
  rcases hg with ⟨hl, rfl⟩ | ⟨hl, rfl⟩
  all_goals
    go_enter Tryd.func3, Tryd.ntmps3
    go_wp2_with fail
    refine (c1 _ H).mono ?_
    rintro e w' ⟨rfl, n1, rfl⟩
    go_wp2_with fail
    refine (c2 _ (H.drewN _)).mono ?_
    rintro e w' ⟨rfl, n2, rfl⟩
    go_wp2_with fail
    refine (c3 _).mono ?_
    rintro e w1 ⟨rfl, HE1⟩
    have H1 := (H.drewN _).ext HE1
    have X1 : Ext w w1 := ((Ext.refl w).drewN _).trans HE1
    clear HE1 H
    go_wp2_with fail
    refine (c4 _).mono ?_
    rintro e w2 ⟨rfl, HE2⟩
    have H2 := H1.ext HE2
    have X2 : Ext w w2 := X1.trans HE2
    clear HE2 H1 X1
    go_wp2_with fail
    refine (c5 _ H2).mono ?_
    rintro e w' ⟨rfl, n3, rfl⟩
    go_wp2_with fail
    refine (awake2_any _ (H2.drewN _)).mono ?_
    rintro e w3 ⟨rfl, HE3⟩
    go_wp2_with fail
    go_ret
    exact ⟨rfl, (X2.drewN _).trans HE3⟩

theorem walk (a0 : Int) (w0 : (Lit.int .u64 a0).wf = true) (w : World) (H : Steps w) :
    Calls Tryd.prog 3 #[.int .u64 a0] w fun e w' => e = .returned (.bool true) ∧ Ext w w' := by
  obtain ⟨b0, b0'⟩ := bounds_u64 w0
  by_cases h : a0 = 0
  · subst h; exact walk0 w H
  · exact walk1 a0 w H (by omega) (by omega)
end Go.Proofs.YtbbfblfgieobeaaDoor.logsTell
