/-
  What the row's condition on the package's table gives the walks; the door's own heap meets it.
-/
import Derived.Test.YtcjohgfmdnimjaaDoorRows
import Derived.Test.YtcjohgfmdnimjaaDoorLogs
import Derived.Lib.LaidTab
import Derived.LaidMore
import Derived.ProofKit
import Derived.OpenShut
import Derived.Stop.Joined
namespace Go.Proofs.YtcjohgfmdnimjaaDoor
set_option linter.unusedVariables false
open Go.ChangeShapes Go.WideShapes Go.ChangeAt Go.RowKit

/-- what the row lists -/
abbrev listed : List (String × DataW Unit) := [("terrace/logs.steps", Rows.laid_terrace_logs_steps)]
def ints17 : List Int := [0, 5732, 11136, 16248, 21098, 25711, 30109, 34312, 38336, 42196, 45904, 49472, 52911, 56229, 59434, 62534, 65536]
theorem listed_tab : listed = [("terrace/logs.steps", Lib.tabData .i64 ints17)] := rfl
theorem gSteps : Tryd.prog.globalNamed "terrace/logs.steps" = some 2 := by kernel_rfl
theorem tSteps : (Tryd.prog.globals[2]?).map (·.type) = some 72 := by kernel_rfl
theorem cellsInt : Tryd.prog.cellsOf 3 = 1 := by kernel_rfl
theorem cellsTab : Tryd.prog.cellsOf 72 = 17 := by kernel_rfl

theorem steps_of_laid {W : World} (h : laidMetH Tryd.prog listed W) : Steps W := by
  rw [MakeChecks.laidMetH_plain _ _ _ (by kernel_rfl), listed_tab] at h
  have t := Lib.tabIs_of_head gSteps tSteps Tryd.underlying72 Tryd.underlying3 cellsInt cellsTab h
  unfold Lib.TabIs World.var? at t
  simp only [gSteps, Option.bind_some] at t
  have e : (ints17.map fun z => Value.int .i64 z).toArray = tabs := rfl
  rw [e] at t
  split at t
  · rename_i cs ty fr hh
    exact ⟨ty, fr, by rw [hh]; simp only [Option.some.injEq] at t; rw [t]⟩
  · cases t

theorem door_met (os : Os) (args : Array Value) : laidMetH Tryd.prog listed ((World.doorLaid Tryd.prog 400 os).forCall (fun _ _ => 0) ⟨#[], args, []⟩).memory :=
  laidMetH_of_parts3 (fuel := 8) (laidMet_of_run' 8 (by kernel_rfl) (by kernel_rfl)) (by kernel_rfl) (by kernel_rfl)
end Go.Proofs.YtcjohgfmdnimjaaDoor
