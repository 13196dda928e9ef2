/-
  The statements' step, each way. (Printed by wip/gen/clrstep.py.)
-/
import Derived.Test.YteokeieddapjhaaClrStep0
import Derived.Test.YteokeieddapjhaaClrStep1a
import Derived.Test.YteokeieddapjhaaClrStep1b
import Derived.Test.YteokeieddapjhaaClrStep1c
import Derived.Test.YteokeieddapjhaaClrStep2
import Derived.Test.YteokeieddapjhaaClrStep3
import Derived.Test.YteokeieddapjhaaClrStep4
import Derived.Test.YteokeieddapjhaaClrStep5
namespace Go.Proofs.Yteokeieddapjhaa.Clr
set_option linter.unusedVariables false
set_option linter.unusedSimpArgs false
set_option maxRecDepth 100000
open Go.RowKit Go.Lib

theorem step_any {K : Nat → Prop} {w : World} {b : Nat} {lim : Int} {s : BS} (h : Bk K w b lim s) (o : OpS) (now : Int) (n0 : 0 ≤ now) (n1 : now ≤ 1000000) :
    Calls Try.prog 10 #[.pointer (some ⟨b, 0, none⟩), .agg (dcs s), .int .i64 lim, .int .i64 now, .agg (ocs o)] w fun e w' => e = .returned (.tuple #[.agg (dcs (bst s lim now o)), .bool true]) ∧ Bk K w' b lim (bst s lim now o) ∧ Kept K w w' := by
  obtain ⟨k, f, a, lt, x⟩ := o
  by_cases k1 : k = 1
  · subst k1
    by_cases q : 2199023255552 < a
    · exact step_take1 h f a lt x now n0 n1 q
    by_cases q2 : a < -2199023255552
    · exact step_take2 h f a lt x now n0 n1 q2
    · exact step_take3 h f a lt x now n0 n1 (by omega) (by omega)
  by_cases k2 : k = 2
  · subst k2; exact step_leave h f a lt x now n0 n1
  by_cases k3 : k = 3
  · subst k3
    cases ec : cl s with
    | none => exact step_pass0 h f a lt x now n0 n1 ec
    | some y =>
      by_cases q : y.1 + lim < now
      · exact step_pass2 h f a lt x now n0 n1 y ec q
      · exact step_pass1 h f a lt x now n0 n1 y ec q
  · exact step_none h k f a lt x now n0 n1 ⟨k1, k2, k3⟩
end Go.Proofs.Yteokeieddapjhaa.Clr
