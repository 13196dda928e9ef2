/-
  Walks of package eqn: divisor, Rate, Loss, Fair, First; and of the law's fixed answer, 'awake'.
-/
import Derived.Test.YtcjohgfmdnimjaaDoorEqnMath
namespace Go.Proofs.YtcjohgfmdnimjaaDoor
set_option linter.unusedVariables false
open Go.RowKit

theorem drew_grown (w : World) (n : Nat) : Grown w (w.drewN n) := Grown.refl w

/-- the number in the middle, as Loss finds it -/
theorem middle (l h : Int) (h1 : 1 ≤ l) (h2 : l < h) (h3 : h ≤ 4294967296) : fsub h l = h - l ∧ fhalf (h - l) 1 = (h - l) / 2 ∧ fadd l ((h - l) / 2) = l + (h - l) / 2 ∧ fadd (l + (h - l) / 2) 1 = l + (h - l) / 2 + 1 := by
  refine ⟨?_, ?_, ?_, ?_⟩
  · unfold fsub; rw [if_neg (by omega)]
  · unfold fhalf; rw [if_neg (by omega), if_neg (by omega)]; rfl
  · unfold fadd; rw [if_neg (by omega)]
  · unfold fadd; rw [if_neg (by omega)]

end Go.Proofs.YtcjohgfmdnimjaaDoor
