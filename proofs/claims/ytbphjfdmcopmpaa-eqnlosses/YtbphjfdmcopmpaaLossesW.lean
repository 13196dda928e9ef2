/-
  The walk of EqnLosses: the loss of any rate is the least one whose rate isn't above it, or One.
-/
import Derived.Test.YtbphjfdmcopmpaaEqn
import Derived.OpenShut
namespace Go.Proofs.Ytbphjfdmcopmpaa.eqnLosses
set_option linter.unusedVariables false
open Go.RowKit

set_option maxHeartbeats 1000000 in
theorem walk (a0 a1 a2 : Int) (w0 : (Lit.int .u32 a0).wf = true) (w1 : (Lit.int .u64 a1).wf = true) (w2 : (Lit.int .u64 a2).wf = true) (w : World) :
    Calls Try.prog 5 #[.int .u32 a0, .int .u64 a1, .int .u64 a2] w fun e w' => e = .returned (.bool true) ∧ Grown w w' := by
  obtain ⟨b0, b0'⟩ := bounds_u32 w0
  obtain ⟨b1, b1'⟩ := bounds_u64 w1
  obtain ⟨b2, b2'⟩ := bounds_u64 w2
  clear w0 w1 w2
  have c0 := loss_any a0 a1 a2 b0 (by omega) b1 (by omega) b2 (by omega)
  go_enter Try.func5, Try.ntmps5
  go_wp2_with fail
  refine (c0 _).mono ?_
  rintro e w' ⟨r, L, rfl, n1, rfl⟩
  obtain ⟨h1, h2, h3, h4⟩ := L
  have c1 := rate_any a0 a1 r b0 (by omega) b1 (by omega) (by omega) (by omega)
  by_cases t1 : r = 1
  · subst t1
    replace h3 := h3 (by decide)
    clear h4 c0
    generalize frate a0 a1 1 = X at *
    go_wp2_with fail
    refine (c1 _).mono ?_
    rintro e w' ⟨rfl, n2, rfl⟩
    go_wp2_with fail
    refine (awake3_any _).mono ?_
    rintro e w' ⟨rfl, n3, rfl⟩
    go_wp2_with fail
    go_ret
    exact ⟨rfl, drew_grown _ _⟩
  · have t1' : (r == 1) = false := by simp [t1]
    have c2 := rate_any a0 a1 (r - 1) b0 (by omega) b1 (by omega) (by omega) (by omega)
    have v := h4 (r - 1) (by omega) (by omega)
    clear h4 t1 c0
    by_cases t2 : r < 4294967296
    · replace h3 := h3 t2
      generalize frate a0 a1 r = X at *
      generalize frate a0 a1 (r - 1) = Y at *
      go_wp2_with fail
      refine (c1 _).mono ?_
      rintro e w' ⟨rfl, n2, rfl⟩
      go_wp2_with fail
      refine (c2 _).mono ?_
      rintro e w' ⟨rfl, n3, rfl⟩
      go_wp2_with fail
      refine (awake3_any _).mono ?_
      rintro e w' ⟨rfl, n4, rfl⟩
      go_wp2_with fail
      go_ret
      exact ⟨rfl, drew_grown _ _⟩
    · clear h3 c1
      generalize frate a0 a1 (r - 1) = Y at *
      go_wp2_with fail
      refine (c2 _).mono ?_
      rintro e w' ⟨rfl, n3, rfl⟩
      go_wp2_with fail
      refine (awake3_any _).mono ?_
      rintro e w' ⟨rfl, n4, rfl⟩
      go_wp2_with fail
      go_ret
      exact ⟨rfl, drew_grown _ _⟩
end Go.Proofs.Ytbphjfdmcopmpaa.eqnLosses
