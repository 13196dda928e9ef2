/-
  The walk of EqnRates: any rate is told as the document says, each step rounded.
-/
import Derived.Test.YtbphjfdmcopmpaaEqnRef2
import Derived.OpenShut
namespace Go.Proofs.Ytbphjfdmcopmpaa.eqnRates
set_option linter.unusedVariables false
open Go.RowKit

set_option maxHeartbeats 1000000 in
theorem walk (a0 a1 a2 : Int) (w0 : (Lit.int .u32 a0).wf = true) (w1 : (Lit.int .u64 a1).wf = true) (w2 : (Lit.int .u64 a2).wf = true) (w : World) :
    Calls Try.prog 3 #[.int .u32 a0, .int .u64 a1, .int .u64 a2] w fun e w' => e = .returned (.bool true) ∧ Below w.heap.size w w' := by
  obtain ⟨b0, b0'⟩ := bounds_u32 w0
  obtain ⟨b1, b1'⟩ := bounds_u64 w1
  obtain ⟨b2, b2'⟩ := bounds_u64 w2
  clear w0 w1 w2
  have c0 := rate_any a0 a1 a2 b0 (by omega) b1 (by omega) b2 (by omega)
  have c1 := ref3Rate_any a0 a1 a2 b0 (by omega) b1 (by omega) b2 (by omega)
  have E := Ext.refl w
  by_cases t : a2 = 0
  · subst t
    rw [frate_zero a0 a1 0 b0 (fdivisor_zero a1)] at c0
    clear c1
    go_enter Try.func3, Try.ntmps3
    go_wp2_with fail
    refine (c0 _).mono ?_
    rintro e w' ⟨rfl, k1, rfl⟩
    replace E := E.drewN k1
    go_wp2_with fail
    refine (awake3_any _).mono ?_
    rintro e w' ⟨rfl, k2, rfl⟩
    replace E := E.drewN k2
    rw [World.drewN_drewN] at E
    go_wp2_with fail
    go_ret
    exact ⟨rfl, E⟩
  · have t' : (a2 == 0) = false := by simp [t]
    clear t
    generalize frate a0 a1 a2 = X at *
    go_enter Try.func3, Try.ntmps3
    go_wp2_with fail
    refine (c0 _).mono ?_
    rintro e w' ⟨rfl, k1, rfl⟩
    replace E := E.drewN k1
    go_wp2_with fail
    refine (c1 _).mono ?_
    rintro e w3 ⟨rfl, X⟩
    replace E := E.trans X
    clear X
    go_wp2_with fail
    refine (awake3_any _).mono ?_
    rintro e w' ⟨rfl, k2, rfl⟩
    replace E := E.drewN k2
    go_wp2_with fail
    go_ret
    exact ⟨rfl, E⟩
end Go.Proofs.Ytbphjfdmcopmpaa.eqnRates
