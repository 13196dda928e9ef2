/-
  The walk of EqnFair: the fair rate is no more than either; the first interval is as long as the loss says.
-/
import Derived.Test.YtbphjfdmcopmpaaEqn
import Derived.Test.YtbphjfdmcopmpaaExt
import Derived.Deep.QuietTactic
import Derived.BigQuiet
import Derived.OpenShut
namespace Go.Proofs.Ytbphjfdmcopmpaa.eqnFair
set_option linter.unusedVariables false
open Go.RowKit

set_option maxHeartbeats 2000000 in
theorem walk (a b c d : Int) (w0 : (Lit.int .u32 a).wf = true) (w1 : (Lit.int .u64 b).wf = true) (w2 : (Lit.int .u64 c).wf = true) (w3 : (Lit.int .u64 d).wf = true) (w : World) :
    Calls Try.prog 7 #[.agg #[.int .u32 a, .int .u64 b, .int .u64 c, .int .u64 d]] w fun e w' => e = .returned (.bool true) ∧ Below w.heap.size w w' := by
  obtain ⟨b0, b0'⟩ := bounds_u32 w0
  obtain ⟨b1, b1'⟩ := bounds_u64 w1
  obtain ⟨b2, b2'⟩ := bounds_u64 w2
  obtain ⟨b3, b3'⟩ := bounds_u64 w3
  clear w0 w1 w2 w3
  have c0 := rate_any a b c b0 (by omega) b1 (by omega) b2 (by omega)
  have c1 := fair_any a b c d b0 (by omega) b1 (by omega) b2 (by omega) b3 (by omega)
  have c2 := first_any a b d b0 (by omega) b1 (by omega) b3 (by omega)
  have c3 := loss_any a b d b0 (by omega) b1 (by omega) b3 (by omega)
  have E := (Ext.refl w).alloc (.cells #[.int .u32 a, .int .u64 b, .int .u64 c, .int .u64 d] 36)
  generalize frate a b c = X at *
  go_enter Try.func7, Try.ntmps7
  go_wp2_with fail
  go_quiet (fail)
  replace E := E.drewN nq
  go_wp2_with fail
  refine (c0 _).mono ?_
  rintro e w' ⟨rfl, k1, rfl⟩
  replace E := E.drewN k1
  rw [World.drewN_drewN] at E
  go_wp2_with fail
  refine (c1 _).mono ?_
  rintro e w' ⟨rfl, k2, rfl⟩
  replace E := E.drewN k2
  rw [World.drewN_drewN] at E
  go_wp2_with fail
  refine (c2 _).mono ?_
  rintro e w' ⟨r, L, rfl, k3, rfl⟩
  replace E := E.drewN k3
  rw [World.drewN_drewN] at E
  go_wp2_with fail
  refine (c3 _).mono ?_
  rintro e w' ⟨s, M, rfl, k4, rfl⟩
  replace E := E.drewN k4
  rw [World.drewN_drewN] at E
  have e1 := L.same M
  subst e1
  obtain ⟨l1, l2, _, _⟩ := L
  have F := hid (ffirst_is r l1 l2)
  generalize ffirst r = Y at *
  clear M c0 c1 c2 c3
  have r0 : (r == 0) = false := by simp; omega
  go_wp2_with fail
  refine (awake3_any _).mono ?_
  rintro e w' ⟨rfl, k5, rfl⟩
  replace E := E.drewN k5
  rw [World.drewN_drewN] at E
  go_wp2_with fail
  go_ret
  exact ⟨rfl, E⟩
end Go.Proofs.Ytbphjfdmcopmpaa.eqnFair
