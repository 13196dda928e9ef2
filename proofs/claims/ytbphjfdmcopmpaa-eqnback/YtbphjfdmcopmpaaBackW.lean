/-
  The walk of EqnBack: the loss of the rate of any loss is no greater than that, and has the same rate.
-/
import Derived.Test.YtbphjfdmcopmpaaEqn
import Derived.OpenShut
namespace Go.Proofs.Ytbphjfdmcopmpaa.eqnBack
set_option linter.unusedVariables false
open Go.RowKit

theorem same_rate (s rtt p q : Int) (s0 : 0 ≤ s) (k0 : 0 ≤ rtt) (h1 : 1 ≤ p) (h2 : p ≤ 4294967296) (L : IsLoss s rtt (frate s rtt p) q) : q ≤ p ∧ frate s rtt q = frate s rtt p := by
  obtain ⟨l1, l2, l3, l4⟩ := L
  have le : q ≤ p := by
    rcases Int.lt_or_le p q with k | k
    · have := l4 p h1 k
      omega
    · exact k
  refine ⟨le, ?_⟩
  rcases Int.lt_or_le q 4294967296 with k | k
  · have := l3 k
    have := frate_p s rtt q p s0 k0 (by omega) le (by omega)
    omega
  · rw [show q = p by omega]

set_option maxHeartbeats 1000000 in
theorem walk (a0 a1 a2 : Int) (w0 : (Lit.int .u32 a0).wf = true) (w1 : (Lit.int .u64 a1).wf = true) (w2 : (Lit.int .u64 a2).wf = true) (w : World) :
    Calls Try.prog 6 #[.int .u32 a0, .int .u64 a1, .int .u64 a2] w fun e w' => e = .returned (.bool true) ∧ Grown w w' := by
  obtain ⟨b0, b0'⟩ := bounds_u32 w0
  obtain ⟨b1, b1'⟩ := bounds_u64 w1
  obtain ⟨b2, b2'⟩ := bounds_u64 w2
  clear w0 w1 w2
  by_cases t : a2 < 1
  · go_enter Try.func6, Try.ntmps6
    go_wp2_with fail
    refine (awake3_any _).mono ?_
    rintro e w' ⟨rfl, n, rfl⟩
    go_wp2_with fail
    go_ret
    exact ⟨rfl, drew_grown _ _⟩
  · by_cases u : 4294967296 < a2
    · go_enter Try.func6, Try.ntmps6
      go_wp2_with fail
      refine (awake3_any _).mono ?_
      rintro e w' ⟨rfl, n, rfl⟩
      go_wp2_with fail
      go_ret
      exact ⟨rfl, drew_grown _ _⟩
    · have c0 := rate_any a0 a1 a2 b0 (by omega) b1 (by omega) (by omega) (by omega)
      have br := frate_room a0 a1 a2 b0 (by omega) b1 (by omega) (by omega)
      have c1 := loss_any a0 a1 (frate a0 a1 a2) b0 (by omega) b1 (by omega) br.1 br.2
      have S := hid (same_rate a0 a1 a2 · b0 b1 (by omega) (by omega))
      obtain ⟨X, eX⟩ : ∃ X, X = frate a0 a1 a2 := ⟨_, rfl⟩
      rw [← eX] at c0 c1 br S
      clear eX
      go_enter Try.func6, Try.ntmps6
      go_wp2_with fail
      refine (c0 _).mono ?_
      rintro e w' ⟨rfl, n1, rfl⟩
      go_wp2_with fail
      refine (c1 _).mono ?_
      rintro e w' ⟨r, L, rfl, n2, rfl⟩
      obtain ⟨le, e1⟩ := S.out r L
      obtain ⟨h1, h2, _, _⟩ := L
      have c2 := rate_any a0 a1 r b0 (by omega) b1 (by omega) (by omega) (by omega)
      rw [e1] at c2
      clear e1 c0 c1
      go_wp2_with fail
      refine (c2 _).mono ?_
      rintro e w' ⟨rfl, n3, rfl⟩
      go_wp2_with fail
      refine (awake3_any _).mono ?_
      rintro e w' ⟨rfl, n4, rfl⟩
      go_wp2_with fail
      go_ret
      exact ⟨rfl, drew_grown _ _⟩
end Go.Proofs.Ytbphjfdmcopmpaa.eqnBack
