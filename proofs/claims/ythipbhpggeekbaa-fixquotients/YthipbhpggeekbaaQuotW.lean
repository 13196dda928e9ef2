/-
  The walk of FixQuotients: quotients of any two numbers are rounded down, or the greatest one.
-/
import Derived.Test.YthipbhpggeekbaaRefUp
import Derived.OpenShut
namespace Go.Proofs.Ythipbhpggeekbaa.fixQuotients
set_option linter.unusedVariables false
open Go.RowKit

theorem ratio_floor (a b : Int) (ha : 0 ≤ a) (hb : 0 ≤ b) (ha' : a ≤ 18446744073709551615) :
    0 ≤ fratio a b ∧ fratio a b < 18446744073709551616 ∧ (b = 0 → fratio a b = 18446744073709551615) ∧
    (b ≠ 0 → fratio a b * b ≤ a * 4294967296 ∧ (fratio a b = 18446744073709551615 ∨ a * 4294967296 < (fratio a b + 1) * b)) := by
  unfold fratio
  by_cases h : b ≤ a / 4294967296
  · rw [if_pos h]
    exact ⟨by omega, by omega, fun _ => rfl, fun _ => ⟨by omega, .inl rfl⟩⟩
  · rw [if_neg h]
    have hp : 0 < b := by omega
    have h1 := Int.mul_ediv_add_emod (a * 4294967296) b
    have h2 := Int.emod_nonneg (a * 4294967296) (show b ≠ 0 by omega)
    have h3 := Int.emod_lt_of_pos (a * 4294967296) hp
    have h4 : a * 4294967296 / b < 18446744073709551616 := Int.ediv_lt_of_lt_mul hp (by omega)
    rw [Int.mul_comm] at h1
    refine ⟨Int.ediv_nonneg (by omega) hb, h4, by omega, fun _ => ⟨by omega, .inr ?_⟩⟩
    rw [Int.add_mul]; omega

set_option maxHeartbeats 2000000 in
theorem walk (a b n m : Int) (w0 : (Lit.int .u64 a).wf = true) (w1 : (Lit.int .u64 b).wf = true) (w2 : (Lit.int .u64 n).wf = true) (w3 : (Lit.int .u64 m).wf = true) (w : World) :
    Calls Try.prog 5 #[.agg #[.int .u64 a, .int .u64 b, .int .u64 n, .int .u64 m]] w fun e w' => e = .returned (.bool true) ∧ Below w.heap.size w w' := by
  obtain ⟨b0, b0'⟩ := bounds_u64 w0
  obtain ⟨b1, b1'⟩ := bounds_u64 w1
  obtain ⟨b2, b2'⟩ := bounds_u64 w2
  obtain ⟨b3, b3'⟩ := bounds_u64 w3
  clear w0 w1 w2 w3
  have T1 := hid (ratio_floor a b b0 b1 b0')
  have T2 := hid (ratio_floor n m b2 b3 b2')
  have E := (Ext.refl w).alloc (.cells #[.int .u64 a, .int .u64 b, .int .u64 n, .int .u64 m] 37)
  go_enter Try.func5, Try.ntmps5
  go_wp2_with fail
  go_quiet (fail)
  replace E := E.drewN nq
  go_wp2_with fail
  refine (div_any a b b0 b1 (by omega) (by omega) _).mono ?_
  rintro e w' ⟨rfl, k1, rfl⟩
  replace E := E.drewN k1
  rw [World.drewN_drewN] at E
  go_wp2_with fail
  refine (lawOf_any a _ b0 (by omega)).mono ?_
  rintro e w11 ⟨v11, rfl, b11, n11⟩
  have X11 : Ext _ w11 := b11
  clear b11
  replace E := E.trans X11
  clear X11
  go_wp2_with fail
  refine (refUp_any _ _ _ _ n11 (by decide)).mono ?_
  rintro e w12 ⟨v12, rfl, b12, n12⟩
  have X12 : Ext _ w12 := b12
  clear b12
  replace E := E.trans X12
  clear X12
  go_wp2_with fail
  refine (lawOf_any b _ b1 (by omega)).mono ?_
  rintro e w13 ⟨v13, rfl, b13, n13⟩
  have X13 : Ext _ w13 := b13
  clear b13
  replace E := E.trans X13
  replace n12 := n12.ext X13
  clear X13
  go_wp2_with fail
  refine (floor_true _ _ _ _ _ _ _ _ T1.out.1 T1.out.2.1 n12 n13 (by decide) (by decide) T1.out.2.2.1 T1.out.2.2.2).mono ?_
  rintro e w14 ⟨rfl, X14⟩
  replace E := E.trans X14
  clear X14 n11 n12 n13
  go_wp2_with fail
  refine (ratio_any n m b2 b3 (by omega) (by omega) _).mono ?_
  rintro e w' ⟨rfl, k2, rfl⟩
  replace E := E.drewN k2
  go_wp2_with fail
  refine (refOf_any n _ b2 (by omega)).mono ?_
  rintro e w21 ⟨v21, rfl, b21, n21⟩
  have X21 : Ext _ w21 := b21
  clear b21
  replace E := E.trans X21
  clear X21
  go_wp2_with fail
  refine (refUp_any _ _ _ _ n21 (by decide)).mono ?_
  rintro e w22 ⟨v22, rfl, b22, n22⟩
  have X22 : Ext _ w22 := b22
  clear b22
  replace E := E.trans X22
  clear X22
  go_wp2_with fail
  refine (refOf_any m _ b3 (by omega)).mono ?_
  rintro e w23 ⟨v23, rfl, b23, n23⟩
  have X23 : Ext _ w23 := b23
  clear b23
  replace E := E.trans X23
  replace n22 := n22.ext X23
  clear X23
  go_wp2_with fail
  refine (floor_true _ _ _ _ _ _ _ _ T2.out.1 T2.out.2.1 n22 n23 (by decide) (by decide) T2.out.2.2.1 T2.out.2.2.2).mono ?_
  rintro e w24 ⟨rfl, X24⟩
  replace E := E.trans X24
  clear X24 n21 n22 n23
  go_wp2_with fail
  refine (awake_any _).mono ?_
  rintro e w' ⟨rfl, k3, rfl⟩
  replace E := E.drewN k3
  go_wp2_with fail
  go_ret
  exact ⟨rfl, E⟩
end Go.Proofs.Ythipbhpggeekbaa.fixQuotients
