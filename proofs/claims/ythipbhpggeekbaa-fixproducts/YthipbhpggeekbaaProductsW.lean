/-
  The walk of FixProducts: products of any two numbers are rounded down, or the greatest one; so often a number is, too.
-/
import Derived.Test.YthipbhpggeekbaaRefUp
import Derived.OpenShut
namespace Go.Proofs.Ythipbhpggeekbaa.fixProducts
set_option linter.unusedVariables false
open Go.RowKit

theorem times_floor (a b : Int) (ha : 0 ≤ a) (hb : 0 ≤ b) : 0 ≤ ftimes a b ∧ ftimes a b < 18446744073709551616 ∧ ftimes a b * 4294967296 ≤ a * b ∧ (ftimes a b = 18446744073709551615 ∨ a * b < (ftimes a b + 1) * 4294967296) := by
  have := Int.mul_nonneg ha hb
  unfold ftimes
  generalize a * b = P at *
  split <;> omega

set_option maxHeartbeats 1000000 in
theorem walk (a0 : Int) (a1 : Int) (a2 : Int) (w0 : (Lit.int .u64 a0).wf = true) (w1 : (Lit.int .u64 a1).wf = true) (w2 : (Lit.int .u64 a2).wf = true) (w : World) :
    Calls Try.prog 4 #[.int .u64 a0, .int .u64 a1, .int .u64 a2] w fun e w' => e = .returned (.bool true) ∧ Below w.heap.size w w' := by
  obtain ⟨b0, b0'⟩ := bounds_u64 w0
  obtain ⟨b1, b1'⟩ := bounds_u64 w1
  obtain ⟨b2, b2'⟩ := bounds_u64 w2
  clear w0 w1 w2
  have T1 := hid (times_floor a0 a1 b0 b1)
  have T2 := hid (times_floor a0 a2 b0 b2)
  have E := (Ext.refl w).alloc (.cells (ints [1]).toArray 3)
  have c1 := hid (num_lit w [1] 1 canon_1 (by decide) (by decide))
  go_enter Try.func4, Try.ntmps4
  go_wp2_with fail
  refine (refUp_any _ _ _ _ c1.out (by decide)).mono ?_
  rintro e w1 ⟨v1, rfl, b1, n1⟩
  have X1 : Ext _ w1 := b1
  clear b1
  replace E := E.trans X1
  clear X1
  go_wp2_with fail
  clear c1
  refine (mul_any a0 a1 b0 b1 (by omega) (by omega) _).mono ?_
  rintro e w' ⟨rfl, rfl⟩
  go_wp2_with fail
  refine (lawOf_any a0 _ b0 (by omega)).mono ?_
  rintro e w2 ⟨v2, rfl, b2, n2⟩
  have X2 : Ext _ w2 := b2
  clear b2
  replace E := E.trans X2
  replace n1 := n1.ext X2
  clear X2
  go_wp2_with fail
  refine (lawOf_any a1 _ b1 (by omega)).mono ?_
  rintro e w3 ⟨v3, rfl, b3, n3⟩
  have X3 : Ext _ w3 := b3
  clear b3
  replace E := E.trans X3
  replace n1 := n1.ext X3
  replace n2 := n2.ext X3
  clear X3
  go_wp2_with fail
  refine (refMul_any _ _ _ _ _ _ _ n2 n3 (by decide) (by decide)).mono ?_
  rintro e w4 ⟨v4, rfl, b4, n4⟩
  have X4 : Ext _ w4 := b4
  clear b4
  replace E := E.trans X4
  replace n1 := n1.ext X4
  replace n2 := n2.ext X4
  replace n3 := n3.ext X4
  clear X4
  go_wp2_with fail
  clear n2
  clear n3
  refine (floor_true _ _ _ _ _ _ _ _ T1.out.1 T1.out.2.1 n4 n1 (by decide) (by decide) (by omega) (fun _ => T1.out.2.2)).mono ?_
  rintro e w5 ⟨rfl, X5⟩
  replace E := E.trans X5
  replace n1 := n1.ext X5
  replace n4 := n4.ext X5
  clear X5
  go_wp2_with fail
  clear n4
  refine (times_any a0 a2 b0 b2 (by omega) (by omega) _).mono ?_
  rintro e w' ⟨rfl, rfl⟩
  go_wp2_with fail
  refine (lawOf_any a0 _ b0 (by omega)).mono ?_
  rintro e w6 ⟨v6, rfl, b6, n5⟩
  have X6 : Ext _ w6 := b6
  clear b6
  replace E := E.trans X6
  replace n1 := n1.ext X6
  clear X6
  go_wp2_with fail
  refine (refOf_any a2 _ b2 (by omega)).mono ?_
  rintro e w7 ⟨v7, rfl, b7, n6⟩
  have X7 : Ext _ w7 := b7
  clear b7
  replace E := E.trans X7
  replace n1 := n1.ext X7
  replace n5 := n5.ext X7
  clear X7
  go_wp2_with fail
  refine (refMul_any _ _ _ _ _ _ _ n5 n6 (by decide) (by decide)).mono ?_
  rintro e w8 ⟨v8, rfl, b8, n7⟩
  have X8 : Ext _ w8 := b8
  clear b8
  replace E := E.trans X8
  replace n1 := n1.ext X8
  replace n5 := n5.ext X8
  replace n6 := n6.ext X8
  clear X8
  go_wp2_with fail
  clear n5
  clear n6
  refine (floor_true _ _ _ _ _ _ _ _ T2.out.1 T2.out.2.1 n7 n1 (by decide) (by decide) (by omega) (fun _ => T2.out.2.2)).mono ?_
  rintro e w9 ⟨rfl, X9⟩
  replace E := E.trans X9
  replace n1 := n1.ext X9
  replace n7 := n7.ext X9
  clear X9
  go_wp2_with fail
  clear n7
  clear n1
  refine (awake_any _).mono ?_
  rintro e w' ⟨rfl, k, rfl⟩
  replace E := E.drewN k
  go_wp2_with fail
  go_ret
  exact ⟨rfl, E⟩
end Go.Proofs.Ythipbhpggeekbaa.fixProducts
